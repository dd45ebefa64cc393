/-
  Any publish, any answer: its flags, its body (switchboardlaw07.PublishWrites answers true for every input).
  Its conditions: none beside those of the row itself (the two tables of unicode/utf8 start as the library's text lays them: the card ties them).
-/
import Derived.Test.YtdbocpkeafcmaaaDoorCards
import Derived.Test.YtdbocpkeafcmaaaDoorTie
import Derived.Test.YtdbocpkeafcmaaaDoorJPublishWritesw
import Derived.Test.YtdbocpkeafcmaaaDoorJPublishWritesf
import Derived.Test.YtdbocpkeafcmaaaDoorJWri7c
import Derived.Test.YtdbocpkeafcmaaaDoorJFew7
import Derived.Test.YtdbocpkeafcmaaaDoorJOpenPub2
import Derived.Test.YtdbocpkeafcmaaaDoorJFr0
import Derived.ProofKit
import Derived.Deep.RegionHeld3
import Derived.Deep.CutRange
import Derived.OpenShut
import Derived.ShutString
import Derived.ChangeOld
import Derived.Deep.DeepHandedRow
import Derived.Deep.DeepWitnessRowRef
import Derived.Lib.LaidU8T
import Derived.Lib.LaidTab
import Derived.Lib.LaidIn
namespace Go.Proofs.YtdbocpkeafcmaaaDoor.publishWrites
open Go.ChangeShapes Go.WideShapes Go.ChangeAt Go.RowKit Go.Lib
open Go.ChangeMaps (open_string shut_string)
set_option linter.unusedVariables false

structure PwJ (w : World) (D R : Bool) (q i : Int) (yt yp : ByteArray) (L1 : List Pr) (xa : Option Addr) (xc : Nat) (k n c : Int) (L2 : List Pr) (za : Option Addr) (zc : Nat) (W : World) : Prop where
  a : W.heap[w.heap.size]? = some (.cells #[.bool D, .bool R, .int .u8 q, .int .u32 i, .slice xa L1.length xc, .string yt, .string yp] 86 (0, 0))
  b : W.heap[w.heap.size + 1]? = some (.cells #[.int .i64 k, .int .u32 n, .int .u8 c, .slice za L2.length zc] 94 (0, 0))
  p : PropsAt W (.slice xa L1.length xc) L1
  r : PropsAt W (.slice za L2.length zc) L2
  bel : Below w.heap.size w W
theorem PwJ.below {w : World} {D R : Bool} {q i : Int} {yt yp : ByteArray} {L1 : List Pr} {xa : Option Addr} {xc : Nat} {k n c : Int} {L2 : List Pr} {za : Option Addr} {zc : Nat} {W V : World} (h : PwJ w D R q i yt yp L1 xa xc k n c L2 za zc W) (hb : Below W.heap.size W V) : PwJ w D R q i yt yp L1 xa xc k n c L2 za zc V :=
  ⟨(hb.block _ (lt_of_block h.a)).trans h.a, (hb.block _ (lt_of_block h.b)).trans h.b, h.p.below hb, h.r.below hb, h.bel.trans (hb.mono h.bel.size)⟩
theorem PwJ.drew {w : World} {D R : Bool} {q i : Int} {yt yp : ByteArray} {L1 : List Pr} {xa : Option Addr} {xc : Nat} {k n c : Int} {L2 : List Pr} {za : Option Addr} {zc : Nat} {W : World} (h : PwJ w D R q i yt yp L1 xa xc k n c L2 za zc W) : PwJ w D R q i yt yp L1 xa xc k n c L2 za zc W.drew := ⟨h.a, h.b, h.p, h.r, h.bel.drew⟩

set_option maxRecDepth 100000 in
set_option maxHeartbeats 4000000 in
theorem walk1 (D R : Bool) (q i : Int) (va : Option Addr) (vn vc : Nat) (tp pl : ByteArray) (A1 : List Pr) (q0 : 0 ≤ q) (q1 : q < 256) (i0 : 0 ≤ i) (i1 : i < 4294967296) (z1 : tp.size ≤ maxLen) (z2 : pl.size ≤ maxLen) (k n c : Int) (ua : Option Addr) (un uc : Nat) (A2 : List Pr) (c0 : 0 ≤ c) (c1 : c < 256) (n0 : 0 ≤ n) (n1 : n < 4294967296) (w : World) (hp : PropsIn w (.slice va vn vc) A1) (hr : PropsIn w (.slice ua un uc) A2) (hT : Tabs w)
    (L1 L2 : List Pr) (hL1 : fewL A1 = L1) (hL2 : fewL A2 = L2) (ok1 : ∀ p ∈ L1, p.ok) (ok2 : ∀ p ∈ L2, p.ok) (ln1 : L1.length ≤ 8) (ln2 : L2.length ≤ 8) (yt yp : ByteArray) (hyt : tp.extract 0 30 = yt) (hyp : pl.extract 0 50 = yp) (zt : yt.size ≤ 65535) (zp : yp.size ≤ 65535) :
    Calls Tryd.prog 9 #[.agg #[.bool D, .bool R, .int .u8 q, .int .u32 i, .slice va vn vc, .string tp, .string pl], .agg #[.int .i64 k, .int .u32 n, .int .u8 c, .slice ua un uc]] w fun e w' => e = .returned (.bool true) ∧ Below w.heap.size w w' := by
  have HT := Lib.hid hT
  have HP := Lib.hid hp
  have HR := Lib.hid hr
  have HFW := Lib.hid (show ∀ W, Below w.heap.size w W → Calls Tryd.prog 59 #[.agg #[.bool D, .bool R, .int .u8 q, .int .u32 i, .slice va vn vc, .string tp, .string pl]] W (fun e w' => ∃ a c, e = .returned (.agg #[.bool D, .bool R, .int .u8 q, .int .u32 i, .slice a L1.length c, .string yt, .string yp]) ∧ OwnP W.heap.size 41 w' (.slice a L1.length c) L1 ∧ Below W.heap.size W w') from fun W hW => by have := few7_calls W D R q i va vn vc tp pl A1 (HP.out.below hW) z1 z2; rw [hL1, hyt, hyp] at this; exact this)
  have HFL := Lib.hid (show ∀ W, Below w.heap.size w W → Calls Tryd.prog 43 #[.slice ua un uc] W (Made 41 W L2) from fun W hW => by have := few_calls W (.slice ua un uc) A2 (HR.out.below hW); rw [hL2] at this; exact this)
  have HLN := Lib.hid (And.intro ln1 ln2)
  clear hT hp hr hL1 hL2 hyt hyp
  have HB0 := Lib.hid (show ((w.alloc (.cells #[.bool D, .bool R, .int .u8 q, .int .u32 i, .slice va vn vc, .string tp, .string pl] 86)).alloc (.cells #[.int .i64 k, .int .u32 n, .int .u8 c, .slice ua un uc] 94)).heap[w.heap.size]? = some (.cells #[.bool D, .bool R, .int .u8 q, .int .u32 i, .slice va vn vc, .string tp, .string pl] 86 (0, 0)) from by rw [Below.heap_alloc _ _ _ (by simp)]; exact heap_alloc_new w _)
  have HA0 := Lib.hid (show ((w.alloc (.cells #[.bool D, .bool R, .int .u8 q, .int .u32 i, .slice va vn vc, .string tp, .string pl] 86)).alloc (.cells #[.int .i64 k, .int .u32 n, .int .u8 c, .slice ua un uc] 94)).heap[w.heap.size + 1]? = some (.cells #[.int .i64 k, .int .u32 n, .int .u8 c, .slice ua un uc] 94 (0, 0)) from by have := heap_alloc_new (w.alloc (.cells #[.bool D, .bool R, .int .u8 q, .int .u32 i, .slice va vn vc, .string tp, .string pl] 86)) (.cells #[.int .i64 k, .int .u32 n, .int .u8 c, .slice ua un uc] 94); rw [World.size_alloc] at this; exact this)
  have B0 := Lib.hid (below_two w (.cells #[.bool D, .bool R, .int .u8 q, .int .u32 i, .slice va vn vc, .string tp, .string pl] 86) (.cells #[.int .i64 k, .int .u32 n, .int .u8 c, .slice ua un uc] 94))
  go_enter Tryd.func9, Tryd.ntmps9
  go_wp2_with fail
  generalize (w.alloc (.cells #[.bool D, .bool R, .int .u8 q, .int .u32 i, .slice va vn vc, .string tp, .string pl] 86)).alloc (.cells #[.int .i64 k, .int .u32 n, .int .u8 c, .slice ua un uc] 94) = W0 at *
  refine (HFW.out _ B0.out).mono ?_
  rintro e V1 ⟨xa, xc, rfl, o1, b1⟩
  have hwl : w.heap.size + 1 < W0.heap.size := lt_of_block HA0.out
  have X1 := Lib.hid ((b1.block _ (lt_of_block HB0.out)).trans HB0.out)
  have Y1 := Lib.hid ((b1.block _ (lt_of_block HA0.out)).trans HA0.out)
  have B1 := Lib.hid (Below.next B0.out b1)
  have O1 := Lib.hid o1
  clear o1 b1 HB0 HA0 B0 HFW
  obtain ⟨d0, d1, d2, d3, d4, d5, d6, df⟩ := cells7 X1.out
  have dl := lt_of_block X1.out
  have U := LocAt.set7 (w := w) (u0 := .bool D) (u1 := .bool R) (u2 := .int .u8 q) (u3 := .int .u32 i) (u4 := .slice xa L1.length xc) (u5 := .string yt) (u6 := .string yp) X1.out B1.out (Nat.le_refl _)
  obtain ⟨xb, hxe, hloc⟩ := U
  injection hxe with hxe
  injection hxe with hxe
  injection hxe with hxe
  subst hxe
  have L0 := Lib.hid hloc
  have Y2 := Lib.hid (show (((((((V1.setCell ⟨w.heap.size, 0, none⟩ (.bool D)).setCell ⟨w.heap.size, 1, none⟩ (.bool R)).setCell ⟨w.heap.size, 2, none⟩ (.int .u8 q)).setCell ⟨w.heap.size, 3, none⟩ (.int .u32 i)).setCell ⟨w.heap.size, 4, none⟩ (.slice xa L1.length xc)).setCell ⟨w.heap.size, 5, none⟩ (.string yt)).setCell ⟨w.heap.size, 6, none⟩ (.string yp)).heap[w.heap.size + 1]? = some (.cells #[.int .i64 k, .int .u32 n, .int .u8 c, .slice ua un uc] 94 (0, 0)) from by
    iterate 7 (rw [Below.heap_setCell _ _ _ _ (by show w.heap.size + 1 ≠ w.heap.size; omega)])
    exact Y1.out)
  have O2 := Lib.hid (show OwnP W0.heap.size 41 (((((((V1.setCell ⟨w.heap.size, 0, none⟩ (.bool D)).setCell ⟨w.heap.size, 1, none⟩ (.bool R)).setCell ⟨w.heap.size, 2, none⟩ (.int .u8 q)).setCell ⟨w.heap.size, 3, none⟩ (.int .u32 i)).setCell ⟨w.heap.size, 4, none⟩ (.slice xa L1.length xc)).setCell ⟨w.heap.size, 5, none⟩ (.string yt)).setCell ⟨w.heap.size, 6, none⟩ (.string yp)) (.slice xa L1.length xc) L1 from by
    iterate 7 (refine OwnP.set ?_ (show w.heap.size < W0.heap.size by omega))
    exact O1.out)
  clear hloc O1 Y1 B1
  obtain ⟨y0, y1, y2, y3, yf⟩ := cells4 Y2.out
  have yl := lt_of_block Y2.out
  go_wp2_with fail
  generalize ((((((V1.setCell ⟨w.heap.size, 0, none⟩ (.bool D)).setCell ⟨w.heap.size, 1, none⟩ (.bool R)).setCell ⟨w.heap.size, 2, none⟩ (.int .u8 q)).setCell ⟨w.heap.size, 3, none⟩ (.int .u32 i)).setCell ⟨w.heap.size, 4, none⟩ (.slice xa L1.length xc)).setCell ⟨w.heap.size, 5, none⟩ (.string yt)).setCell ⟨w.heap.size, 6, none⟩ (.string yp) = U1 at *
  clear d0 d1 d2 d3 d4 d5 d6 df dl y0 y1 y2 y3 yf yl X1
  refine (HFL.out _ L0.out.bel).mono ?_
  rintro e V2 ⟨v, rfl, o2, b2⟩
  obtain ⟨za, zc, rfl⟩ := o2.form
  have L3 := Lib.hid (L0.out.below b2)
  have Y3 := Lib.hid ((b2.block _ (lt_of_block Y2.out)).trans Y2.out)
  have O3 := Lib.hid (O2.out.below b2)
  have hul : w.heap.size + 1 < U1.heap.size := lt_of_block Y2.out
  have Q3 := Lib.hid o2
  clear o2 b2 L0 Y2 O2
  obtain ⟨y0, y1, y2, y3, yf⟩ := cells4 Y3.out
  have yl := lt_of_block Y3.out
  have J0 := Lib.hid (show PwJ w D R q i yt yp L1 xa xc k n c L2 za zc (V2.setCell ⟨w.heap.size + 1, 3, none⟩ (.slice za L2.length zc)) from ⟨(L3.out.set (Nat.lt_succ_self _) _ _).loc, set_cells Y3.out 3 _, (O3.out.set hwl).props, (Q3.out.set hul).props, (L3.out.set (Nat.lt_succ_self _) _ _).bel⟩)
  go_upto_region 3 with fail
  generalize V2.setCell ⟨w.heap.size + 1, 3, none⟩ (.slice za L2.length zc) = U2 at *
  clear y0 y1 y2 y3 yf yl L3 Y3 O3 Q3 HFL
  obtain ⟨hn1, hn2⟩ := HLN.out
  have hok1 : (Pb.mk D R q i L1 yt yp).ok := ⟨q0, q1, i0, i1, zt, zp, ok1, by show L1.length ≤ 1000; omega⟩
  have hok2 : (Pk.mk k n c L2).ok := ⟨c0, c1, n0, n1, ok2, by show L2.length ≤ 1000; omega⟩
  have KC := Lib.hid (show ∀ V, PwJ w D R q i yt yp L1 xa xc k n c L2 za zc V → (V.cell? ⟨w.heap.size, 0, none⟩ = some (.bool D) ∧ V.cell? ⟨w.heap.size, 1, none⟩ = some (.bool R) ∧ V.cell? ⟨w.heap.size, 2, none⟩ = some (.int .u8 q) ∧ V.cell? ⟨w.heap.size, 3, none⟩ = some (.int .u32 i) ∧ V.cell? ⟨w.heap.size, 4, none⟩ = some (.slice xa L1.length xc) ∧ V.cell? ⟨w.heap.size, 5, none⟩ = some (.string yt) ∧ V.cell? ⟨w.heap.size, 6, none⟩ = some (.string yp)) ∧ (V.cell? ⟨w.heap.size + 1, 0, none⟩ = some (.int .i64 k) ∧ V.cell? ⟨w.heap.size + 1, 1, none⟩ = some (.int .u32 n) ∧ V.cell? ⟨w.heap.size + 1, 2, none⟩ = some (.int .u8 c) ∧ V.cell? ⟨w.heap.size + 1, 3, none⟩ = some (.slice za L2.length zc)) from fun V h => by
    obtain ⟨d0, d1, d2, d3, d4, d5, d6, df⟩ := cells7 h.a
    obtain ⟨y0, y1, y2, y3, yf⟩ := cells4 h.b
    exact ⟨⟨d0, d1, d2, d3, d4, d5, d6⟩, ⟨y0, y1, y2, y3⟩⟩)
  have CA := Lib.hid (show ∀ V, PwJ w D R q i yt yp L1 xa xc k n c L2 za zc V → Calls Tryd.prog 49 #[] V (fun e w' => e = .returned (.bool true) ∧ Below V.heap.size V w') from fun V h => awake7_calls V (HT.out.below h.bel))
  have CF := Lib.hid (show ∀ V, Calls Tryd.prog 60 #[.agg #[.bool D, .bool R, .int .u8 q, .int .u32 i, .slice xa L1.length xc, .string yt, .string yp]] V (fun e w' => e = .returned (.int .i64 (pflags q D R)) ∧ Below V.heap.size V w') from fun V => pflags_calls V ⟨D, R, q, i, L1, yt, yp⟩ _ q0 q1)
  have CT := Lib.hid (show ∀ V, PwJ w D R q i yt yp L1 xa xc k n c L2 za zc V → Calls Tryd.prog 56 #[.agg #[.bool D, .bool R, .int .u8 q, .int .u32 i, .slice xa L1.length xc, .string yt, .string yp]] V (fun e w' => ∃ s m p, e = .returned (.agg #[.bool D, .bool R, .int .u8 q, .int .u32 i, .slice p m s, .string yt, .string yp]) ∧ PropsAt w' (.slice p m s) L1 ∧ Below V.heap.size V w') from fun V h => told7_calls V ⟨D, R, q, i, L1, yt, yp⟩ xa L1.length xc h.p (by show L1.length ≤ 1000000; omega))
  have CG := Lib.hid (show ∀ V p m s, Calls Tryd.prog 61 #[.agg #[.bool D, .bool R, .int .u8 q, .int .u32 i, .slice p m s, .string yt, .string yp]] V (fun e w' => e = .returned (.int .i64 (pflags q D R)) ∧ Below V.heap.size V w') from fun V p m s => r7flags_calls V D R q i p m s yt yp q0 q1)
  have CX := Lib.hid (show ∀ V, PwJ w D R q i yt yp L1 xa xc k n c L2 za zc V → Calls Tryd.prog 62 #[.agg #[.bool D, .bool R, .int .u8 q, .int .u32 i, .slice xa L1.length xc, .string yt, .string yp]] V (fun e w' => e = .returned (.string (str (pubL ⟨D, R, q, i, L1, yt, yp⟩))) ∧ Below V.heap.size V w') from fun V h => pubtext_calls V ⟨D, R, q, i, L1, yt, yp⟩ xa L1.length xc hok1 h.p)
  have CY := Lib.hid (show ∀ V p m s, PropsAt V (.slice p m s) L1 → Calls Tryd.prog 63 #[.agg #[.bool D, .bool R, .int .u8 q, .int .u32 i, .slice p m s, .string yt, .string yp]] V (fun e w' => e = .returned (.string (str (pubL ⟨D, R, q, i, L1, yt, yp⟩))) ∧ Below V.heap.size V w') from fun V p m s h => r7text_calls V ⟨D, R, q, i, L1, yt, yp⟩ p m s hok1 h)
  have CZ := Lib.hid (show ∀ V, PwJ w D R q i yt yp L1 xa xc k n c L2 za zc V → Calls Tryd.prog 64 #[.agg #[.int .i64 k, .int .u32 n, .int .u8 c, .slice za L2.length zc]] V (fun e w' => e = .returned (.string (str (packL ⟨k, n, c, L2⟩))) ∧ Below V.heap.size V w') from fun V h => packtext_calls V ⟨k, n, c, L2⟩ za zc hok2 h.r)
  have CB := Lib.hid (show ∀ V, PwJ w D R q i yt yp L1 xa xc k n c L2 za zc V → Calls Tryd.prog 58 #[.agg #[.int .i64 k, .int .u32 n, .int .u8 c, .slice za L2.length zc]] V (fun e w' => ∃ p s, e = .returned (.agg #[.int .i64 k, .int .u32 n, .int .u8 c, .slice p L2.length s]) ∧ PropsAt w' (.slice p L2.length s) L2 ∧ Below V.heap.size V w') from fun V h => (acks7_calls V ⟨k, n, c, L2⟩ za L2.length zc h.r (by show L2.length ≤ 1000000; omega)).mono (by
    rintro e w' ⟨a, m, p, rfl, hp, hb⟩
    obtain ⟨A', cap, hA, -⟩ := id hp
    injection hA with e1 e2 e3
    subst e1 e2 e3
    exact ⟨_, _, rfl, hp, hb⟩))
  have CC := Lib.hid (show ∀ V p s, PropsAt V (.slice p L2.length s) L2 → Calls Tryd.prog 65 #[.agg #[.int .i64 k, .int .u32 n, .int .u8 c, .slice p L2.length s]] V (fun e w' => e = .returned (.string (str (packL ⟨k, n, c, L2⟩))) ∧ Below V.heap.size V w') from fun V p s h => r7acktext_calls V ⟨k, n, c, L2⟩ p s hok2 h)
  generalize str (pubL ⟨D, R, q, i, L1, yt, yp⟩) = TX at *
  generalize str (packL ⟨k, n, c, L2⟩) = TY at *
  generalize pflags q D R = FL at *
  clear hok1 hok2 HT HP HR hwl hul
  have HS := Lib.hid J0.out.drew
  go_region_held3 (fun V => (V.cell? ⟨w.heap.size, 0, none⟩ = some (.bool D) ∧ V.cell? ⟨w.heap.size, 1, none⟩ = some (.bool R) ∧ V.cell? ⟨w.heap.size, 2, none⟩ = some (.int .u8 q) ∧ V.cell? ⟨w.heap.size, 3, none⟩ = some (.int .u32 i) ∧ V.cell? ⟨w.heap.size, 4, none⟩ = some (.slice xa L1.length xc) ∧ V.cell? ⟨w.heap.size, 5, none⟩ = some (.string yt) ∧ V.cell? ⟨w.heap.size, 6, none⟩ = some (.string yp)) ∧ (V.cell? ⟨w.heap.size + 1, 0, none⟩ = some (.int .i64 k) ∧ V.cell? ⟨w.heap.size + 1, 1, none⟩ = some (.int .u32 n) ∧ V.cell? ⟨w.heap.size + 1, 2, none⟩ = some (.int .u8 c) ∧ V.cell? ⟨w.heap.size + 1, 3, none⟩ = some (.slice za L2.length zc)))
    (first | (with_reducible exact KC.out _ HS.out) | fail)
    (first
      | (go_at_call 49; (with_reducible refine (CA.out _ HS.out).mono ?_); rintro e V ⟨rfl, b⟩; (with_reducible have HS := Lib.hid (HS.out.below b)); clear b)
      | (go_at_call 60; (with_reducible refine (CF.out _).mono ?_); rintro e V ⟨rfl, b⟩; (with_reducible have HS := Lib.hid (HS.out.below b)); clear b)
      | (go_at_call 56; (with_reducible refine (CT.out _ HS.out).mono ?_); rintro e V ⟨s, m, p, rfl, hpt, b⟩; (with_reducible have HS := Lib.hid (HS.out.below b)); have HPT := Lib.hid hpt; clear b hpt)
      | (go_at_call 61; (with_reducible refine (CG.out _ _ _ _).mono ?_); rintro e V ⟨rfl, b⟩; (with_reducible have HS := Lib.hid (HS.out.below b)); clear b)
      | (go_at_call 62; (with_reducible refine (CX.out _ HS.out).mono ?_); rintro e V ⟨rfl, b⟩; (with_reducible have HS := Lib.hid (HS.out.below b)); clear b)
      | (go_at_call 63; (with_reducible refine (CY.out _ _ _ _ HPT.out).mono ?_); rintro e V ⟨rfl, b⟩; (with_reducible have HS := Lib.hid (HS.out.below b)); clear b)
      | (go_at_call 64; (with_reducible refine (CZ.out _ HS.out).mono ?_); rintro e V ⟨rfl, b⟩; (with_reducible have HS := Lib.hid (HS.out.below b)); clear b)
      | (go_at_call 58; (with_reducible refine (CB.out _ HS.out).mono ?_); rintro e V ⟨p, s, rfl, hpt, b⟩; (with_reducible have HS := Lib.hid (HS.out.below b)); have HPA := Lib.hid hpt; clear b hpt)
      | (go_at_call 65; (with_reducible refine (CC.out _ _ _ HPA.out).mono ?_); rintro e V ⟨rfl, b⟩; (with_reducible have HS := Lib.hid (HS.out.below b)); clear b))
  all_goals
    go_wp2
    go_ret
    exact ⟨rfl, HS.out.bel⟩

theorem walk (v0 : Value) (x : Pb × Option Addr × Nat × Nat) (v1 : Value) (y : Pk × Option Addr × Nat × Nat) (w : World) (h0 : PubArgL w v0 x) (h1 : PackArg w v1 y) (hT : Tabs w) :
    Calls Tryd.prog 9 #[v0, v1] w fun e w' => e = .returned (.bool true) ∧ Below w.heap.size w w' := by
  obtain ⟨⟨dup, ret, q, i, ps, tp, pl⟩, va, vn, vc⟩ := x
  obtain ⟨rfl, q0, q1, i0, i1, z1, z2, hp, -⟩ := h0
  obtain ⟨⟨k, n, c, qs⟩, ua, un, uc⟩ := y
  obtain ⟨rfl, c0, c1, n0, n1, hr, -⟩ := h1
  dsimp only at *
  have f1 := few_ok ps hp.num
  have f2 := few_ok qs hr.num
  refine walk1 dup ret q i va vn vc tp pl ps q0 q1 i0 i1 z1 z2 k n c ua un uc qs c0 c1 n0 n1 w hp hr hT _ _ rfl rfl (fun p h => (f1 p h).1) (fun p h => (f2 p h).1) ?_ ?_ _ _ rfl rfl ?_ ?_
  · unfold fewL; rw [List.length_map, List.length_take]; omega
  · unfold fewL; rw [List.length_map, List.length_take]; omega
  · simp; omega
  · simp; omega

set_option maxRecDepth 100000 in
set_option maxHeartbeats 2000000 in
theorem lifted (os : Os) (started : os.Started) (H : Type) (enc : TypeId × Value → H) (F : Stop.Interp) :
    ReturnsInHanded {} Tryd.checked os 9 .any ((OpenSpec.ofChange Rows.publishWritesSpec).preRow enc Tryd.prog Tryd.f9 Rows.publishWritesRow.domain false Rows.publishWritesRow.laid) (((OpenSpec.ofChange Rows.publishWritesSpec).at F).post enc Tryd.prog Tryd.f9 false true false false) := by
  obtain ⟨places, hx⟩ := reads os enc
  refine returnsInHanded_of_row (C := Tryd.checked) (s := OpenSpec.ofChange Rows.publishWritesSpec) own started (by kernel_rfl) Tryd.func9
    (witness_row_at (enc := enc) (C := Tryd.checked) false (laidWorld os) #[.agg #[.bool false, .bool false, .int .u8 0, .int .u32 0, .slice none 0 0, .string ByteArray.empty, .string ByteArray.empty], .agg #[.int .i64 0, .int .u32 0, .int .u8 0, .slice none 0 0]] rfl (by kernel_rfl) (by kernel_rfl) (by kernel_rfl)
      (OpenSpec.preRow_of_cond 8 hx (by kernel_rfl) (fun k hk => by cases hk) (by kernel_rfl) (laid_met os))) ?_
  intro W base args ds gs before hval0 hW _ _ _ hL _ _
  have hval : ∀ (j : Nat) t v, Tryd.f9.params[j]? = some t → args[j]? = some v → Value.okWide Tryd.prog W .any base t v := hval0
  have hW' := hW
  obtain ⟨p, q, hA0, hV, rfl, hfz, hnd⟩ := hW
  have hA : DataW.TrodAll enc Tryd.prog W 0 (fun _ => true) true Tryd.f9.params.toList args.toList ds p := hA0
  rw [Tryd.params9] at hA hval
  obtain ⟨v0, vs0, d0, ds0, p0, q0, hargs, rfl, rfl, h0, r0⟩ := trodAll_cons hA
  obtain ⟨v1, vs1, d1, ds1, p1, q1, rfl, rfl, rfl, h1, r1⟩ := trodAll_cons r0
  obtain ⟨rfl, rfl, rfl⟩ := trodAll_nil r1
  obtain rfl : args = #[v0, v1] := by cases args; simp_all
  obtain ⟨rfl, rfl⟩ := trodVars_none hV
  have k0 := h0
  have lt0 : ∀ x ∈ p0, x.block < W.heap.size := by obtain ⟨m, hm⟩ := k0; exact DataW.trod_lt m _ _ _ hm
  obtain ⟨a0, w0⟩ := open_publ (hval 0 86 v0 rfl rfl) h0
  have k1 := h1
  have lt1 : ∀ x ∈ p1, x.block < W.heap.size := by obtain ⟨m, hm⟩ := k1; exact DataW.trod_lt m _ _ _ hm
  obtain ⟨a1, w1⟩ := open_packa (hval 1 94 v1 rfl rfl) h1
  clear hA0 hval0
  have hT : Tabs W := utf8Tabs_of_readsT (U8Types.of196 Tryd.lays196) ⟨by kernel_rfl, by kernel_rfl, by kernel_rfl, by kernel_rfl, by kernel_rfl, by kernel_rfl, by kernel_rfl⟩ (first_eq ▸ Lib.laidMet.reads hL (.tail _ (.head _))) (accept_eq ▸ Lib.laidMet.reads hL (.head _))
  refine (walk v0 a0 v1 a1 W w0 w1 hT).mono fun e W' ⟨he, bel⟩ => ?_
  subst he
  exact ⟨_, rfl, _, _, _, [], _, [], hW', trodAll_mk1 (shut_bool Tryd.underlying4 _), (trodAll_cons_mk (Below.trod laidOut (by kernel_rfl) (of_decide_eq_true (by kernel_rfl)) k0 bel lt0) (trodAll_cons_mk (Below.trod laidOut (by kernel_rfl) (of_decide_eq_true (by kernel_rfl)) k1 bel lt1) trodAll_mk0)), rfl, bel.frame _, fun h => by cases h⟩

theorem said : Rows.PublishWritesSaid :=
  OpenClaim.holds_of_cond 9 Tryd.f9 rfl rfl rfl rfl rfl rfl rfl ⟨rfl, rfl, rfl, rfl, rfl⟩ rfl rfl rfl rfl rfl (by kernel_rfl) Tryd.func9 closed
    (of_decide_eq_true (by kernel_rfl)) (by unfold Func.isWrapper; first | (rw [if_pos (by decide +kernel)]; kernel_rfl) | (rw [if_neg (by decide +kernel)]; exact ⟨rfl, rfl⟩))
    (fun os started H enc _ F => by rw [OpenClaim.pre_eq_preRow]; exact lifted os started H enc F)

theorem plain (f : FuncId) (fn : Func) (hf : Tryd.pinned.checked.prog.funcNamed Tryd.f9.name = some f) (hfn : Tryd.pinned.checked.prog.funcs[f]? = some fn) :
    false = Tryd.pinned.checked.prog.looks [] ∧ ∀ (j : Nat) t, fn.params[j]? = some t → Tryd.pinned.checked.prog.wantsStandIn t = false := by
  obtain rfl : f = 9 := Option.some.inj ((show Tryd.prog.funcNamed Tryd.f9.name = some 9 by kernel_rfl).symm.trans hf) |>.symm
  obtain rfl : fn = Tryd.f9 := (Option.some.inj (Tryd.func9.symm.trans hfn)).symm
  refine ⟨fac_looks, fun j t ht => ?_⟩
  rw [Tryd.params9] at ht
  have hm : t = 86 ∨ t = 94 := by simpa using Array.mem_of_getElem? ht
  rcases hm with rfl | rfl
  · exact (show Tryd.prog.wantsStandIn 86 = false by kernel_rfl)
  · exact (show Tryd.prog.wantsStandIn 94 = false by kernel_rfl)

end Go.Proofs.YtdbocpkeafcmaaaDoor.publishWrites
namespace Go.Proofs.YtdbocpkeafcmaaaDoor
/-- The statement. -/
theorem publishWrites_holds : Rows.PublishWritesCardSaid :=
  Claim7.holds_tied_plain_at .later [] _ _ _ _ publishWrites.said (fun _ h => by cases h) publishWrites.wft (fun _ h => by cases h) publishWrites_row_tie rfl ⟨rfl, rfl⟩ fac_main rfl publishWrites.plain publishWrites.goes
#print axioms publishWrites_holds
end Go.Proofs.YtdbocpkeafcmaaaDoor
