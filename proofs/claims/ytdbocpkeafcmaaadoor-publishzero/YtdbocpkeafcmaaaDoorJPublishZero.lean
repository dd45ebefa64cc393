/-
  An identifier of 0 is told as forbidden (switchboardlaw07.PublishZero answers true for every input).
  Its conditions: none beside those of the row itself (the two tables of unicode/utf8 start as the library's text lays them: the card ties them).
-/
import Derived.Test.YtdbocpkeafcmaaaDoorCards
import Derived.Test.YtdbocpkeafcmaaaDoorTie
import Derived.Test.YtdbocpkeafcmaaaDoorJPublishZerow
import Derived.Test.YtdbocpkeafcmaaaDoorJPublishZerof
import Derived.Test.YtdbocpkeafcmaaaDoorJPub7
import Derived.Test.YtdbocpkeafcmaaaDoorJLet7
import Derived.Test.YtdbocpkeafcmaaaDoorJOpenPub
import Derived.Test.YtdbocpkeafcmaaaDoorJFr0
import Derived.ProofKit
import Derived.Deep.RegionHeld3
import Derived.Deep.CutRange
import Derived.OpenShut
import Derived.ShutString
import Derived.ChangeOld
import Derived.Deep.DeepHandedRow
import Derived.Deep.DeepWitnessRowRef
import Derived.Lib.LaidU8T
import Derived.Lib.LaidTab
import Derived.Lib.LaidIn
namespace Go.Proofs.YtdbocpkeafcmaaaDoor.publishZero
open Go.ChangeShapes Go.WideShapes Go.ChangeAt Go.RowKit Go.Lib
open Go.ChangeMaps (open_string shut_string)
set_option linter.unusedVariables false

set_option maxRecDepth 100000 in
set_option maxHeartbeats 4000000 in
theorem walk1 (dup ret : Bool) (q i : Int) (va : Option Addr) (vn vc : Nat) (tp pl : ByteArray) (q0 : 0 ≤ q) (q1 : q < 256) (z1 : tp.size ≤ maxLen) (z2 : pl.size ≤ maxLen) (a1 : Int) (w : World) (hT : Tabs w) (Q : Int) (hQ : 1 + bits .and .u8 q 1 = Q) (hQ1 : 1 ≤ Q) (hQ2 : Q ≤ 2) (L P : ByteArray) (hL : str (lets (tp.data.toList.take 20)) = L) (hP : pl.extract 0 50 = P) (k : Int) (hk : 4 + bits .and .i64 a1 3 = k) (hk4 : 4 ≤ k) (hk7 : k ≤ 7) :
    Calls Tryd.prog 13 #[.agg #[.bool dup, .bool ret, .int .u8 q, .int .u32 i, .slice va vn vc, .string tp, .string pl], .int .i64 a1] w fun e w' => e = .returned (.bool true) ∧ Below w.heap.size w w' := by
  have HT := Lib.hid hT
  have hwr : IntKind.u8.wrap (1 + bits .and .u8 q 1) = Q := by rw [hQ, IntKind.wrap_u8']; omega
  have hwr2 : (1 + bits .and .u8 q 1) % 256 = Q := by rw [hQ]; omega
  have hkr : wrap64 (4 + bits .and .i64 a1 3) = k := by rw [hk]; unfold wrap64; omega
  have HLET := Lib.hid (show ∀ W, Calls Tryd.prog 66 #[.string tp] W (fun e w' => e = .returned (.string L) ∧ Below W.heap.size W w') from fun W => by have := letters7_calls W tp z1; rw [hL] at this; exact this)
  have HCUT := Lib.hid (show ∀ W, Calls Tryd.prog 20 #[.string pl, .int .i64 50] W (fun e w' => e = .returned (.string P) ∧ W = w') from fun W => by have := cut_calls W pl 50 z2; rw [hP] at this; exact this)
  have HL := Lib.hid hL
  have HP := Lib.hid hP
  clear hT hL hP hQ
  go_enter Tryd.func13, Tryd.ntmps13
  go_wp2_with fail
  have hbx := heap_alloc_new w (.cells #[.bool dup, .bool ret, .int .u8 q, .int .u32 i, .slice va vn vc, .string tp, .string pl] 86)
  have b0 := below_one w (.cells #[.bool dup, .bool ret, .int .u8 q, .int .u32 i, .slice va vn vc, .string tp, .string pl] 86)
  generalize w.alloc (.cells #[.bool dup, .bool ret, .int .u8 q, .int .u32 i, .slice va vn vc, .string tp, .string pl] 86) = W0 at *
  refine (awake7_calls _ (HT.out.below b0)).mono ?_
  rintro e W1 ⟨rfl, b1⟩
  have hby := (b1.block _ (lt_of_block hbx)).trans hbx
  have B1 := Lib.hid (Below.next b0 b1)
  obtain ⟨d0, d1, d2, d3, d4, d5, d6, df⟩ := cells7 hby
  have dl := lt_of_block hby
  clear hbx b0 b1 hby d0 d1 d3 d4 df
  go_upto_region 3 with fail
  go_cut [5] from 10 (fun v5 wx => LocAt w 86 #[.bool false, .bool false, .int .u8 Q, .int .u32 0, .slice none 0 0, .string L, .string P] v5 wx)
  case first =>
    have HS0 := Lib.hid (show W1.drew.cell? ⟨w.heap.size, 2, none⟩ = some (.int .u8 q) ∧ W1.drew.cell? ⟨w.heap.size, 5, none⟩ = some (.string tp) ∧ W1.drew.cell? ⟨w.heap.size, 6, none⟩ = some (.string pl) from ⟨d2, d5, d6⟩)
    have HSB := Lib.hid (show (W1.alloc (.cells #[.bool false, .bool false, .int .u8 0, .int .u32 0, .slice none 0 0, .string ⟨#[]⟩, .string ⟨#[]⟩] 86)).drew.cell? ⟨w.heap.size, 2, none⟩ = some (.int .u8 q) ∧ (W1.alloc (.cells #[.bool false, .bool false, .int .u8 0, .int .u32 0, .slice none 0 0, .string ⟨#[]⟩, .string ⟨#[]⟩] 86)).drew.cell? ⟨w.heap.size, 5, none⟩ = some (.string tp) ∧ (W1.alloc (.cells #[.bool false, .bool false, .int .u8 0, .int .u32 0, .slice none 0 0, .string ⟨#[]⟩, .string ⟨#[]⟩] 86)).drew.cell? ⟨w.heap.size, 6, none⟩ = some (.string pl) from ⟨(World.cell?_alloc_lt W1 _ ⟨w.heap.size, 2, none⟩ dl).trans d2, (World.cell?_alloc_lt W1 _ ⟨w.heap.size, 5, none⟩ dl).trans d5, (World.cell?_alloc_lt W1 _ ⟨w.heap.size, 6, none⟩ dl).trans d6⟩)
    have HZB := Lib.hid (show (W1.alloc (.cells #[.bool false, .bool false, .int .u8 0, .int .u32 0, .slice none 0 0, .string ⟨#[]⟩, .string ⟨#[]⟩] 86)).drew.heap[W1.heap.size]? = some (.cells #[.bool false, .bool false, .int .u8 0, .int .u32 0, .slice none 0 0, .string ⟨#[]⟩, .string ⟨#[]⟩] 86 (0, 0)) from heap_alloc_new W1 _)
    have HK := Lib.hid (show ∀ Wx V : World, Below Wx.heap.size Wx V → (Wx.cell? ⟨w.heap.size, 2, none⟩ = some (.int .u8 q) ∧ Wx.cell? ⟨w.heap.size, 5, none⟩ = some (.string tp) ∧ Wx.cell? ⟨w.heap.size, 6, none⟩ = some (.string pl)) → (V.cell? ⟨w.heap.size, 2, none⟩ = some (.int .u8 q) ∧ V.cell? ⟨w.heap.size, 5, none⟩ = some (.string tp) ∧ V.cell? ⟨w.heap.size, 6, none⟩ = some (.string pl)) from fun Wx V hb h => by
      have hl := World.block_lt_of_cell? Wx _ h.1
      exact ⟨(hb.cell (p := ⟨w.heap.size, 2, none⟩) hl).trans h.1, (hb.cell (p := ⟨w.heap.size, 5, none⟩) hl).trans h.2.1, (hb.cell (p := ⟨w.heap.size, 6, none⟩) hl).trans h.2.2⟩)
    have HAL := Lib.hid (show ∀ (V : World) (O : Obj), (V.cell? ⟨w.heap.size, 2, none⟩ = some (.int .u8 q) ∧ V.cell? ⟨w.heap.size, 5, none⟩ = some (.string tp) ∧ V.cell? ⟨w.heap.size, 6, none⟩ = some (.string pl)) → ((V.alloc O).cell? ⟨w.heap.size, 2, none⟩ = some (.int .u8 q) ∧ (V.alloc O).cell? ⟨w.heap.size, 5, none⟩ = some (.string tp) ∧ (V.alloc O).cell? ⟨w.heap.size, 6, none⟩ = some (.string pl)) from fun V O h => HK.out _ _ (below_one V O) h)
    have HSET := Lib.hid (show ∀ (V : World) (b j : Nat) (u : Value), w.heap.size ≠ b → (V.cell? ⟨w.heap.size, 2, none⟩ = some (.int .u8 q) ∧ V.cell? ⟨w.heap.size, 5, none⟩ = some (.string tp) ∧ V.cell? ⟨w.heap.size, 6, none⟩ = some (.string pl)) → ((V.setCell ⟨b, j, none⟩ u).cell? ⟨w.heap.size, 2, none⟩ = some (.int .u8 q) ∧ (V.setCell ⟨b, j, none⟩ u).cell? ⟨w.heap.size, 5, none⟩ = some (.string tp) ∧ (V.setCell ⟨b, j, none⟩ u).cell? ⟨w.heap.size, 6, none⟩ = some (.string pl)) from fun V b j u hne h => by
      have hb := Below.heap_setCell V ⟨b, j, none⟩ u w.heap.size hne
      exact ⟨(World.cell?_of_block (w := V) hb).trans h.1, (World.cell?_of_block (w := V) hb).trans h.2.1, (World.cell?_of_block (w := V) hb).trans h.2.2⟩)
    have hne : w.heap.size ≠ W1.heap.size := Nat.ne_of_lt dl
    have hsz1 := B1.out.size
    go_region_held3 (fun wx => wx.cell? ⟨w.heap.size, 2, none⟩ = some (.int .u8 q) ∧ wx.cell? ⟨w.heap.size, 5, none⟩ = some (.string tp) ∧ wx.cell? ⟨w.heap.size, 6, none⟩ = some (.string pl))
      (first | (with_reducible exact HS0.out) | (with_reducible exact HSB.out) | (with_reducible exact HS1.out) | (with_reducible exact HAL.out _ _ HS1.out) | ((iterate 7 (refine HSET.out _ _ _ _ hne ?_)); with_reducible exact HS1.out) | go_keep | fail)
      (first
        | (go_at_call 66; (with_reducible refine (HLET.out _).mono ?_); rintro e V1 ⟨rfl, b1⟩; (first | (have HS1 := Lib.hid (HK.out _ _ b1 HS0.out); have BV := Lib.hid (Below.next B1.out.drew b1)) | (have HS1 := Lib.hid (HK.out _ _ b1 HSB.out); have BV := Lib.hid (Below.next (B1.out.alloc hsz1 (.cells #[.bool false, .bool false, .int .u8 0, .int .u32 0, .slice none 0 0, .string ⟨#[]⟩, .string ⟨#[]⟩] 86)).drew b1); have HZ1 := Lib.hid ((b1.block _ (lt_of_block HZB.out)).trans HZB.out); obtain ⟨z0, z1', z2', z3, z4, z5, z6, zf⟩ := cells7 HZ1.out; have zl := lt_of_block HZ1.out)); clear b1)
        | (go_at_call 20; (with_reducible refine (HCUT.out _).mono ?_); rintro e V2 ⟨rfl, rfl⟩))
    all_goals
      go_wp2_with fail
      go_meet
      first | (with_reducible exact LocAt.set7 HZ1.out BV.out hsz1) | (with_reducible exact LocAt.new BV.out)
  case rest =>
    obtain ⟨xb, rfl, hloc⟩ := hcut
    clear HLET HCUT d2 d5 d6 dl B1
    have hflag : pflags Q false false = 2 * Q ∧ fQua (2 * Q) = Q := by
      have : Q = 1 ∨ Q = 2 := by omega
      rcases this with rfl | rfl <;> decide +kernel
    generalize hFN : 2 * Q = FN at hflag
    have hg : goodB L = true := by rw [← HL.out]; exact good_lets _ (by rw [List.length_take]; omega)
    have hzl : L.size ≤ 65535 := by rw [← HL.out, str_size]; unfold lets; rw [List.length_map, List.length_take]; omega
    have hzp : P.size ≤ 65535 := by rw [← HP.out]; simp; omega
    have hok : (Pb.mk false false Q 0 [] L P).ok := ⟨by show 0 ≤ Q; omega, by show Q < 256; omega, by show (0 : Int) ≤ 0; decide, by show (0 : Int) < 4294967296; decide, hzl, hzp, (fun p hp => by cases hp), by show 0 ≤ 1000; decide⟩
    obtain ⟨n, ps', pl', s1, x1, s2, x2, s3, x3, s4, x4, hof⟩ := pub_zero (Pb.mk false false Q 0 [] L P) hzl hg (by show Q ≠ 0; omega) rfl
    obtain ⟨n2, c2, ps2, t1, y1, t2, y2, t3, y3, hof2⟩ := pack_zero k
    have HF := Lib.hid (show ∀ W, Calls Tryd.prog 60 #[.agg #[.bool false, .bool false, .int .u8 Q, .int .u32 0, .slice none 0 0, .string L, .string P]] W (fun e w' => e = .returned (.int .i64 FN) ∧ Below W.heap.size W w') from fun W => (pflags_calls W ⟨false, false, Q, 0, [], L, P⟩ (.slice none 0 0) (by show 0 ≤ Q; omega) (by show Q < 256; omega)).mono (by rintro e w' ⟨rfl, hb⟩; exact ⟨ret_int hflag.1, hb⟩))
    have HX := Lib.hid (show ∀ W, Calls Tryd.prog 62 #[.agg #[.bool false, .bool false, .int .u8 Q, .int .u32 0, .slice none 0 0, .string L, .string P]] W (fun e w' => e = .returned (.string (str (pubL ⟨false, false, Q, 0, [], L, P⟩))) ∧ Below W.heap.size W w') from fun W => pubtext_calls W ⟨false, false, Q, 0, [], L, P⟩ none 0 0 hok (PropsAt.nil W 0))
    have HPA := Lib.hid (show ∀ W, Loc w 86 xb #[.bool false, .bool false, .int .u8 Q, .int .u32 0, .slice none 0 0, .string L, .string P] W → Calls Tryd.prog 51 #[.int .i64 FN, .string (str (pubL ⟨false, false, Q, 0, [], L, P⟩))] W (fun e w' => ∃ a c, e = .returned (.tuple #[.agg #[.bool false, .bool false, .int .u8 0, .int .u32 0, .slice a 0 c, .string ⟨#[]⟩, .string ⟨#[]⟩], .int .i64 3]) ∧ Below W.heap.size W w') from fun W hW => (pub_calls W FN _ (HT.out.below hW.bel) (by rw [hflag.2]; omega) (by rw [hflag.2]; omega) (by rw [hflag.2]; exact hof) pbZ rfl).mono (by rintro e w' ⟨v, rfl, o, b⟩; obtain ⟨a, c, rfl⟩ := o.form; exact ⟨a, c, rfl, b⟩))
    have HPK := Lib.hid (show ∀ W, Tabs W → Calls Tryd.prog 53 #[.int .i64 k, .string ⟨#[0, 0]⟩] W (PackR W pkZ 3) from fun W hW => pack_calls W k _ hW hk4 hk7 hof2 pkZ rfl)
    generalize str (pubL ⟨false, false, Q, 0, [], L, P⟩) = BODY at *
    clear hof hof2 hok hflag hFN hg hzl hzp
    obtain ⟨d0, d1, d2, d3, d4, d5, d6, df⟩ := cells7 hloc.loc
    have HL0 := Lib.hid hloc
    have hl0 := hloc.lt
    clear hloc
    go_upto_region 4 with fail
    go_cut [6, 7] from 10 (fun v6 v7 wx => v7 = .int .i64 3 ∧ Below w.heap.size w wx)
    case first =>
      have HL0' := Lib.hid HL0.out.drew
      have KC := Lib.hid (show ∀ V : World, Loc w 86 xb #[.bool false, .bool false, .int .u8 Q, .int .u32 0, .slice none 0 0, .string L, .string P] V → V.cell? ⟨xb, 0, none⟩ = some (.bool false) ∧ V.cell? ⟨xb, 1, none⟩ = some (.bool false) ∧ V.cell? ⟨xb, 2, none⟩ = some (.int .u8 Q) ∧ V.cell? ⟨xb, 3, none⟩ = some (.int .u32 0) ∧ V.cell? ⟨xb, 4, none⟩ = some (.slice none 0 0) ∧ V.cell? ⟨xb, 5, none⟩ = some (.string L) ∧ V.cell? ⟨xb, 6, none⟩ = some (.string P) from fun V h => by obtain ⟨d0, d1, d2, d3, d4, d5, d6, df⟩ := cells7 h.loc; exact ⟨d0, d1, d2, d3, d4, d5, d6⟩)
      have HLA := Lib.hid (HL0.out.alloc (.cells #[.bool false, .bool false, .int .u8 0, .int .u32 0, .slice none 0 0, .string ⟨#[]⟩, .string ⟨#[]⟩] 86)).drew
      have AL := Lib.hid (show ∀ V A, Loc w 86 xb A V → Loc w 86 xb A (V.alloc (.cells #[.bool false, .bool false, .int .u8 0, .int .u32 0, .slice none 0 0, .string ⟨#[]⟩, .string ⟨#[]⟩] 86)) from fun V A h => h.alloc _)
      have AX := Lib.hid (show ∀ V A B, Loc w 86 xb A V → Loc w 86 xb A (V.alloc (.cells B 86)) from fun V A B h => h.alloc _)
      have S7 := Lib.hid (show ∀ V A b u0 u1 u2 u3 u4 u5 u6, xb < b → Loc w 86 xb A V → Loc w 86 xb A (((((((V.setCell ⟨b, 0, none⟩ u0).setCell ⟨b, 1, none⟩ u1).setCell ⟨b, 2, none⟩ u2).setCell ⟨b, 3, none⟩ u3).setCell ⟨b, 4, none⟩ u4).setCell ⟨b, 5, none⟩ u5).setCell ⟨b, 6, none⟩ u6) from fun V A b u0 u1 u2 u3 u4 u5 u6 hb h => by (iterate 7 (refine Loc.set ?_ hb _ _)); exact h)
      go_region_held3 (fun wx => wx.cell? ⟨xb, 0, none⟩ = some (.bool false) ∧ wx.cell? ⟨xb, 1, none⟩ = some (.bool false) ∧ wx.cell? ⟨xb, 2, none⟩ = some (.int .u8 Q) ∧ wx.cell? ⟨xb, 3, none⟩ = some (.int .u32 0) ∧ wx.cell? ⟨xb, 4, none⟩ = some (.slice none 0 0) ∧ wx.cell? ⟨xb, 5, none⟩ = some (.string L) ∧ wx.cell? ⟨xb, 6, none⟩ = some (.string P))
        (first
          | (with_reducible exact KC.out _ HL0'.out) | (with_reducible exact KC.out _ HLA.out)
          | (with_reducible exact KC.out _ HL1.out) | (with_reducible exact KC.out _ (AX.out _ _ _ HL1.out))
          | (with_reducible exact KC.out _ HL2.out) | (with_reducible exact KC.out _ (AX.out _ _ _ HL2.out))
          | (with_reducible exact KC.out _ HL3.out) | (with_reducible exact KC.out _ (AX.out _ _ _ HL3.out))
          | (with_reducible exact KC.out _ (S7.out _ _ _ _ _ _ _ _ _ _ zl HL3.out)) | fail)
        (first
          | (go_at_call 60; (with_reducible refine (HF.out _).mono ?_); rintro e V1 ⟨rfl, b1⟩; (first | (with_reducible have HL1 := Lib.hid (HL0'.out.below b1)) | ((with_reducible have HL1 := Lib.hid (HLA.out.below b1)); (with_reducible have HZ1 := Lib.hid (zkeepD b1)); have zl := hl0)); clear b1)
          | (go_at_call 62; (with_reducible refine (HX.out _).mono ?_); rintro e V2 ⟨rfl, b2⟩; (first | ((with_reducible have HL2 := Lib.hid (HL1.out.below b2)); (try (with_reducible have HZ2 := Lib.hid ((b2.block _ (lt_of_block HZ1.out)).trans HZ1.out)))) | ((with_reducible have HL2 := Lib.hid ((AL.out _ _ HL1.out).below b2)); (with_reducible have HZ2 := Lib.hid (zkeep b2)); have zl := HL1.out.lt)); clear b2)
          | (go_at_call 51; (with_reducible refine (HPA.out _ HL2.out).mono ?_); rintro e V3 ⟨va3, vc3, rfl, b3⟩; (with_reducible have HL3 := Lib.hid (HL2.out.below b3)); (try ((with_reducible have HZ3 := Lib.hid ((b3.block _ (lt_of_block HZ2.out)).trans HZ2.out)); obtain ⟨z0, z1', z2', z3, z4, z5, z6, zf⟩ := cells7 HZ3.out)); clear b3)
          | (go_at_call 51; (with_reducible refine (HPA.out _ (AL.out _ _ HL2.out)).mono ?_); rintro e V3 ⟨va3, vc3, rfl, b3⟩; (with_reducible have HL3 := Lib.hid ((AL.out _ _ HL2.out).below b3)); (with_reducible have HZ3 := Lib.hid (zkeep b3)); obtain ⟨z0, z1', z2', z3, z4, z5, z6, zf⟩ := cells7 HZ3.out; have zl := HL2.out.lt; clear b3))
      all_goals
        go_wp2_with fail
        go_meet
        first | (with_reducible exact ⟨rfl, below_set7 HL3.out.bel (Nat.le_trans HL3.out.ge (Nat.le_of_lt zl))⟩) | (with_reducible exact ⟨rfl, (HL3.out.alloc _).bel⟩)
    case rest =>
      obtain ⟨rfl, hb4⟩ := hcut
      clear HF HX HPA HL0 d0 d1 d2 d3 d4 d5 d6 df hl0
      go_wp2_with fail
      refine (HPK.out _ (HT.out.below hb4)).mono ?_
      rintro e W5 ⟨v5, rfl, o5, b5⟩
      obtain ⟨va5, vc5, rfl⟩ := o5.form
      have B5 := Lib.hid (Below.next hb4 b5)
      clear hb4 b5 o5 HPK
      unfold pkV pkZ
      go_wp2
      go_ret
      exact ⟨rfl, B5.out.alloc B5.out.size _⟩

theorem and1_range : ∀ k : Fin 256, 1 ≤ 1 + bits .and .u8 (k.val : Int) 1 ∧ 1 + bits .and .u8 (k.val : Int) 1 ≤ 2 := by decide +kernel

theorem walk (v0 : Value) (x : Pb × Option Addr × Nat × Nat) (a1 : Int) (w1 : (Lit.int .i64 a1).wf = true) (w : World) (h0 : PubArg w v0 x) (hT : Tabs w) :
    Calls Tryd.prog 13 #[v0, .int .i64 a1] w fun e w' => e = .returned (.bool true) ∧ Below w.heap.size w w' := by
  obtain ⟨⟨dup, ret, q, i, ps, tp, pl⟩, va, vn, vc⟩ := x
  obtain ⟨rfl, q0, q1, i0, i1, z1, z2⟩ := h0
  dsimp only at *
  have hr := and1_range ⟨q.toNat, by omega⟩
  have hcast : ((q.toNat : Nat) : Int) = q := by omega
  dsimp only at hr
  rw [hcast] at hr
  have hk := i64_and3 a1
  exact walk1 dup ret q i va vn vc tp pl q0 q1 z1 z2 a1 w hT _ rfl hr.1 hr.2 _ _ rfl rfl _ rfl (by omega) (by omega)

set_option maxRecDepth 100000 in
set_option maxHeartbeats 2000000 in
theorem lifted (os : Os) (started : os.Started) (H : Type) (enc : TypeId × Value → H) (F : Stop.Interp) :
    ReturnsInHanded {} Tryd.checked os 13 .any ((OpenSpec.ofChange Rows.publishZeroSpec).preRow enc Tryd.prog Tryd.f13 Rows.publishZeroRow.domain false Rows.publishZeroRow.laid) (((OpenSpec.ofChange Rows.publishZeroSpec).at F).post enc Tryd.prog Tryd.f13 false true false false) := by
  obtain ⟨places, hx⟩ := reads os enc
  refine returnsInHanded_of_row (C := Tryd.checked) (s := OpenSpec.ofChange Rows.publishZeroSpec) own started (by kernel_rfl) Tryd.func13
    (witness_row_at (enc := enc) (C := Tryd.checked) false (laidWorld os) #[.agg #[.bool false, .bool false, .int .u8 0, .int .u32 0, .slice none 0 0, .string ByteArray.empty, .string ByteArray.empty], .int .i64 0] rfl (by kernel_rfl) (by kernel_rfl) (by kernel_rfl)
      (OpenSpec.preRow_of_cond 8 hx (by kernel_rfl) (fun k hk => by cases hk) (by kernel_rfl) (laid_met os))) ?_
  intro W base args ds gs before hval0 hW _ _ _ hL _ _
  have hval : ∀ (j : Nat) t v, Tryd.f13.params[j]? = some t → args[j]? = some v → Value.okWide Tryd.prog W .any base t v := hval0
  have hW' := hW
  obtain ⟨p, q, hA0, hV, rfl, hfz, hnd⟩ := hW
  have hA : DataW.TrodAll enc Tryd.prog W 0 (fun _ => true) true Tryd.f13.params.toList args.toList ds p := hA0
  rw [Tryd.params13] at hA hval
  obtain ⟨v0, vs0, d0, ds0, p0, q0, hargs, rfl, rfl, h0, r0⟩ := trodAll_cons hA
  obtain ⟨v1, vs1, d1, ds1, p1, q1, rfl, rfl, rfl, h1, r1⟩ := trodAll_cons r0
  obtain ⟨rfl, rfl, rfl⟩ := trodAll_nil r1
  obtain rfl : args = #[v0, v1] := by cases args; simp_all
  obtain ⟨rfl, rfl⟩ := trodVars_none hV
  have k0 := h0
  have lt0 : ∀ x ∈ p0, x.block < W.heap.size := by obtain ⟨m, hm⟩ := k0; exact DataW.trod_lt m _ _ _ hm
  obtain ⟨a0, w0⟩ := open_pub (hval 0 86 v0 rfl rfl) h0
  obtain ⟨a1, rfl, rfl, rfl, w1⟩ := open_int Tryd.underlying3 (hval 1 3 v1 rfl rfl) h1
  clear hA0 hval0
  have hT : Tabs W := utf8Tabs_of_readsT (U8Types.of196 Tryd.lays196) ⟨by kernel_rfl, by kernel_rfl, by kernel_rfl, by kernel_rfl, by kernel_rfl, by kernel_rfl, by kernel_rfl⟩ (first_eq ▸ Lib.laidMet.reads hL (.tail _ (.head _))) (accept_eq ▸ Lib.laidMet.reads hL (.head _))
  refine (walk v0 a0 a1 w1 W w0 hT).mono fun e W' ⟨he, bel⟩ => ?_
  subst he
  exact ⟨_, rfl, _, _, _, [], _, [], hW', trodAll_mk1 (shut_bool Tryd.underlying4 _), (trodAll_cons_mk (Below.trod laidOut (by kernel_rfl) (of_decide_eq_true (by kernel_rfl)) k0 bel lt0) (trodAll_cons_mk (shut_int Tryd.underlying3 w1) trodAll_mk0)), rfl, bel.frame _, fun h => by cases h⟩

theorem said : Rows.PublishZeroSaid :=
  OpenClaim.holds_of_cond 13 Tryd.f13 rfl rfl rfl rfl rfl rfl rfl ⟨rfl, rfl, rfl, rfl, rfl⟩ rfl rfl rfl rfl rfl (by kernel_rfl) Tryd.func13 closed
    (of_decide_eq_true (by kernel_rfl)) (by unfold Func.isWrapper; first | (rw [if_pos (by decide +kernel)]; kernel_rfl) | (rw [if_neg (by decide +kernel)]; exact ⟨rfl, rfl⟩))
    (fun os started H enc _ F => by rw [OpenClaim.pre_eq_preRow]; exact lifted os started H enc F)

theorem plain (f : FuncId) (fn : Func) (hf : Tryd.pinned.checked.prog.funcNamed Tryd.f13.name = some f) (hfn : Tryd.pinned.checked.prog.funcs[f]? = some fn) :
    false = Tryd.pinned.checked.prog.looks [] ∧ ∀ (j : Nat) t, fn.params[j]? = some t → Tryd.pinned.checked.prog.wantsStandIn t = false := by
  obtain rfl : f = 13 := Option.some.inj ((show Tryd.prog.funcNamed Tryd.f13.name = some 13 by kernel_rfl).symm.trans hf) |>.symm
  obtain rfl : fn = Tryd.f13 := (Option.some.inj (Tryd.func13.symm.trans hfn)).symm
  refine ⟨fac_looks, fun j t ht => ?_⟩
  rw [Tryd.params13] at ht
  have hm : t = 86 ∨ t = 3 := by simpa using Array.mem_of_getElem? ht
  rcases hm with rfl | rfl
  · exact (show Tryd.prog.wantsStandIn 86 = false by kernel_rfl)
  · exact (show Tryd.prog.wantsStandIn 3 = false by kernel_rfl)

end Go.Proofs.YtdbocpkeafcmaaaDoor.publishZero
namespace Go.Proofs.YtdbocpkeafcmaaaDoor
/-- The statement. -/
theorem publishZero_holds : Rows.PublishZeroCardSaid :=
  Claim7.holds_tied_plain_at .later [] _ _ _ _ publishZero.said (fun _ h => by cases h) publishZero.wft (fun _ h => by cases h) publishZero_row_tie rfl ⟨rfl, rfl⟩ fac_main rfl publishZero.plain publishZero.goes
#print axioms publishZero_holds
end Go.Proofs.YtdbocpkeafcmaaaDoor
