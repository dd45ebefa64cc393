/-
  Told and Same of layer 12's statements. (No statement: contracts that the proofs of the statements use.)
-/
import Derived.Test.YteofjcmpelcmaaaJMsg2
import Derived.Outline
import Derived.WalkLawsBesides
import Derived.Deep.RegionLaw
namespace Go.Proofs.Yteofjcmpelcmaaa
open Go.RowKit

theorem Try.structProp : Try.prog.underlying 153 = some (.struct (Try.prog.fieldsOf 153)) := by kernel_rfl
theorem Try.structRProp : Try.prog.underlying 157 = some (.struct (Try.prog.fieldsOf 157)) := by kernel_rfl
theorem Try.standProp : Try.prog.stoodInHeld 153 = false := by kernel_rfl
theorem Try.standRProp : Try.prog.stoodInHeld 157 = false := by kernel_rfl
theorem Try.guardProp : Try.prog.eqGuardType Try.prog.depth 153 = false := by kernel_rfl
theorem Try.guardRProp : Try.prog.eqGuardType Try.prog.depth 157 = false := by kernel_rfl

set_option maxRecDepth 100000 in
theorem eq_rprop (x : Pr) (w : World) : (Op.equalIn 10000 157 (prV x) (prV x)).run Try.prog w = .ok true w := by
  rw [run_equalIn_agg w 9999 157 _ _ Try.structRProp Try.standRProp]
  simp [Op.eqFields, go_sem]
set_option maxRecDepth 100000 in
theorem eq_prop (x : Pr) (w : World) : (Op.equalIn 10000 153 (prV x) (prV x)).run Try.prog w = .ok true w := by
  rw [run_equalIn_agg w 9999 153 _ _ Try.structProp Try.standProp]
  simp [Op.eqFields, go_sem]
theorem neq_rprop (x : Pr) (w : World) : (binOp .neq 157 (prV x) (prV x)).run Try.prog w = .ok (.bool false) w := by
  rw [run_neq_struct, eq_rprop]; rfl
theorem eql_prop (x : Pr) (w : World) : (binOp .eql 153 (prV x) (prV x)).run Try.prog w = .ok (.bool true) w := by
  rw [run_eql_struct, eq_prop]; rfl

theorem PropsAt.drewN {w : World} {v : Value} {P : List Pr} (h : PropsAt w v P) (n : Nat) : PropsAt (w.drewN n) v P := h

theorem drewN_below {B : Nat} {a w : World} (h : Below B a w) (n : Nat) : Below B a (w.drewN n) := ⟨h.os, h.tape, h.output, h.size, h.block⟩

theorem Try.infoRProp : (Try.prog.info? 157).map (fun i => (i.zero, i.size, i.bytes)) = some (some (.agg #[.int .i64 0, .int .u32 0, .string ⟨#[]⟩, .string ⟨#[]⟩]), 4, 48) := by kernel_rfl

set_option maxRecDepth 100000 in
set_option maxHeartbeats 1000000 in
theorem told_calls (w : World) (v : Value) (P : List Pr) (hv : PropsAt w v P) (hn : P.length ≤ 1000000) :
    Calls Try.prog 67 #[v] w (Made 157 w P) := by
  obtain ⟨A, cap, rfl, hc⟩ := hv
  have HC := Lib.hid hc
  clear hc
  go_enter Try.func67, Try.ntmps67
  go_wp2
  go_loopw [3, 9] (fun s j wr => ∃ (k : Nat) (a : Option Addr) (c : Nat), k ≤ P.length ∧ j = .int .i64 k ∧ s = .slice a k c ∧ OwnP w.heap.size 157 wr (.slice a k c) (P.take k) ∧ Below w.heap.size w wr) (fun _ j _ => P.length - (intOf j).toNat)
  case atStart => exact ⟨0, _, 0, by omega, rfl, rfl, OwnP.empty w _, below_one w _⟩
  case round =>
    obtain ⟨k, a, c, hk, rfl, rfl, hown, hb⟩ := hrel
    have HOWN := Lib.hid hown
    have HB := Lib.hid hb
    have hz := hb.size
    clear hown hb
    by_cases hlt : k < P.length
    · obtain ⟨x, hx⟩ : ∃ x, P[k]? = some x := ⟨_, List.getElem?_eq_getElem hlt⟩
      obtain ⟨b, off, hA, hbl, c0, c1, c2, c3⟩ := HC.out k x hx
      rw [← HB.out.cell (p := ⟨b, _, none⟩) hbl] at c0 c1 c2 c3
      subst hA
      have HX := Lib.hid hx
      have hlen : (P.take k).length = k := by rw [List.length_take]; omega
      have HLEN := Lib.hid hlen
      clear hx hlen
      obtain ⟨i0, hi, hz0, hz1, hz2⟩ := info_parts Try.infoRProp
      have hown2 := (HOWN.out.alloc (.cells #[.int .i64 x.id, .int .u32 x.n, .string x.s, .string x.t] 153)).alloc (.cells #[.int .i64 x.id, .int .u32 x.n, .string x.s, .string x.t] 157)
      have hown3 : ((wr.alloc (.cells #[.int .i64 x.id, .int .u32 x.n, .string x.s, .string x.t] 153)).alloc (.cells #[.int .i64 x.id, .int .u32 x.n, .string x.s, .string x.t] 157)).ownsRow w.heap.size 157 4 (.slice a k c) k ((P.take k).flatMap prC) := by
        have := hown2
        unfold OwnP at this
        rwa [HLEN.out] at this
      have hnews := four_new (wr.alloc (.cells #[.int .i64 x.id, .int .u32 x.n, .string x.s, .string x.t] 153)) (.int .i64 x.id) (.int .u32 x.n) (.string x.s) (.string x.t) 157
      rw [show (wr.alloc (.cells #[.int .i64 x.id, .int .u32 x.n, .string x.s, .string x.t] 153)).heap.size = wr.heap.size + 1 by simp] at hnews
      have HNEWS := Lib.hid hnews
      have HOWN3 := Lib.hid hown3
      clear hown2 hown3 hnews
      go_wp2_with ((at_builtin; refine wpList_append_own_at _ rfl _ _ 75 rfl w.heap.size 157 i0 (.agg #[.int .i64 0, .int .u32 0, .string ⟨#[]⟩, .string ⟨#[]⟩]) 4 48 Try.underlying75 hi hz0 hz1 hz2 rfl (by decide) _ _ _ rfl HOWN3.out ⟨wr.heap.size + 1, 0, none⟩ 1 1 [.int .i64 x.id, .int .u32 x.n, .string x.s, .string x.t] rfl rfl HNEWS.out (by simp [Value.oneCell']) (by unfold maxLen; omega) (by omega) (by simp; omega) ?_))
      intro v' w7 hown8 hgrow _ _
      have hbl8 : Below w.heap.size w w7 := ((HB.out.alloc hz _).alloc (by simp; omega) _).grown hgrow (by simp; omega) (fun k hk => (World.ownsRow.lt HOWN3.out k hk).1)
      have hown9 : OwnP w.heap.size 157 w7 v' (P.take (k + 1)) := by
        rw [take_snocP P k x HX.out]
        exact own_snoc (by rw [HLEN.out]; exact hown8)
      obtain ⟨a', c', hv'⟩ := hown9.form
      rw [show (P.take (k + 1)).length = k + 1 by rw [List.length_take]; omega] at hv'
      subst hv'
      have HO9 := Lib.hid hown9
      have HB8 := Lib.hid hbl8
      clear hown9 hbl8 hown8 hgrow HOWN3 HNEWS HOWN HB
      go_wp2
      go_roundw
      case rel => exact ⟨k + 1, a', c', by omega, by go_num, rfl, HO9.out, HB8.out⟩
      case measure => simp [intOf]; omega
    · obtain rfl : k = P.length := by omega
      clear HC
      go_wp2
      go_ret
      refine ⟨_, rfl, ?_, HB.out⟩
      have := HOWN.out
      rwa [List.take_length] at this

set_option maxRecDepth 100000 in
set_option maxHeartbeats 1000000 in
theorem r6same_calls (w : World) (v u : Value) (P : List Pr) (hv : PropsAt w v P) (hu : PropsAt w u P) (hn : P.length ≤ 1000000) :
    Calls Try.prog 81 #[v, u] w fun e w' => e = .returned (.bool true) ∧ Below w.heap.size w w' := by
  obtain ⟨A, cap, rfl, hc⟩ := hv
  obtain ⟨A2, cap2, rfl, hc2⟩ := hu
  have HC := Lib.hid hc
  have HC2 := Lib.hid hc2
  clear hc hc2
  go_enter Try.func81, Try.ntmps81
  go_wp2
  go_loopw [13] (fun j wr => ∃ k n : Nat, k ≤ P.length ∧ j = .int .i64 k ∧ wr = w.drewN n) (fun j _ => P.length - (intOf j).toNat)
  case atStart => exact ⟨0, 0, by omega, rfl, rfl⟩
  case round =>
    obtain ⟨k, n, hk, rfl, rfl⟩ := hrel
    by_cases hlt : k < P.length
    · obtain ⟨x, hx⟩ : ∃ x, P[k]? = some x := ⟨_, List.getElem?_eq_getElem hlt⟩
      obtain ⟨b, off, hA, hbl, c0, c1, c2, c3⟩ := HC.out k x hx
      obtain ⟨b', off', hA', hbl', d0, d1, d2, d3⟩ := HC2.out k x hx
      subst hA hA'
      have hq := neq_rprop x
      have hltI : (k : Int) < P.length := by omega
      clear HC HC2 hx
      go_wp2_with fail
      go_quiet (fail)
      go_wp2
      go_roundw
      case rel => exact ⟨k + 1, _, by omega, by go_num, rfl⟩
      case measure => simp [intOf]; omega
    · obtain rfl : k = P.length := by omega
      clear HC HC2
      go_wp2
      go_ret
      exact ⟨rfl, drewN_below (Below.refl _ _) n⟩

theorem r6props_calls (w : World) (v u : Value) (P : List Pr) (hv : PropsAt w v P) (hu : PropsAt w u P) (hn : P.length ≤ 1000000) :
    Calls Try.prog 68 #[v, u] w fun e w' => e = .returned (.bool true) ∧ Below w.heap.size w w' := by
  have HS := Lib.hid (r6same_calls w v u P hv hu hn)
  obtain ⟨A, cap, rfl, hc⟩ := hv
  obtain ⟨A2, cap2, rfl, hc2⟩ := hu
  clear hc hc2
  go_enter Try.func68, Try.ntmps68
  go_wp2_with fail
  refine HS.out.mono ?_
  rintro e w1 ⟨rfl, b1⟩
  have B1 := Lib.hid b1
  clear b1
  go_wp2
  go_ret
  exact ⟨rfl, B1.out⟩

set_option maxRecDepth 100000 in
set_option maxHeartbeats 4000000 in
theorem told12_calls (w : World) (m : Ms) (v : Value) (h : MsAt w m v) :
    Calls Try.prog 32 #[msV m v] w fun e w' => ∃ a n c, e = .returned (msV m (.slice a n c)) ∧ PropsAt w' (.slice a n c) m.ps ∧ Below w.heap.size w w' := by
  obtain ⟨A, cap, rfl⟩ := h.ps.form
  obtain ⟨a0, a1, q, a3, P, a5, a6⟩ := m
  dsimp only at h ⊢
  have HP := Lib.hid h
  clear h
  generalize hPl : P.length = n
  have HPL := Lib.hid hPl
  clear hPl
  have hb0 := (below_one w (.cells #[.string a0, .int .i64 a1, .int .u8 q, .bool a3, .slice A n cap, .string a5, .string a6] 50)).alloc (by simp) (.cells #[.string ⟨#[]⟩, .int .i64 0, .int .u8 0, .bool false, .slice none 0 0, .string ⟨#[]⟩, .string ⟨#[]⟩] 77)
  have hx0 := (Below.heap_alloc (w.alloc (.cells #[.string a0, .int .i64 a1, .int .u8 q, .bool a3, .slice A n cap, .string a5, .string a6] 50)) (.cells #[.string ⟨#[]⟩, .int .i64 0, .int .u8 0, .bool false, .slice none 0 0, .string ⟨#[]⟩, .string ⟨#[]⟩] 77) w.heap.size (by simp)).trans (heap_alloc_new w (.cells #[.string a0, .int .i64 a1, .int .u8 q, .bool a3, .slice A n cap, .string a5, .string a6] 50))
  have hx1 := seven_new (w.alloc (.cells #[.string a0, .int .i64 a1, .int .u8 q, .bool a3, .slice A n cap, .string a5, .string a6] 50)) (.string ⟨#[]⟩) (.int .i64 0) (.int .u8 0) (.bool false) (.slice none 0 0) (.string ⟨#[]⟩) (.string ⟨#[]⟩) 77 (w.heap.size + 1) (by simp)
  have hs0 : ((w.alloc (.cells #[.string a0, .int .i64 a1, .int .u8 q, .bool a3, .slice A n cap, .string a5, .string a6] 50)).alloc (.cells #[.string ⟨#[]⟩, .int .i64 0, .int .u8 0, .bool false, .slice none 0 0, .string ⟨#[]⟩, .string ⟨#[]⟩] 77)).heap.size = w.heap.size + 2 := by simp
  have hps := HP.out.ps
  dsimp only at hps
  rw [HPL.out] at hps
  have hps0 := hps.below hb0
  have HB0 := Lib.hid hb0
  have HX0 := Lib.hid hx0
  have HX1 := Lib.hid hx1
  have HS0 := Lib.hid hs0
  have HPS := Lib.hid hps0
  have hln := HP.out.len
  clear hb0 hx0 hx1 hs0 hps hps0
  go_enter Try.func32, Try.ntmps32
  go_wp2_with fail
  generalize (w.alloc (.cells #[.string a0, .int .i64 a1, .int .u8 q, .bool a3, .slice A n cap, .string a5, .string a6] 50)).alloc (.cells #[.string ⟨#[]⟩, .int .i64 0, .int .u8 0, .bool false, .slice none 0 0, .string ⟨#[]⟩, .string ⟨#[]⟩] 77) = W0 at *
  have HT := Lib.hid (told_calls W0.drew (.slice A n cap) P (HPS.out.below ((Below.refl _ _).drew)) hln)
  have hx0d : W0.drew.heap[w.heap.size]? = some (.cells #[.string a0, .int .i64 a1, .int .u8 q, .bool a3, .slice A n cap, .string a5, .string a6] 50 (0, 0)) := HX0.out
  have hx1d : W0.drew.heap[w.heap.size + 1]? = some (.cells #[.string ⟨#[]⟩, .int .i64 0, .int .u8 0, .bool false, .slice none 0 0, .string ⟨#[]⟩, .string ⟨#[]⟩] 77 (0, 0)) := HX1.out
  have HX0D := Lib.hid hx0d
  have HX1D := Lib.hid hx1d
  obtain ⟨c0, c1, c2, c3, c4, c5, c6, cf⟩ := cells7 HX0.out
  have HKA := Lib.hid (show W0.drew.cell? ⟨w.heap.size, 0, none⟩ = some (.string a0) ∧ W0.drew.cell? ⟨w.heap.size, 1, none⟩ = some (.int .i64 a1) ∧ W0.drew.cell? ⟨w.heap.size, 2, none⟩ = some (.int .u8 q) ∧ W0.drew.cell? ⟨w.heap.size, 3, none⟩ = some (.bool a3) ∧ W0.drew.cell? ⟨w.heap.size, 4, none⟩ = some (.slice A n cap) ∧ W0.drew.cell? ⟨w.heap.size, 5, none⟩ = some (.string a5) ∧ W0.drew.cell? ⟨w.heap.size, 6, none⟩ = some (.string a6) from ⟨c0, c1, c2, c3, c4, c5, c6⟩)
  clear hx0d hx1d c0 c1 c2 c3 c4 c5 c6 cf
  go_region_held3 (fun wx => wx.cell? ⟨w.heap.size, 0, none⟩ = some (.string a0) ∧ wx.cell? ⟨w.heap.size, 1, none⟩ = some (.int .i64 a1) ∧ wx.cell? ⟨w.heap.size, 2, none⟩ = some (.int .u8 q) ∧ wx.cell? ⟨w.heap.size, 3, none⟩ = some (.bool a3) ∧ wx.cell? ⟨w.heap.size, 4, none⟩ = some (.slice A n cap) ∧ wx.cell? ⟨w.heap.size, 5, none⟩ = some (.string a5) ∧ wx.cell? ⟨w.heap.size, 6, none⟩ = some (.string a6))
    (first | (with_reducible exact HKA.out) | (with_reducible exact HKB.out) | (with_reducible exact HKC.out _ _ _ _ _ _ _) | fail)
    (first
      | (go_at_call 67; (with_reducible refine HT.out.mono ?_); rintro e V1 ⟨v, rfl, o1, b1⟩; obtain ⟨pa, pc, rfl⟩ := o1.form; have HO := Lib.hid o1; have HB1 := Lib.hid ((b1.block _ (lt_of_block HX0D.out)).trans HX0D.out); have HR1 := Lib.hid ((b1.block _ (lt_of_block HX1D.out)).trans HX1D.out); have HBL := Lib.hid (Below.next HB0.out.drew b1); have HKB := Lib.hid (show V1.cell? ⟨w.heap.size, 0, none⟩ = some (.string a0) ∧ V1.cell? ⟨w.heap.size, 1, none⟩ = some (.int .i64 a1) ∧ V1.cell? ⟨w.heap.size, 2, none⟩ = some (.int .u8 q) ∧ V1.cell? ⟨w.heap.size, 3, none⟩ = some (.bool a3) ∧ V1.cell? ⟨w.heap.size, 4, none⟩ = some (.slice A n cap) ∧ V1.cell? ⟨w.heap.size, 5, none⟩ = some (.string a5) ∧ V1.cell? ⟨w.heap.size, 6, none⟩ = some (.string a6) from ⟨(cells7 HB1.out).1, (cells7 HB1.out).2.1, (cells7 HB1.out).2.2.1, (cells7 HB1.out).2.2.2.1, (cells7 HB1.out).2.2.2.2.1, (cells7 HB1.out).2.2.2.2.2.1, (cells7 HB1.out).2.2.2.2.2.2.1⟩); have HKC := Lib.hid (show ∀ (u0 u1 u2 u3 u4 u5 u6 : Value), (put7 V1 (w.heap.size + 1) 0 u0 u1 u2 u3 u4 u5 u6).cell? ⟨w.heap.size, 0, none⟩ = some (.string a0) ∧ (put7 V1 (w.heap.size + 1) 0 u0 u1 u2 u3 u4 u5 u6).cell? ⟨w.heap.size, 1, none⟩ = some (.int .i64 a1) ∧ (put7 V1 (w.heap.size + 1) 0 u0 u1 u2 u3 u4 u5 u6).cell? ⟨w.heap.size, 2, none⟩ = some (.int .u8 q) ∧ (put7 V1 (w.heap.size + 1) 0 u0 u1 u2 u3 u4 u5 u6).cell? ⟨w.heap.size, 3, none⟩ = some (.bool a3) ∧ (put7 V1 (w.heap.size + 1) 0 u0 u1 u2 u3 u4 u5 u6).cell? ⟨w.heap.size, 4, none⟩ = some (.slice A n cap) ∧ (put7 V1 (w.heap.size + 1) 0 u0 u1 u2 u3 u4 u5 u6).cell? ⟨w.heap.size, 5, none⟩ = some (.string a5) ∧ (put7 V1 (w.heap.size + 1) 0 u0 u1 u2 u3 u4 u5 u6).cell? ⟨w.heap.size, 6, none⟩ = some (.string a6) from fun u0 u1 u2 u3 u4 u5 u6 => by have hq := put7_other (W := V1) (b := w.heap.size + 1) (o := 0) (a0 := u0) (a1 := u1) (a2 := u2) (a3 := u3) (a4 := u4) (a5 := u5) (a6 := u6) (show w.heap.size ≠ w.heap.size + 1 by omega); exact ⟨(World.cell?_of_block (a := ⟨w.heap.size, 0, none⟩) hq).trans HKB.out.1, (World.cell?_of_block (a := ⟨w.heap.size, 1, none⟩) hq).trans HKB.out.2.1, (World.cell?_of_block (a := ⟨w.heap.size, 2, none⟩) hq).trans HKB.out.2.2.1, (World.cell?_of_block (a := ⟨w.heap.size, 3, none⟩) hq).trans HKB.out.2.2.2.1, (World.cell?_of_block (a := ⟨w.heap.size, 4, none⟩) hq).trans HKB.out.2.2.2.2.1, (World.cell?_of_block (a := ⟨w.heap.size, 5, none⟩) hq).trans HKB.out.2.2.2.2.2.1, (World.cell?_of_block (a := ⟨w.heap.size, 6, none⟩) hq).trans HKB.out.2.2.2.2.2.2⟩); unfold put7 at HKC; obtain ⟨r0, r1, r2, r3, r4, r5, r6, rf⟩ := cells7 HR1.out; have rl := lt_of_block HR1.out; clear o1 b1))
  rename_i hHeld
  clear hHeld HKA HKB HKC
  have HFL := Lib.hid (show PropsAt (put7 V1 (w.heap.size + 1) 0 (.string a0) (.int .i64 a1) (.int .u8 q) (.bool a3) (.slice pa P.length pc) (.string a5) (.string a6)) (.slice pa P.length pc) P from by
    refine HO.out.props.keep (fun g hg _ => put7_other ?_) (by rw [put7_size]; exact Nat.le_refl _)
    have := (World.ownsRow.lt HO.out g hg).1
    have := lt_of_block HX1D.out
    omega)
  have HBF := Lib.hid (put7_below (o := 0) (a0 := .string a0) (a1 := .int .i64 a1) (a2 := .int .u8 q) (a3 := .bool a3) (a4 := .slice pa P.length pc) (a5 := .string a5) (a6 := .string a6) HBL.out (show w.heap.size ≤ w.heap.size + 1 by omega))
  have HR1' := HR1
  clear r0 r1 r2 r3 r4 r5 r6 rf
  go_wp2
  change bodyPost _ _ _ _ _ (put7 V1 (w.heap.size + 1) 0 _ _ _ _ _ _ _)
  have hfin := put7_block (a0 := .string a0) (a1 := .int .i64 a1) (a2 := .int .u8 q) (a3 := .bool a3) (a4 := .slice pa P.length pc) (a5 := .string a5) (a6 := .string a6) HR1'.out
  obtain ⟨t0, t1, t2, t3, t4, t5, t6, tf⟩ := cells7 hfin
  refine bodyPost_ret (v := msV ⟨a0, a1, q, a3, P, a5, a6⟩ (.slice pa P.length pc)) ?_ rfl ⟨_, _, _, rfl, HFL.out, HBF.out⟩
  simp [results, Try.results32, go_sem, t0, t1, t2, t3, t4, t5, t6]

set_option maxRecDepth 100000 in
set_option maxHeartbeats 4000000 in
theorem same12_calls (w : World) (m : Ms) (v u : Value) (hv : PropsAt w v m.ps) (hu : PropsAt w u m.ps) (hn : m.ps.length ≤ 1000000) :
    Calls Try.prog 33 #[msV m v, msV m u] w fun e w' => e = .returned (.int .i64 0) ∧ Below w.heap.size w w' := by
  obtain ⟨A, cap, rfl⟩ := hv.form
  obtain ⟨A2, cap2, rfl⟩ := hu.form
  obtain ⟨a0, a1, q, a3, P, a5, a6⟩ := m
  dsimp only at hv hu hn ⊢
  have hb0 := (below_one w (.cells #[.string a0, .int .i64 a1, .int .u8 q, .bool a3, .slice A P.length cap, .string a5, .string a6] 77)).alloc (by simp) (.cells #[.string a0, .int .i64 a1, .int .u8 q, .bool a3, .slice A2 P.length cap2, .string a5, .string a6] 77)
  have HV := Lib.hid (hv.below hb0)
  have HU := Lib.hid (hu.below hb0)
  have HB0 := Lib.hid hb0
  generalize hPl : P.length = n at *
  have HPL := Lib.hid hPl
  clear hv hu hb0 hPl
  go_enter Try.func33, Try.ntmps33
  go_wp2_with fail
  refine (r6props_calls _ _ _ P HV.out HU.out (by have := HPL.out; omega)).mono ?_
  rintro e w1 ⟨rfl, b1⟩
  have HB1 := Lib.hid (Below.next HB0.out b1)
  have hx0 := (b1.block w.heap.size (by simp; omega)).trans ((Below.heap_alloc (w.alloc (.cells #[.string a0, .int .i64 a1, .int .u8 q, .bool a3, .slice A n cap, .string a5, .string a6] 77)) (.cells #[.string a0, .int .i64 a1, .int .u8 q, .bool a3, .slice A2 n cap2, .string a5, .string a6] 77) w.heap.size (by simp)).trans (heap_alloc_new w (.cells #[.string a0, .int .i64 a1, .int .u8 q, .bool a3, .slice A n cap, .string a5, .string a6] 77)))
  have hx1 := (b1.block (w.heap.size + 1) (by simp)).trans (seven_new (w.alloc (.cells #[.string a0, .int .i64 a1, .int .u8 q, .bool a3, .slice A n cap, .string a5, .string a6] 77)) (.string a0) (.int .i64 a1) (.int .u8 q) (.bool a3) (.slice A2 n cap2) (.string a5) (.string a6) 77 (w.heap.size + 1) (by simp))
  obtain ⟨c0, c1, c2, c3, c4, c5, c6, cf⟩ := cells7 hx0
  obtain ⟨d0, d1, d2, d3, d4, d5, d6, df⟩ := cells7 hx1
  clear b1 hx0 hx1
  go_wp2
  go_ret
  exact ⟨rfl, HB1.out⟩

#print axioms told12_calls
#print axioms same12_calls
end Go.Proofs.Yteofjcmpelcmaaa
