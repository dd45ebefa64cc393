/-
  Any body of at most 200 bytes, any flags, any kind: the publish, the answer, or the error, as the document has them.
  Its conditions: none beside those of the row itself (the two tables of unicode/utf8 start as the library's text lays them: the card ties them).
-/
import Derived.Test.YtacffjimkplieaaDoorCards
import Derived.Test.YtacffjimkplieaaDoorTie
import Derived.Test.YtacffjimkplieaaDoorJPublishReadsw
import Derived.Test.YtacffjimkplieaaDoorJPublishReadsf
import Derived.Test.YtacffjimkplieaaDoorJRds5
import Derived.ProofKit
import Derived.Deep.RegionHeld3
import Derived.Deep.CutRange
import Derived.OpenShut
import Derived.ShutString
import Derived.ChangeOld
import Derived.Deep.DeepHandedRow
import Derived.Deep.DeepWitnessRowRef
import Derived.Lib.LaidU8T
import Derived.Lib.LaidTab
import Derived.Lib.LaidIn
namespace Go.Proofs.YtacffjimkplieaaDoor.publishReads
open Go.ChangeShapes Go.WideShapes Go.ChangeAt Go.RowKit Go.Lib
open Go.ChangeMaps (open_string shut_string)
set_option linter.unusedVariables false

set_option maxRecDepth 100000 in
set_option maxHeartbeats 4000000 in
theorem walk1 (a0 k : Int) (a2 : ByteArray) (w2 : a2.size ≤ maxLen) (w : World) (hT : Tabs w) (F : Int) (hF : bits .and .i64 a0 15 = F) (s : ByteArray) (hs : a2.extract 0 200 = s) (hch : chkB 3 F = true)
    (D R : Bool) (Q n : Int) (tp pl : ByteArray) (ps : List Pr) (m : Nat) (hm : ps.length = m) (hml : m ≤ 1000000) (E : Int) (k' i c : Int) (qs : List Pr) (l : Nat) (hl : qs.length = l) (hll : l ≤ 1000000) (G : Int)
    (hP : ∀ V, Tabs V → Calls Tryd.prog 30 #[.int .i64 F, .string s] V (fun e w' => ∃ va vc, e = .returned (.tuple #[.agg #[.bool D, .bool R, .int .u8 Q, .int .u32 n, .slice va m vc, .string tp, .string pl], .int .i64 E]) ∧ PropsAt w' (.slice va m vc) ps ∧ Below V.heap.size V w'))
    (hQ : ∀ V, Calls Tryd.prog 31 #[.int .i64 F, .string s] V (fun e w' => ∃ va vc, e = .returned (.tuple #[.agg #[.bool D, .bool R, .int .u8 Q, .int .u32 n, .slice va m vc, .string tp, .string pl], .int .i64 E]) ∧ PropsAt w' (.slice va m vc) ps ∧ Below V.heap.size V w'))
    (hA : ∀ V, Tabs V → Calls Tryd.prog 32 #[.int .i64 k, .string s] V (fun e w' => ∃ va vc, e = .returned (.tuple #[.agg #[.int .i64 k', .int .u32 i, .int .u8 c, .slice va l vc], .int .i64 G]) ∧ PropsAt w' (.slice va l vc) qs ∧ Below V.heap.size V w'))
    (hB : ∀ V, Calls Tryd.prog 33 #[.int .i64 k, .string s] V (fun e w' => ∃ va vc, e = .returned (.tuple #[.agg #[.int .i64 k', .int .u32 i, .int .u8 c, .slice va l vc], .int .i64 G]) ∧ PropsAt w' (.slice va l vc) qs ∧ Below V.heap.size V w')) :
    Calls Tryd.prog 6 #[.int .i64 a0, .int .i64 k, .string a2] w fun e w' => e = .returned (.bool true) ∧ Below w.heap.size w w' := by
  have HT := Lib.hid hT
  have HP := Lib.hid hP
  have HQ := Lib.hid hQ
  have HA := Lib.hid hA
  have HB := Lib.hid hB
  have HCUT := Lib.hid (show ∀ V, Calls Tryd.prog 11 #[.string a2, .int .i64 200] V (fun e w' => e = .returned (.string s) ∧ V = w') from fun V => by have := cut_calls V a2 200 w2; rw [hs] at this; exact this)
  have HCK := Lib.hid (show ∀ V, Calls Tryd.prog 29 #[.int .i64 3, .int .i64 F] V (fun e w' => e = .returned (.int .i64 0) ∧ V = w') from fun V => by have := check_calls V 3 F; rw [hch] at this; exact this)
  have HTO := Lib.hid (show ∀ V va vn vc, PropsAt V (.slice va vn vc) ps → Calls Tryd.prog 35 #[.agg #[.bool D, .bool R, .int .u8 Q, .int .u32 n, .slice va vn vc, .string tp, .string pl]] V (fun e w' => ∃ p m a, e = .returned (.agg #[.bool D, .bool R, .int .u8 Q, .int .u32 n, .slice p m a, .string tp, .string pl]) ∧ PropsAt w' (.slice p m a) ps ∧ Below V.heap.size V w') from fun V va vn vc hv => (told7_calls V ⟨D, R, Q, n, ps, tp, pl⟩ va vn vc hv (by show ps.length ≤ 1000000; omega)).mono (by rintro e w' ⟨a, m, p, rfl, hp, b⟩; exact ⟨p, m, a, rfl, hp, b⟩))
  have HSM := Lib.hid (show ∀ V va vn vc ua un uc, PropsAt V (.slice va vn vc) ps → PropsAt V (.slice ua un uc) ps → Calls Tryd.prog 34 #[.agg #[.bool D, .bool R, .int .u8 Q, .int .u32 n, .slice va vn vc, .string tp, .string pl], .agg #[.bool D, .bool R, .int .u8 Q, .int .u32 n, .slice ua un uc, .string tp, .string pl]] V (fun e w' => e = .returned (.bool true) ∧ Below V.heap.size V w') from fun V va vn vc ua un uc hv hu => same7_calls V D R Q n tp pl va vn vc ua un uc ps hv hu (by omega))
  have HTA := Lib.hid (show ∀ V va vn vc, PropsAt V (.slice va vn vc) qs → Calls Tryd.prog 37 #[.agg #[.int .i64 k', .int .u32 i, .int .u8 c, .slice va vn vc]] V (fun e w' => ∃ p m a, e = .returned (.agg #[.int .i64 k', .int .u32 i, .int .u8 c, .slice p m a]) ∧ PropsAt w' (.slice p m a) qs ∧ Below V.heap.size V w') from fun V va vn vc hv => (acks7_calls V ⟨k', i, c, qs⟩ va vn vc hv (by show qs.length ≤ 1000000; omega)).mono (by rintro e w' ⟨a, m, p, rfl, hp, b⟩; exact ⟨p, m, a, rfl, hp, b⟩))
  have HSA := Lib.hid (show ∀ V va vn vc ua un uc, PropsAt V (.slice va vn vc) qs → PropsAt V (.slice ua un uc) qs → Calls Tryd.prog 36 #[.agg #[.int .i64 k', .int .u32 i, .int .u8 c, .slice va vn vc], .agg #[.int .i64 k', .int .u32 i, .int .u8 c, .slice ua un uc]] V (fun e w' => e = .returned (.bool true) ∧ Below V.heap.size V w') from fun V va vn vc ua un uc hv hu => sameAck_calls V k' i c va vn vc ua un uc qs hv hu (by omega))
  have HF := Lib.hid hF
  clear hT hP hQ hA hB hs hch hm hl hF w2
  have hF := HF.out
  go_enter Tryd.func6, Tryd.ntmps6
  go_wp2_with fail
  refine (HCUT.out _).mono ?_
  rintro e W0 ⟨rfl, rfl⟩
  go_wp2_with fail
  refine (awake7_calls _ HT.out).mono ?_
  rintro e W1 ⟨rfl, b1⟩
  have B1 := Lib.hid b1
  clear b1 HCUT
  go_wp2_with fail
  refine (HCK.out _).mono ?_
  rintro e W1' ⟨rfl, rfl⟩
  clear HCK
  go_wp2_with fail
  refine (HP.out _ (HT.out.below B1.out)).mono ?_
  rintro e W2 ⟨va, vac, rfl, hp, b⟩
  have bl := below_one W2 (.cells #[.bool D, .bool R, .int .u8 Q, .int .u32 n, .slice va m vac, .string tp, .string pl] 63)
  have hpb := heap_alloc_new W2 (.cells #[.bool D, .bool R, .int .u8 Q, .int .u32 n, .slice va m vac, .string tp, .string pl] 63)
  have B2 := Lib.hid (Below.next (Below.next B1.out b) bl)
  have P1 := Lib.hid (hp.below bl)
  have HPB := Lib.hid hpb
  clear hp b bl hpb B1
  go_wp2_with fail
  generalize W2.alloc (.cells #[.bool D, .bool R, .int .u8 Q, .int .u32 n, .slice va m vac, .string tp, .string pl] 63) = W3 at *
  generalize W2.heap.size = pb at *
  refine (HQ.out _).mono ?_
  rintro e W4 ⟨vb, vbc, rfl, hp, b⟩
  have bl := below_one W4 (.cells #[.bool D, .bool R, .int .u8 Q, .int .u32 n, .slice vb m vbc, .string tp, .string pl] 67)
  have bb2 := Below.next b bl
  have hqb := heap_alloc_new W4 (.cells #[.bool D, .bool R, .int .u8 Q, .int .u32 n, .slice vb m vbc, .string tp, .string pl] 67)
  have B4 := Lib.hid (Below.next B2.out bb2)
  have P2 := Lib.hid (hp.below bl)
  have P1' := Lib.hid (P1.out.below bb2)
  have HPB' := Lib.hid ((bb2.block _ (lt_of_block HPB.out)).trans HPB.out)
  have HQB := Lib.hid hqb
  clear hp b bl bb2 hqb B2 P1 HPB
  go_wp2_with fail
  generalize W4.alloc (.cells #[.bool D, .bool R, .int .u8 Q, .int .u32 n, .slice vb m vbc, .string tp, .string pl] 67) = W5 at *
  generalize W4.heap.size = qb at *
  refine (HA.out _ (HT.out.below B4.out)).mono ?_
  rintro e W6 ⟨ua, uac, rfl, hp, b⟩
  have bl := below_one W6 (.cells #[.int .i64 k', .int .u32 i, .int .u8 c, .slice ua l uac] 71)
  have bb2 := Below.next b bl
  have hab := heap_alloc_new W6 (.cells #[.int .i64 k', .int .u32 i, .int .u8 c, .slice ua l uac] 71)
  have B6 := Lib.hid (Below.next B4.out bb2)
  have P3 := Lib.hid (hp.below bl)
  have P1 := Lib.hid (P1'.out.below bb2)
  have P2' := Lib.hid (P2.out.below bb2)
  have HPB := Lib.hid ((bb2.block _ (lt_of_block HPB'.out)).trans HPB'.out)
  have HQB' := Lib.hid ((bb2.block _ (lt_of_block HQB.out)).trans HQB.out)
  have HAB := Lib.hid hab
  clear hp b bl bb2 hab B4 P1' P2 HPB' HQB
  go_wp2_with fail
  generalize W6.alloc (.cells #[.int .i64 k', .int .u32 i, .int .u8 c, .slice ua l uac] 71) = W7 at *
  generalize W6.heap.size = ab at *
  refine (HB.out _).mono ?_
  rintro e W8 ⟨ub, ubc, rfl, hp, b⟩
  have bl := below_one W8 (.cells #[.int .i64 k', .int .u32 i, .int .u8 c, .slice ub l ubc] 75)
  have bb2 := Below.next b bl
  have hbb := heap_alloc_new W8 (.cells #[.int .i64 k', .int .u32 i, .int .u8 c, .slice ub l ubc] 75)
  have HJ := Lib.hid (show RdJ w pb qb ab W8.heap.size D R Q n tp pl m va vb vac vbc ps k' i c l ua ub uac ubc qs (W8.alloc (.cells #[.int .i64 k', .int .u32 i, .int .u8 c, .slice ub l ubc] 75)) from ⟨Below.next B6.out bb2, (bb2.block _ (lt_of_block HPB.out)).trans HPB.out, (bb2.block _ (lt_of_block HQB'.out)).trans HQB'.out, (bb2.block _ (lt_of_block HAB.out)).trans HAB.out, hbb, P1.out.below bb2, P2'.out.below bb2, P3.out.below bb2, hp.below bl⟩)
  clear hp b bl bb2 hbb B6 P1 P2' P3 HPB HQB' HAB HP HQ HA HB
  go_upto_region 9 with fail
  generalize W8.alloc (.cells #[.int .i64 k', .int .u32 i, .int .u8 c, .slice ub l ubc] 75) = W9 at *
  generalize W8.heap.size = bb at *
  have HJ := Lib.hid HJ.out.drew
  · skip
    refine wp_region_held_drew (S := RdC pb qb ab bb D R Q n tp pl m va vb vac vbc k' i c l ua ub uac ubc) (by kernel_rfl) HJ.out.cells (fun hHeld => ?_)
    refine wpAnyH_take (i := 0) (oi := _) (v := ?_) rfl (by kernel_rfl) (by kernel_rfl) (by kernel_rfl) (fun _ _ _ h => h) (Or.inl ⟨by rfl, ?_⟩) (by assumption) ?_
    rotate_left
    · intro wx hSw
      obtain ⟨⟨y0, y1, y2, y3, y4, y5, y6⟩, ⟨x0, x1, x2, x3, x4, x5, x6⟩, ⟨u0, u1, u2, u3⟩, t0, t1, t2, t3⟩ := hSw
      (go_simp) <;> (with_reducible rfl)
    simp only [Act.put, List.getElem_toArray, List.getElem_cons_zero, List.setIfInBounds_toArray, List.set_cons_zero, List.set_cons_succ]
    refine wpAnyH_take (i := 1) (oi := _) (v := ?_) rfl (by kernel_rfl) (by kernel_rfl) (by kernel_rfl) (fun _ _ _ h => h) (Or.inl ⟨by rfl, ?_⟩) (by assumption) ?_
    rotate_left
    · intro wx hSw
      obtain ⟨⟨y0, y1, y2, y3, y4, y5, y6⟩, ⟨x0, x1, x2, x3, x4, x5, x6⟩, ⟨u0, u1, u2, u3⟩, t0, t1, t2, t3⟩ := hSw
      (go_simp) <;> (with_reducible rfl)
    simp only [Act.put, List.getElem_toArray, List.getElem_cons_zero, List.getElem_cons_succ, List.setIfInBounds_toArray, List.set_cons_zero, List.set_cons_succ]
    refine wpAnyH_take (i := 2) (oi := _) (v := ?_) rfl (by kernel_rfl) (by kernel_rfl) (by kernel_rfl) (fun _ _ _ h => h) (Or.inl ⟨by rfl, ?_⟩) (by assumption) ?_
    rotate_left
    · intro wx hSw
      obtain ⟨⟨y0, y1, y2, y3, y4, y5, y6⟩, ⟨x0, x1, x2, x3, x4, x5, x6⟩, ⟨u0, u1, u2, u3⟩, t0, t1, t2, t3⟩ := hSw
      (go_simp) <;> (with_reducible rfl)
    simp only [Act.put, List.getElem_toArray, List.getElem_cons_zero, List.getElem_cons_succ, List.setIfInBounds_toArray, List.set_cons_zero, List.set_cons_succ]
    refine wpAnyH_take (i := 3) (oi := _) (v := ?_) rfl (by kernel_rfl) (by kernel_rfl) (by kernel_rfl) (fun _ _ _ h => h) (Or.inl ⟨by rfl, ?_⟩) (by assumption) ?_
    rotate_left
    · intro wx hSw
      obtain ⟨⟨y0, y1, y2, y3, y4, y5, y6⟩, ⟨x0, x1, x2, x3, x4, x5, x6⟩, ⟨u0, u1, u2, u3⟩, t0, t1, t2, t3⟩ := hSw
      (go_simp) <;> (with_reducible rfl)
    simp only [Act.put, List.getElem_toArray, List.getElem_cons_zero, List.getElem_cons_succ, List.setIfInBounds_toArray, List.set_cons_zero, List.set_cons_succ]
    refine wpAnyH_take (i := 4) (oi := _) (v := ?_) rfl (by kernel_rfl) (by kernel_rfl) (by kernel_rfl) (fun _ _ _ h => h) (Or.inl ⟨by rfl, ?_⟩) (by assumption) ?_
    rotate_left
    · intro wx hSw
      obtain ⟨⟨y0, y1, y2, y3, y4, y5, y6⟩, ⟨x0, x1, x2, x3, x4, x5, x6⟩, ⟨u0, u1, u2, u3⟩, t0, t1, t2, t3⟩ := hSw
      (go_simp) <;> (with_reducible rfl)
    simp only [Act.put, List.getElem_toArray, List.getElem_cons_zero, List.getElem_cons_succ, List.setIfInBounds_toArray, List.set_cons_zero, List.set_cons_succ]
    refine wpAnyH_take (i := 6) (oi := _) (v := ?_) rfl (by kernel_rfl) (by kernel_rfl) (by kernel_rfl) (fun _ _ _ h => h) (Or.inl ⟨by rfl, ?_⟩) (by assumption) ?_
    rotate_left
    · intro wx hSw
      obtain ⟨⟨y0, y1, y2, y3, y4, y5, y6⟩, ⟨x0, x1, x2, x3, x4, x5, x6⟩, ⟨u0, u1, u2, u3⟩, t0, t1, t2, t3⟩ := hSw
      (go_simp) <;> (with_reducible rfl)
    simp only [Act.put, List.getElem_toArray, List.getElem_cons_zero, List.getElem_cons_succ, List.setIfInBounds_toArray, List.set_cons_zero, List.set_cons_succ]
    refine wpAnyH_ready (rs := [5]) (by kernel_rfl) (by simp) ?_
    refine AllReadyH.cons (o := _) rfl (fun K hK => ?_) AllReadyH.nil
    simp only [Act.put, List.getElem_toArray, List.getElem_cons_zero, List.getElem_cons_succ, List.setIfInBounds_toArray, List.set_cons_zero, List.set_cons_succ]
    go_simp
    refine (HTO.out _ _ _ _ HJ.out.p1).mono ?_
    rintro e V1 ⟨g1, g2, g3, rfl, hp1, b⟩
    go_simp
    have HJ := Lib.hid (HJ.out.below b)
    have HP1 := Lib.hid hp1
    clear hp1
    with_reducible refine hK.out _ _ HJ.out.cells (fun hHeld => ?_)
    clear hK K b
    (try simp only [Act.put, List.getElem_toArray, List.getElem_cons_zero, List.getElem_cons_succ, List.setIfInBounds_toArray, List.set_cons_zero, List.set_cons_succ])
    refine wpAnyH_ready (rs := [7]) (by kernel_rfl) (by simp) ?_
    refine AllReadyH.cons (o := _) rfl (fun K hK => ?_) AllReadyH.nil
    simp only [Act.put, List.getElem_toArray, List.getElem_cons_zero, List.getElem_cons_succ, List.setIfInBounds_toArray, List.set_cons_zero, List.set_cons_succ]
    go_simp
    refine (HSM.out _ _ _ _ _ _ _ HP1.out HJ.out.p2).mono ?_
    rintro e V2 ⟨rfl, b⟩
    go_simp
    have HJ := Lib.hid (HJ.out.below b)
    clear HP1
    with_reducible refine hK.out _ _ HJ.out.cells (fun hHeld => ?_)
    clear hK K b
    (try simp only [Act.put, List.getElem_toArray, List.getElem_cons_zero, List.getElem_cons_succ, List.setIfInBounds_toArray, List.set_cons_zero, List.set_cons_succ])
    refine wpAnyH_take (i := 8) (oi := _) (v := ?_) rfl (by kernel_rfl) (by kernel_rfl) (by kernel_rfl) (fun _ _ _ h => h) (Or.inl ⟨by rfl, ?_⟩) (by assumption) ?_
    rotate_left
    · intro wx hSw
      obtain ⟨⟨y0, y1, y2, y3, y4, y5, y6⟩, ⟨x0, x1, x2, x3, x4, x5, x6⟩, ⟨u0, u1, u2, u3⟩, t0, t1, t2, t3⟩ := hSw
      (go_simp) <;> (with_reducible rfl)
    simp only [Act.put, List.getElem_toArray, List.getElem_cons_zero, List.getElem_cons_succ, List.setIfInBounds_toArray, List.set_cons_zero, List.set_cons_succ]
    refine wpAnyH_take (i := 9) (oi := _) (v := ?_) rfl (by kernel_rfl) (by kernel_rfl) (by kernel_rfl) (fun _ _ _ h => h) (Or.inl ⟨by rfl, ?_⟩) (by assumption) ?_
    rotate_left
    · intro wx hSw
      obtain ⟨⟨y0, y1, y2, y3, y4, y5, y6⟩, ⟨x0, x1, x2, x3, x4, x5, x6⟩, ⟨u0, u1, u2, u3⟩, t0, t1, t2, t3⟩ := hSw
      (go_simp) <;> (with_reducible rfl)
    simp only [Act.put, List.getElem_toArray, List.getElem_cons_zero, List.getElem_cons_succ, List.setIfInBounds_toArray, List.set_cons_zero, List.set_cons_succ]
    refine wpAnyH_take (i := 10) (oi := _) (v := ?_) rfl (by kernel_rfl) (by kernel_rfl) (by kernel_rfl) (fun _ _ _ h => h) (Or.inl ⟨by rfl, ?_⟩) (by assumption) ?_
    rotate_left
    · intro wx hSw
      obtain ⟨⟨y0, y1, y2, y3, y4, y5, y6⟩, ⟨x0, x1, x2, x3, x4, x5, x6⟩, ⟨u0, u1, u2, u3⟩, t0, t1, t2, t3⟩ := hSw
      (go_simp) <;> (with_reducible rfl)
    simp only [Act.put, List.getElem_toArray, List.getElem_cons_zero, List.getElem_cons_succ, List.setIfInBounds_toArray, List.set_cons_zero, List.set_cons_succ]
    refine wpAnyH_take (i := 11) (oi := _) (v := ?_) rfl (by kernel_rfl) (by kernel_rfl) (by kernel_rfl) (fun _ _ _ h => h) (Or.inl ⟨by rfl, ?_⟩) (by assumption) ?_
    rotate_left
    · intro wx hSw
      obtain ⟨⟨y0, y1, y2, y3, y4, y5, y6⟩, ⟨x0, x1, x2, x3, x4, x5, x6⟩, ⟨u0, u1, u2, u3⟩, t0, t1, t2, t3⟩ := hSw
      (go_simp) <;> (with_reducible rfl)
    simp only [Act.put, List.getElem_toArray, List.getElem_cons_zero, List.getElem_cons_succ, List.setIfInBounds_toArray, List.set_cons_zero, List.set_cons_succ]
    refine wpAnyH_take (i := 12) (oi := _) (v := ?_) rfl (by kernel_rfl) (by kernel_rfl) (by kernel_rfl) (fun _ _ _ h => h) (Or.inl ⟨by rfl, ?_⟩) (by assumption) ?_
    rotate_left
    · intro wx hSw
      obtain ⟨⟨y0, y1, y2, y3, y4, y5, y6⟩, ⟨x0, x1, x2, x3, x4, x5, x6⟩, ⟨u0, u1, u2, u3⟩, t0, t1, t2, t3⟩ := hSw
      (go_simp) <;> (with_reducible rfl)
    simp only [Act.put, List.getElem_toArray, List.getElem_cons_zero, List.getElem_cons_succ, List.setIfInBounds_toArray, List.set_cons_zero, List.set_cons_succ]
    refine wpAnyH_take (i := 13) (oi := _) (v := ?_) rfl (by kernel_rfl) (by kernel_rfl) (by kernel_rfl) (fun _ _ _ h => h) (Or.inl ⟨by rfl, ?_⟩) (by assumption) ?_
    rotate_left
    · intro wx hSw
      obtain ⟨⟨y0, y1, y2, y3, y4, y5, y6⟩, ⟨x0, x1, x2, x3, x4, x5, x6⟩, ⟨u0, u1, u2, u3⟩, t0, t1, t2, t3⟩ := hSw
      (go_simp) <;> (with_reducible rfl)
    simp only [Act.put, List.getElem_toArray, List.getElem_cons_zero, List.getElem_cons_succ, List.setIfInBounds_toArray, List.set_cons_zero, List.set_cons_succ]
    refine wpAnyH_take (i := 14) (oi := _) (v := ?_) rfl (by kernel_rfl) (by kernel_rfl) (by kernel_rfl) (fun _ _ _ h => h) (Or.inl ⟨by rfl, ?_⟩) (by assumption) ?_
    rotate_left
    · intro wx hSw
      obtain ⟨⟨y0, y1, y2, y3, y4, y5, y6⟩, ⟨x0, x1, x2, x3, x4, x5, x6⟩, ⟨u0, u1, u2, u3⟩, t0, t1, t2, t3⟩ := hSw
      (go_simp) <;> (with_reducible rfl)
    simp only [Act.put, List.getElem_toArray, List.getElem_cons_zero, List.getElem_cons_succ, List.setIfInBounds_toArray, List.set_cons_zero, List.set_cons_succ]
    refine wpAnyH_take (i := 15) (oi := _) (v := ?_) rfl (by kernel_rfl) (by kernel_rfl) (by kernel_rfl) (fun _ _ _ h => h) (Or.inl ⟨by rfl, ?_⟩) (by assumption) ?_
    rotate_left
    · intro wx hSw
      obtain ⟨⟨y0, y1, y2, y3, y4, y5, y6⟩, ⟨x0, x1, x2, x3, x4, x5, x6⟩, ⟨u0, u1, u2, u3⟩, t0, t1, t2, t3⟩ := hSw
      (go_simp) <;> (with_reducible rfl)
    simp only [Act.put, List.getElem_toArray, List.getElem_cons_zero, List.getElem_cons_succ, List.setIfInBounds_toArray, List.set_cons_zero, List.set_cons_succ]
    refine wpAnyH_take (i := 17) (oi := _) (v := ?_) rfl (by kernel_rfl) (by kernel_rfl) (by kernel_rfl) (fun _ _ _ h => h) (Or.inl ⟨by rfl, ?_⟩) (by assumption) ?_
    rotate_left
    · intro wx hSw
      obtain ⟨⟨y0, y1, y2, y3, y4, y5, y6⟩, ⟨x0, x1, x2, x3, x4, x5, x6⟩, ⟨u0, u1, u2, u3⟩, t0, t1, t2, t3⟩ := hSw
      (go_simp) <;> (with_reducible rfl)
    simp only [Act.put, List.getElem_toArray, List.getElem_cons_zero, List.getElem_cons_succ, List.setIfInBounds_toArray, List.set_cons_zero, List.set_cons_succ]
    refine wpAnyH_ready (rs := [16]) (by kernel_rfl) (by simp) ?_
    refine AllReadyH.cons (o := _) rfl (fun K hK => ?_) AllReadyH.nil
    simp only [Act.put, List.getElem_toArray, List.getElem_cons_zero, List.getElem_cons_succ, List.setIfInBounds_toArray, List.set_cons_zero, List.set_cons_succ]
    go_simp
    refine (HTA.out _ _ _ _ HJ.out.p3).mono ?_
    rintro e V3 ⟨g4, g5, g6, rfl, hp1, b⟩
    go_simp
    have HJ := Lib.hid (HJ.out.below b)
    have HP1 := Lib.hid hp1
    clear hp1
    with_reducible refine hK.out _ _ HJ.out.cells (fun hHeld => ?_)
    clear hK K b
    (try simp only [Act.put, List.getElem_toArray, List.getElem_cons_zero, List.getElem_cons_succ, List.setIfInBounds_toArray, List.set_cons_zero, List.set_cons_succ])
    refine wpAnyH_ready (rs := [18]) (by kernel_rfl) (by simp) ?_
    refine AllReadyH.cons (o := _) rfl (fun K hK => ?_) AllReadyH.nil
    simp only [Act.put, List.getElem_toArray, List.getElem_cons_zero, List.getElem_cons_succ, List.setIfInBounds_toArray, List.set_cons_zero, List.set_cons_succ]
    go_simp
    refine (HSA.out _ _ _ _ _ _ _ HP1.out HJ.out.p4).mono ?_
    rintro e V4 ⟨rfl, b⟩
    go_simp
    have HJ := Lib.hid (HJ.out.below b)
    clear HP1
    with_reducible refine hK.out _ _ HJ.out.cells (fun hHeld => ?_)
    clear hK K b
    (try simp only [Act.put, List.getElem_toArray, List.getElem_cons_zero, List.getElem_cons_succ, List.setIfInBounds_toArray, List.set_cons_zero, List.set_cons_succ])
    refine wpAnyH_take (i := 19) (oi := _) (v := ?_) rfl (by kernel_rfl) (by kernel_rfl) (by kernel_rfl) (fun _ _ _ h => h) (Or.inl ⟨by rfl, ?_⟩) (by assumption) ?_
    rotate_left
    · intro wx hSw
      obtain ⟨⟨y0, y1, y2, y3, y4, y5, y6⟩, ⟨x0, x1, x2, x3, x4, x5, x6⟩, ⟨u0, u1, u2, u3⟩, t0, t1, t2, t3⟩ := hSw
      (go_simp) <;> (with_reducible rfl)
    simp only [Act.put, List.getElem_toArray, List.getElem_cons_zero, List.getElem_cons_succ, List.setIfInBounds_toArray, List.set_cons_zero, List.set_cons_succ]
    refine wpAnyH_take (i := 20) (oi := _) (v := ?_) rfl (by kernel_rfl) (by kernel_rfl) (by kernel_rfl) (fun _ _ _ h => h) (Or.inl ⟨by rfl, ?_⟩) (by assumption) ?_
    rotate_left
    · intro wx hSw
      obtain ⟨⟨y0, y1, y2, y3, y4, y5, y6⟩, ⟨x0, x1, x2, x3, x4, x5, x6⟩, ⟨u0, u1, u2, u3⟩, t0, t1, t2, t3⟩ := hSw
      (go_simp) <;> (with_reducible rfl)
    simp only [Act.put, List.getElem_toArray, List.getElem_cons_zero, List.getElem_cons_succ, List.setIfInBounds_toArray, List.set_cons_zero, List.set_cons_succ]
    refine wpAnyH_done (by kernel_rfl) ?_ _
    go_wp2
    go_ret
    exact ⟨rfl, HJ.out.bel⟩

theorem fq_range : ∀ f : Fin 16, 0 ≤ fQua (f.val : Int) ∧ fQua (f.val : Int) ≤ 3 := by decide +kernel

theorem walk (a0 : Int) (w0 : (Lit.int .i64 a0).wf = true) (k : Int) (w1 : (Lit.int .i64 k).wf = true) (a2 : ByteArray) (w2 : a2.size ≤ maxLen) (w : World) (hT : Tabs w) :
    Calls Tryd.prog 6 #[.int .i64 a0, .int .i64 k, .string a2] w fun e w' => e = .returned (.bool true) ∧ Below w.heap.size w w' := by
  have hand := i64_and15 a0
  obtain ⟨F, hF⟩ : ∃ F, bits .and .i64 a0 15 = F := ⟨_, rfl⟩
  have hF0 : 0 ≤ F := by omega
  have hF1 : F ≤ 15 := by omega
  obtain ⟨s, hs⟩ : ∃ s, a2.extract 0 200 = s := ⟨_, rfl⟩
  have hsz : s.size ≤ 200 := by rw [← hs]; simp; omega
  clear hand w0 w1
  cases hch : chkB 3 F with
  | false =>
    have HCUT := Lib.hid (show ∀ V, Calls Tryd.prog 11 #[.string a2, .int .i64 200] V (fun e w' => e = .returned (.string s) ∧ V = w') from fun V => by have := cut_calls V a2 200 w2; rw [hs] at this; exact this)
    have HCK := Lib.hid (show ∀ V, Calls Tryd.prog 29 #[.int .i64 3, .int .i64 F] V (fun e w' => e = .returned (.int .i64 2) ∧ V = w') from fun V => by have := check_calls V 3 F; rw [hch] at this; exact this)
    have HT := Lib.hid hT
    clear hs hch w2 hT
    go_enter Tryd.func6, Tryd.ntmps6
    go_wp2_with fail
    refine (HCUT.out _).mono ?_
    rintro e W0 ⟨rfl, rfl⟩
    go_wp2_with fail
    refine (awake7_calls _ HT.out).mono ?_
    rintro e W1 ⟨rfl, b1⟩
    have B1 := Lib.hid b1
    clear b1 HCUT
    go_wp2_with fail
    refine (HCK.out _).mono ?_
    rintro e W1' ⟨rfl, rfl⟩
    clear HCK
    go_wp2_with fail
    refine (awake7_calls _ (HT.out.below B1.out)).mono ?_
    rintro e W2 ⟨rfl, b2⟩
    have B2 := Lib.hid (Below.next B1.out b2)
    clear b2 B1
    go_wp2
    go_ret
    exact ⟨rfl, B2.out⟩
  | true =>
    obtain ⟨g, rfl⟩ := Int.eq_ofNat_of_zero_le hF0
    have hq := fq_range ⟨g, by omega⟩
    dsimp only at hq
    obtain ⟨tp, n, ps, pl, E, s1, x1, s2, x2, s3, x3, s4, x4, hof⟩ := pub_of s (fQua g)
    obtain ⟨C, hC⟩ : ∃ C : Pb, (if E = 0 then ⟨fDup g, fRet g, fQua g, n, ps, tp, pl⟩ else pbZ) = C := ⟨_, rfl⟩
    have hCl : C.ps.length ≤ 1000000 := by
      by_cases hE : E = 0
      · rw [if_pos hE] at hC
        subst hE
        have := (pub_inv hof (fDup g) (fRet g) (by omega) hq.1 hq.2).2.pn
        rw [← hC]
        exact Nat.le_trans this (by decide)
      · rw [if_neg hE] at hC
        rw [← hC]
        decide
    have ack : ∃ (K : Pk) (G : Int), K.ps.length ≤ 1000000 ∧ (∀ V, Tabs V → Calls Tryd.prog 32 #[.int .i64 k, .string s] V (PackR V K G)) ∧ (∀ V, Calls Tryd.prog 33 #[.int .i64 k, .string s] V (RAckR V K G)) := by
      by_cases hk : 4 ≤ k ∧ k ≤ 7
      · obtain ⟨n', c', qs, G, t1, y1, t2, y2, t3, y3, hof2⟩ := pack_of k s
        refine ⟨if G = 0 then ⟨k, n', c', qs⟩ else pkZ, G, ?_, fun V hV => pack_calls V k s hV hk.1 hk.2 hof2 _ rfl, fun V => r7ack_calls V k s hk.1 hk.2 hof2 _ rfl⟩
        by_cases hG : G = 0
        · subst hG
          rw [if_pos rfl]
          exact pack_len hof2 (by omega)
        · rw [if_neg hG]
          decide
      · exact ⟨pkZ, 5, by decide, fun V _ => pack_arg V k s hk, fun V => r7ack_arg V k s hk⟩
    obtain ⟨K, G, hKl, hKA, hKB⟩ := ack
    refine walk1 a0 k a2 w2 w hT g hF s hs hch C.dup C.ret C.q C.id C.tp C.pl C.ps C.ps.length rfl hCl E K.k K.id K.code K.ps K.ps.length rfl hKl G ?_ ?_ ?_ ?_
    · intro V hV
      refine (pub_calls V g s hV hq.1 hq.2 hof C hC).mono ?_
      rintro e w' ⟨v, rfl, o, b⟩
      have hp := o.props
      obtain ⟨a, c, rfl⟩ := o.form
      exact ⟨a, c, rfl, hp, b⟩
    · intro V
      refine (r7parse_calls V g s hF0 hF1 hof C hC).mono ?_
      rintro e w' ⟨v, rfl, o, b⟩
      have hp := o.props
      obtain ⟨a, c, rfl⟩ := o.form
      exact ⟨a, c, rfl, hp, b⟩
    · intro V hV
      refine (hKA V hV).mono ?_
      rintro e w' ⟨v, rfl, o, b⟩
      have hp := o.props
      obtain ⟨a, c, rfl⟩ := o.form
      exact ⟨a, c, rfl, hp, b⟩
    · intro V
      refine (hKB V).mono ?_
      rintro e w' ⟨v, rfl, o, b⟩
      have hp := o.props
      obtain ⟨a, c, rfl⟩ := o.form
      exact ⟨a, c, rfl, hp, b⟩

set_option maxRecDepth 100000 in
set_option maxHeartbeats 2000000 in
theorem lifted (os : Os) (started : os.Started) (H : Type) (enc : TypeId × Value → H) (F : Stop.Interp) :
    ReturnsInHanded {} Tryd.checked os 6 .any ((OpenSpec.ofChange Rows.publishReadsSpec).preRow enc Tryd.prog Tryd.f6 Rows.publishReadsRow.domain false Rows.publishReadsRow.laid) (((OpenSpec.ofChange Rows.publishReadsSpec).at F).post enc Tryd.prog Tryd.f6 false true false false) := by
  obtain ⟨places, hx⟩ := reads os enc
  refine returnsInHanded_of_row (C := Tryd.checked) (s := OpenSpec.ofChange Rows.publishReadsSpec) own started (by kernel_rfl) Tryd.func6
    (witness_row_at (enc := enc) (C := Tryd.checked) false (laidWorld os) #[.int .i64 0, .int .i64 0, .string ByteArray.empty] rfl (by kernel_rfl) (by kernel_rfl) (by kernel_rfl)
      (OpenSpec.preRow_of_cond 8 hx (by kernel_rfl) (fun k hk => by cases hk) (by kernel_rfl) (laid_met os))) ?_
  intro W base args ds gs before hval0 hW _ _ _ hL hShp _
  have hval : ∀ (j : Nat) t v, Tryd.f6.params[j]? = some t → args[j]? = some v → Value.okWide Tryd.prog W .any base t v := hval0
  have hW' := hW
  obtain ⟨p, q, hA0, hV, rfl, hfz, hnd⟩ := hW
  have hA : DataW.TrodAll enc Tryd.prog W 0 (fun _ => true) true Tryd.f6.params.toList args.toList ds p := hA0
  rw [Tryd.params6] at hA hval
  obtain ⟨v0, vs0, d0, ds0, p0, q0, hargs, rfl, rfl, h0, r0⟩ := trodAll_cons hA
  obtain ⟨v1, vs1, d1, ds1, p1, q1, rfl, rfl, rfl, h1, r1⟩ := trodAll_cons r0
  obtain ⟨v2, vs2, d2, ds2, p2, q2, rfl, rfl, rfl, h2, r2⟩ := trodAll_cons r1
  obtain ⟨rfl, rfl, rfl⟩ := trodAll_nil r2
  obtain rfl : args = #[v0, v1, v2] := by cases args; simp_all
  obtain ⟨rfl, rfl⟩ := trodVars_none hV
  obtain ⟨a0, rfl, rfl, rfl, w0⟩ := open_int Tryd.underlying3 (hval 0 3 v0 rfl rfl) h0
  obtain ⟨a1, rfl, rfl, rfl, w1⟩ := open_int Tryd.underlying3 (hval 1 3 v1 rfl rfl) h1
  obtain ⟨a2, rfl, rfl, rfl, w2⟩ := open_string Tryd.underlying9 (hval 2 9 v2 rfl rfl) h2
  clear hA0 hval0
  have hT : Tabs W := utf8Tabs_of_readsT (U8Types.of196 Tryd.lays196) ⟨by kernel_rfl, by kernel_rfl, by kernel_rfl, by kernel_rfl, by kernel_rfl, by kernel_rfl, by kernel_rfl⟩ (first_eq ▸ Lib.laidMet.reads hL (.tail _ (.head _))) (accept_eq ▸ Lib.laidMet.reads hL (.head _))
  refine (walk a0 w0 a1 w1 a2 w2 W  hT).mono fun e W' ⟨he, bel⟩ => ?_
  subst he
  exact ⟨_, rfl, _, _, _, [], _, [], hW', trodAll_mk1 (shut_bool Tryd.underlying4 _), (trodAll_cons_mk (shut_int Tryd.underlying3 w0) (trodAll_cons_mk (shut_int Tryd.underlying3 w1) (trodAll_cons_mk (shut_string Tryd.underlying9 w2) trodAll_mk0))), rfl, bel.frame _, fun h => by cases h⟩

theorem said : Rows.PublishReadsSaid :=
  OpenClaim.holds_of_cond 6 Tryd.f6 rfl rfl rfl rfl rfl rfl rfl ⟨rfl, rfl, rfl, rfl, rfl⟩ rfl rfl rfl rfl rfl (by kernel_rfl) Tryd.func6 closed
    (of_decide_eq_true (by kernel_rfl)) (by unfold Func.isWrapper; first | (rw [if_pos (by decide +kernel)]; kernel_rfl) | (rw [if_neg (by decide +kernel)]; exact ⟨rfl, rfl⟩))
    (fun os started H enc _ F => by rw [OpenClaim.pre_eq_preRow]; exact lifted os started H enc F)

theorem plain (f : FuncId) (fn : Func) (hf : Tryd.pinned.checked.prog.funcNamed Tryd.f6.name = some f) (hfn : Tryd.pinned.checked.prog.funcs[f]? = some fn) :
    false = Tryd.pinned.checked.prog.looks [] ∧ ∀ (j : Nat) t, fn.params[j]? = some t → Tryd.pinned.checked.prog.wantsStandIn t = false := by
  obtain rfl : f = 6 := Option.some.inj ((show Tryd.prog.funcNamed Tryd.f6.name = some 6 by kernel_rfl).symm.trans hf) |>.symm
  obtain rfl : fn = Tryd.f6 := (Option.some.inj (Tryd.func6.symm.trans hfn)).symm
  refine ⟨fac_looks, fun j t ht => ?_⟩
  rw [Tryd.params6] at ht
  have hm : t = 3 ∨ t = 9 := by simpa using Array.mem_of_getElem? ht
  rcases hm with rfl | rfl
  · exact (show Tryd.prog.wantsStandIn 3 = false by kernel_rfl)
  · exact (show Tryd.prog.wantsStandIn 9 = false by kernel_rfl)

end Go.Proofs.YtacffjimkplieaaDoor.publishReads
namespace Go.Proofs.YtacffjimkplieaaDoor
/-- The statement. -/
theorem publishReads_holds : Rows.PublishReadsCardSaid :=
  Claim7.holds_tied_plain_at .later [] _ _ _ _ publishReads.said (fun _ h => by cases h) publishReads.wft (fun _ h => by cases h) publishReads_row_tie rfl ⟨rfl, rfl⟩ fac_main rfl publishReads.plain publishReads.goes
#print axioms publishReads_holds
end Go.Proofs.YtacffjimkplieaaDoor
