/-
  A packet of more than so many bytes is told as too big as soon as its header is there; one of just so many is not (switchboardlaw05.FrameBig answers true for every input).
  Its conditions: none beside those of the row itself.
-/
import Derived.Test.YtdhdjkpocdfjbaaFr7
import Derived.ProofKit
import Derived.OpenShut
import Derived.ShutString
import Derived.ChangeOld
namespace Go.Proofs.Ytdhdjkpocdfjbaa.frameBig
open Go.ChangeShapes Go.WideShapes Go.ChangeAt Go.RowKit
open Go.ChangeMaps (open_string shut_string)
set_option linter.unusedVariables false

theorem own : ownKnob Try.prog.godebug = none := by kernel_rfl

set_option maxRecDepth 100000 in
set_option maxHeartbeats 1000000 in
theorem walk (a0 : Int) (w0 : (Lit.int .i64 a0).wf = true) (w : World) :
    Calls Try.prog 6 #[.int .i64 a0] w fun e w' => e = .returned (.bool true) ∧ Below w.heap.size w w' := by
  clear w0
  by_cases hlow : a0 < 0
  · go_enter Try.func6, Try.ntmps6
    go_wp2_with fail
    refine (awake5_calls _).mono ?_
    rintro e w1 ⟨rfl, b1⟩
    have B1 := Lib.hid b1
    clear b1
    go_wp2_with fail
    refine (awake5_calls _).mono ?_
    rintro e w2 ⟨rfl, b2⟩
    have B2 := Lib.hid (Below.next B1.out b2)
    clear b2
    go_wp2
    go_ret
    exact ⟨rfl, B2.out⟩
  by_cases hhigh : 20000 < a0
  · go_enter Try.func6, Try.ntmps6
    go_wp2_with fail
    refine (awake5_calls _).mono ?_
    rintro e w1 ⟨rfl, b1⟩
    have B1 := Lib.hid b1
    clear b1
    go_wp2_with fail
    refine (awake5_calls _).mono ?_
    rintro e w2 ⟨rfl, b2⟩
    have B2 := Lib.hid (Below.next B1.out b2)
    clear b2
    go_wp2
    go_ret
    exact ⟨rfl, B2.out⟩
  obtain ⟨n, rfl⟩ := Int.eq_ofNat_of_zero_le (show 0 ≤ a0 by omega)
  have hn : n ≤ 20000 := by omega
  go_enter Try.func6, Try.ntmps6
  go_wp2_with fail
  refine (awake5_calls _).mono ?_
  rintro e w1 ⟨rfl, b1⟩
  have B1 := Lib.hid b1
  clear b1
  have hmk := run_zeros w1 n hn
  have hcv := conv_zeros w1 n
  have hm1 := B1.out.alloc B1.out.size (.cells (madeCells (Value.int .u8 0).cells n) 5)
  have hm1s : w.heap.size ≤ (w1.alloc (.cells (madeCells (Value.int .u8 0).cells n) 5)).heap.size := by rw [World.size_alloc]; have := B1.out.size; omega
  generalize w1.alloc (.cells (madeCells (Value.int .u8 0).cells n) 5) = W1 at *
  have HM1 := Lib.hid hm1
  clear B1 hm1
  have hzl : (List.replicate n (0 : UInt8)).length = n := by simp
  generalize List.replicate n (0 : UInt8) = Z at *
  have hfl := frame_len 12 0 Z
  have hvl := varb_len 3 n
  have hcut : frameL 12 0 Z = UInt8.ofNat (12 * 16 + 0) :: (varb 3 n ++ Z) := by have := frame_cons 12 0 Z []; rw [List.append_nil, List.append_nil, hzl] at this; exact this
  rw [hzl] at hfl
  go_wp2_with fail
  refine (ftext_calls _ 12 0 (by decide) (by decide) Z (by omega)).mono ?_
  rintro e w2 ⟨rfl, b2⟩
  have B2 := Lib.hid ((HM1.out.alloc hm1s _).trans (b2.mono (by rw [World.size_alloc]; omega)))
  clear b2 HM1 hmk hcv
  have hsz : (str (frameL 12 0 Z)).size = 1 + (varb 3 n).length + n := by rw [str_size, hfl]
  have hex : ((str (frameL 12 0 Z)).extract 0 (1 + (varb 3 n).length + n - n)).data.toList = UInt8.ofNat (12 * 16 + 0) :: (varb 3 n ++ []) := by
    rw [ba_extract, str_data, hcut, List.drop_zero, show 1 + (varb 3 n).length + n - n - 0 = (varb 3 n).length + 1 by omega, List.take_succ_cons, List.take_left' rfl, List.append_nil]
  have hexs : ((str (frameL 12 0 Z)).extract 0 (1 + (varb 3 n).length + n - n)).size ≤ 1 + (varb 3 n).length := by rw [ByteArray.size_extract]; omega
  have hnx : nextF ((1 + (varb 3 n).length + n : Nat) : Int) (frameL 12 0 Z) = ((12, 0, Z), 0) := by
    have := (frame_next 12 0 (by decide) (by decide) (by decide) Z [] (by omega) ((1 + (varb 3 n).length + n : Nat) : Int) (by rw [hfl]; omega)).1
    rwa [List.append_nil] at this
  have hbig : nextF (((1 + (varb 3 n).length + n : Nat) : Int) - 1) (UInt8.ofNat (12 * 16 + 0) :: (varb 3 n ++ [])) = ((0, 0, []), 4) := make_big (by decide) (by decide) (by decide) (by omega) (by omega)
  have hsd := str_data (frameL 12 0 Z)
  have hzs := str_size Z
  generalize hh : UInt8.ofNat (12 * 16 + 0) :: (varb 3 n ++ []) = HD at *
  have hhl : HD.length ≤ 5 := by rw [← hh]; simp; omega
  clear hh hcut
  generalize hT : str (frameL 12 0 Z) = T at *
  generalize hL : 1 + (varb 3 n).length + n = L at *
  generalize frameL 12 0 Z = FL at *
  have hLn : n < L := by omega
  have hLb : L ≤ 20010 := by omega
  generalize hE : T.extract 0 (L - n) = E at *
  have HE := Lib.hid hE
  have HEX := Lib.hid hex
  have HNX := Lib.hid hnx
  have HBIG := Lib.hid hbig
  have HSD := Lib.hid hsd
  have HFL := Lib.hid hfl
  have HZS := Lib.hid (hzs.trans hzl)
  have hnl : ((L : Int) - (n : Int)).toNat = L - n := by omega
  clear hE hex hnx hbig hsd hT hL hzl hzs
  go_wp2_with fail
  refine (new_calls _ _).mono ?_
  rintro e w3 ⟨rfl, rfl⟩
  have hA := RdAt.new w2 (L : Int)
  have hw2 := B2.out.size
  have B3 := Lib.hid (B2.out.alloc hw2 (.cells #[.int .i64 L, .slice none 0 0, .int .i64 0] 53))
  generalize hqa : w2.heap.size = qa at *
  have hW3s : (w2.alloc (.cells #[.int .i64 L, .slice none 0 0, .int .i64 0] 53)).heap.size = qa + 1 := by rw [World.size_alloc, hqa]
  generalize w2.alloc (.cells #[.int .i64 L, .slice none 0 0, .int .i64 0] 53) = W3 at *
  clear hqa B2
  go_wp2_with fail
  refine (new_calls _ _).mono ?_
  rintro e w4 ⟨rfl, rfl⟩
  have hB := RdAt.new W3 ((L : Int) - 1)
  have hA4 := hA.below (below_one W3 (.cells #[.int .i64 ((L : Int) - 1), .slice none 0 0, .int .i64 0] 53))
  have B4 := Lib.hid (B3.out.alloc (by omega) (.cells #[.int .i64 ((L : Int) - 1), .slice none 0 0, .int .i64 0] 53))
  rw [hW3s] at hB
  have hW4s : (W3.alloc (.cells #[.int .i64 ((L : Int) - 1), .slice none 0 0, .int .i64 0] 53)).heap.size = qa + 2 := by rw [World.size_alloc, hW3s]
  generalize W3.alloc (.cells #[.int .i64 ((L : Int) - 1), .slice none 0 0, .int .i64 0] 53) = W4 at *
  have hB4 := Lib.hid hB
  rw [hW3s]
  clear hA B3 hW3s hB
  go_wp2_with fail
  refine (feed_ok _ qa none (L : Int) [] T hA4 (by simp; omega)).mono ?_
  rintro e w5 ⟨rfl, r5, hA5, s5⟩
  rw [List.nil_append, HSD.out] at hA5
  have hB5 := Lib.hid (show RdAt w5 (qa + 1) none ((L : Int) - 1) [] 0 from by
    obtain ⟨a, c, e1, e2, e3, e4⟩ := hB4.out
    refine ⟨a, c, (s5.block (qa + 1) (by omega) (by omega) (by simp)).trans e1, e2.keep (fun g hg => ?_), e3, e4⟩
    rw [e3] at hg; cases hg)
  have B5 := Lib.hid (B4.out.trans (s5.below (by omega) (by omega) (fun g hg => by cases hg)))
  have hr5 := Lib.hid (s5.row_ge (B := qa + 2) (by omega) (fun g hg => by cases hg))
  have hs5 := s5.size
  clear hA4 s5 B4 hB4
  go_wp2_with fail
  rw [HE.out]
  refine (feed_ok _ (qa + 1) none ((L : Int) - 1) [] E hB5.out (by simp; omega)).mono ?_
  rintro e w6 ⟨rfl, r6, hB6, s6⟩
  rw [List.nil_append, HEX.out] at hB6
  have hrB := Lib.hid (s6.row_ge (B := w5.heap.size) (Nat.le_refl _) (fun g hg => by cases hg))
  have hA6 : RdAt w6 qa r5 (L : Int) FL 0 := by
    obtain ⟨a, c, e1, e2, e3, e4⟩ := hA5
    refine ⟨a, c, (s6.block qa (by omega) (by omega) (by simp)).trans e1, e2.keep (fun g hg => s6.block g (e2.lt g hg) (fun e => ?_) (by simp)), e3, e4⟩
    rw [e3] at hg
    have := hr5.out g hg
    omega
  have hrl5 := Lib.hid hA5.row_lt
  have B6 := Lib.hid (B5.out.trans (s6.below (by omega) (by omega) (fun g hg => by cases hg)))
  have hs6 := s6.size
  have HB6 := Lib.hid hB6
  clear hA5 s6 B5 hB5 hB6
  go_wp2_with fail
  refine (next_calls _ qa r5 (L : Int) FL _ _ HNX.out (by have := HFL.out; omega) hA6).mono ?_
  rintro e w7 ⟨rfl, r7, hA7, s7⟩
  have hB7 : RdAt w7 (qa + 1) r6 ((L : Int) - 1) HD 0 := by
    obtain ⟨a, c, e1, e2, e3, e4⟩ := HB6.out
    refine ⟨a, c, (s7.block (qa + 1) (by omega) (by omega) (fun e => ?_)).trans e1, e2.keep (fun g hg => s7.block g (e2.lt g hg) (fun e => ?_) (fun e => ?_)), e3, e4⟩
    · have := hr5.out _ e.symm; omega
    · rw [e3] at hg; have := hrB.out g hg; omega
    · rw [e3] at hg; have := hrB.out g hg; have := hrl5.out g e.symm; omega
  have B7 := Lib.hid (B6.out.trans (s7.below (by omega) (by omega) (fun g hg => by have := hr5.out g hg; omega)))
  have hs7 := s7.size
  clear hA6 hA7 s7 B6 HB6
  have hB8 := hB7.below (below_one w7 (.cells #[.int .i64 12, .int .i64 0, .string (str Z)] 37))
  have B8 := Lib.hid (B7.out.alloc (by omega) (.cells #[.int .i64 12, .int .i64 0, .string (str Z)] 37))
  have hs8 : (w7.alloc (.cells #[.int .i64 12, .int .i64 0, .string (str Z)] 37)).heap.size = w7.heap.size + 1 := World.size_alloc ..
  have hbx := heap_alloc_new w7 (.cells #[.int .i64 12, .int .i64 0, .string (str Z)] 37)
  have HBX := Lib.hid hbx
  clear hbx
  go_wp2_with fail
  generalize w7.alloc (.cells #[.int .i64 12, .int .i64 0, .string (str Z)] 37) = W8 at *
  generalize hfb : w7.heap.size = fb at *
  have hsB : HD.length ≤ 1000000000 := by omega
  clear hfb B7 hB7
  refine (next_calls _ (qa + 1) r6 ((L : Int) - 1) HD _ _ HBIG.out hsB hB8).mono ?_
  rintro e w9 ⟨rfl, r9, hB9, s9⟩
  have c9 : w9.heap[fb]? = some (.cells #[.int .i64 12, .int .i64 0, .string (str Z)] 37 (0, 0)) := by
    have hfar := hB8.far HBX.out (by decide) (by decide)
    exact (s9.block fb (lt_of_block HBX.out) hfar.1 hfar.2).trans HBX.out
  obtain ⟨⟨c0, c1, c2⟩, -⟩ := three_cells c9
  have hl9 := lt_of_block c9
  have B9 := Lib.hid (B8.out.trans (s9.below (by omega) (by omega) (fun g hg => by have := hrB.out g hg; omega)))
  have hs9 := s9.size
  have B10 := Lib.hid (B9.out.alloc (by omega) (.cells #[.int .i64 0, .int .i64 0, .string (str [])] 37))
  have hzz := HZS.out
  clear hB8 hB9 s9 B8 B9 HBX c9
  go_wp2
  go_ret
  exact ⟨rfl, B10.out⟩

set_option maxRecDepth 100000 in
theorem lifted (os : Os) (started : os.Started) (H : Type) (enc : TypeId × Value → H) :
    ReturnsInHanded {} Try.checked os 6 .any (Rows.frameBigSpec.pre6 enc Try.prog Try.f6 Rows.frameBigRow.domain false) (Rows.frameBigSpec.post enc Try.prog Try.f6 false true false false) := by
  refine returnsInHanded_of_change (C := Try.checked) own started (by kernel_rfl) Try.func6
    (ChangeSpec.witness6 (enc := enc) (C := Try.checked) false ⟨#[], #[.int .i64 0], []⟩ 8 (by kernel_rfl) (by kernel_rfl) (by kernel_rfl) (by kernel_rfl)) ?_
  intro W base args ds gs before hval0 hW hcnd _
  have hval : ∀ (j : Nat) t v, Try.f6.params[j]? = some t → args[j]? = some v → Value.okWide Try.prog W .any base t v := hval0
  have hW' := hW
  obtain ⟨p, q, hA0, hV, rfl, hfz, hnd⟩ := hW
  have hA : DataW.TrodAll enc Try.prog W 0 (fun _ => true) true Try.f6.params.toList args.toList ds p := hA0
  rw [Try.params6] at hA hval
  obtain ⟨v0, vs0, d0, ds0, p0, q0, hargs, rfl, rfl, h0, r0⟩ := trodAll_cons hA
  obtain ⟨rfl, rfl, rfl⟩ := trodAll_nil r0
  obtain rfl : args = #[v0] := by cases args; simp_all
  obtain ⟨rfl, rfl⟩ := trodVars_none hV
  obtain ⟨a0, rfl, rfl, rfl, w0⟩ := open_int Try.underlying3 (hval 0 3 v0 rfl rfl) h0
  clear hA0 hval0
  refine (walk a0 w0 W ).mono fun e W' ⟨he, bel⟩ => ?_
  subst he
  exact ⟨_, rfl, _, _, _, [], _, [], hW', trodAll_mk1 (shut_bool Try.underlying4 _), (trodAll_cons_mk (shut_int Try.underlying3 w0) trodAll_mk0), rfl, bel.frame _, fun h => by cases h⟩

theorem over : Rows.frameBigRow.holds Try.pinned (OpenSpec.ofChange Rows.frameBigSpec) :=
  OpenClaim.holds_of_wide 6 Try.f6 rfl rfl rfl rfl rfl rfl rfl ⟨rfl, rfl, rfl, rfl, rfl⟩ rfl rfl rfl rfl rfl (by kernel_rfl) Try.func6 (by kernel_rfl)
    (of_decide_eq_true (by kernel_rfl)) (by unfold Func.isWrapper; first | (rw [if_pos (by decide +kernel)]; kernel_rfl) | (rw [if_neg (by decide +kernel)]; exact ⟨rfl, rfl⟩))
    (fun os started H enc _ => lifted os started H enc)

end Go.Proofs.Ytdhdjkpocdfjbaa.frameBig
namespace Go.Proofs.Ytdhdjkpocdfjbaa
/-- The statement. -/
theorem frameBig_holds : Rows.FrameBigSaid := frameBig.over
#print axioms frameBig_holds
end Go.Proofs.Ytdhdjkpocdfjbaa
