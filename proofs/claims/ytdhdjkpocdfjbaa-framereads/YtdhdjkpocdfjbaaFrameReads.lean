/-
  Any stream of at most 300 bytes, of packets of at most any number of bytes: its packets, the error, what waits are those that the document says (switchboardlaw05.FrameReads answers true for every input).
  Its conditions: none beside those of the row itself.
-/
import Derived.Test.YtdhdjkpocdfjbaaFr10
import Derived.ProofKit
import Derived.OpenShut
import Derived.ShutString
import Derived.ChangeOld
namespace Go.Proofs.Ytdhdjkpocdfjbaa.frameReads
open Go.ChangeShapes Go.WideShapes Go.ChangeAt Go.RowKit
open Go.ChangeMaps (open_string shut_string)
set_option linter.unusedVariables false

theorem own : ownKnob Try.prog.godebug = none := by kernel_rfl

theorem stay_1 : stayR 1 = 0 := rfl
theorem stay_ne (y : Int) (h : y ≠ 1) : stayR y = y := by unfold stayR; rw [if_neg h]
theorem wait_ne (y : Int) (l : List UInt8) (h : y ≠ 1) : waitsR y l = [] := by unfold waitsR; rw [if_neg h]

set_option maxRecDepth 100000 in
set_option maxHeartbeats 1000000 in
theorem walk (a0 : ByteArray) (w0 : a0.size ≤ maxLen) (a1 : Int) (w1 : (Lit.int .i64 a1).wf = true) (w : World) :
    Calls Try.prog 3 #[.string a0, .int .i64 a1] w fun e w' => e = .returned (.bool true) ∧ Below w.heap.size w w' := by
  clear w1
  have hcut := ba_take a0 300
  have hsl : (a0.data.toList.take 300).length ≤ 300 := by rw [List.length_take]; omega
  generalize a0.data.toList.take 300 = S at hcut hsl
  have HCUT := Lib.hid hcut
  have hsz := str_size S
  generalize hR : runF a1 400 S = R
  have hR2 : runF a1 (S.length + 1) S = R := by rw [← hR]; exact runF_fuel a1 _ _ S (by omega) (by omega)
  have hy := runF_err a1 400 S (by omega)
  have hpl := runF_len a1 400 S
  have hll := runF_left a1 400 S
  rw [hR] at hy hpl hll
  obtain ⟨P, y, left⟩ := R
  dsimp only at hy hpl hll
  have HR := Lib.hid hR
  have HR2 := Lib.hid hR2
  clear hcut hR hR2
  go_enter Try.func3, Try.ntmps3
  go_wp2_with fail
  refine (cut_calls _ a0 300 w0).mono ?_
  rw [HCUT.out]
  rintro e w2 ⟨rfl, rfl⟩
  go_wp2_with fail
  refine (awake5_calls _).mono ?_
  rintro e w3 ⟨rfl, b3⟩
  have HB3 := Lib.hid b3
  clear b3
  go_wp2_with fail
  refine (new_calls _ a1).mono ?_
  rintro e w4 ⟨rfl, rfl⟩
  have h4 := RdAt.new w3 a1
  have B4 := Lib.hid (HB3.out.alloc HB3.out.size (.cells #[.int .i64 a1, .slice none 0 0, .int .i64 0] 53))
  have hq := HB3.out.size
  clear HB3
  generalize w3.heap.size = q at *
  generalize w3.alloc (.cells #[.int .i64 a1, .slice none 0 0, .int .i64 0] 53) = W4 at *
  have hlt4 := h4.lt
  go_wp2_with fail
  refine (feed_ok _ q none a1 [] _ h4 (by rw [hsz]; simp; omega)).mono ?_
  rintro e w5 ⟨rfl, r5, h5, s5⟩
  rw [List.nil_append, str_data] at h5
  have B5 := Lib.hid (B4.out.trans (s5.below (by omega) (by omega) (fun g hg => by cases hg)))
  have hr5 := Lib.hid (s5.row_ge (B := w.heap.size) (by omega) (fun g hg => by cases hg))
  clear h4 s5 B4
  have hlt5 := h5.lt
  go_wp2_with fail
  refine (all_calls w.heap.size _ q r5 a1 S (.slice none 0 0) [] (OwnF.nil _ _ _) h5 hq hr5.out hsl (by simp) P y left HR.out).mono ?_
  rintro e w6 ⟨v6, r6, rfl, o6, h6, hr6, b6⟩
  rw [List.nil_append] at o6
  have B6 := Lib.hid (B5.out.trans b6)
  have HR6 := Lib.hid hr6
  have H6 := Lib.hid h6
  have O6 := Lib.hid o6
  have hlt6 := h6.lt
  clear h5 b6 B5 hr6 h6 o6
  go_wp2_with fail
  refine (r5all_calls _ S a1 hsl (P, y, left) HR2.out).mono ?_
  rintro e w7 ⟨v7, rfl, o7, b7⟩
  have B7 := Lib.hid (B6.out.trans (b7.mono (by omega)))
  have H7 := Lib.hid (H6.out.below b7)
  have f6 := (O6.out.below b7).frs
  have f7 := o7.frs
  have hlt7 := H7.out.lt
  have F6 := Lib.hid f6
  have F7 := Lib.hid f7
  clear f6 f7 o7 b7 B6 H6 O6
  dsimp only
  go_wp2_with fail
  refine (same5_calls _ _ _ P F6.out F7.out (by omega)).mono ?_
  rintro e w8 ⟨rfl, b8, k8, rfl⟩
  have B8 := Lib.hid (B7.out.trans (b8.mono (by omega)))
  have H8 := Lib.hid (H7.out.below b8)
  have hlt8 := H8.out.lt
  clear b8 B7 H7 F6 F7
  by_cases hy1 : y = 1
  · subst hy1
    have h8 := H8.out
    rw [stay_1, show waitsR 1 left = left from rfl] at h8
    go_wp2_with fail
    refine (waits_calls _ q r6 a1 left 0 h8).mono ?_
    rintro e w9 ⟨rfl, rfl⟩
    have he : (S.length : Int) - ((S.length : Int) - (left.length : Int)) = (left.length : Int) := by omega
    clear h8 H8
    go_wp2
    go_ret
    exact ⟨rfl, B8.out⟩
  · have h8 := H8.out
    rw [stay_ne y hy1, wait_ne y left hy1] at h8
    have hyb : (y == 1) = false := by simpa using hy1
    go_wp2_with fail
    refine (feed_err _ q r6 a1 [] y hy _ h8).mono ?_
    rintro e w9 ⟨rfl, r9, h9, s9⟩
    have B9 := Lib.hid (B8.out.trans (s9.below (by omega) hq HR6.out))
    have hr9 := Lib.hid (s9.row_ge (B := w.heap.size) (by omega) HR6.out)
    have hlt9 := h9.lt
    clear h8 H8 s9 B8 HR6
    go_wp2_with fail
    refine (next_err _ q r9 a1 [] y hy h9).mono ?_
    rintro e w10 ⟨rfl, r10, h10, s10⟩
    have B10 := Lib.hid (B9.out.trans (s10.below (by omega) hq hr9.out))
    have hlt10 := h10.lt
    have h11 := h10.below (below_one w10 (.cells #[.int .i64 ((0 : Nat) : Int), .int .i64 ((0 : Nat) : Int), .string (str [])] 37))
    have B11 := Lib.hid (B10.out.alloc (by omega) (.cells #[.int .i64 ((0 : Nat) : Int), .int .i64 ((0 : Nat) : Int), .string (str [])] 37))
    clear h9 s10 B9 hr9 h10 B10
    go_wp2_with fail
    refine (waits_calls _ q r10 a1 [] y h11).mono ?_
    rintro e w12 ⟨rfl, rfl⟩
    clear h11
    go_wp2
    go_ret
    exact ⟨rfl, B11.out⟩

set_option maxRecDepth 100000 in
theorem lifted (os : Os) (started : os.Started) (H : Type) (enc : TypeId × Value → H) :
    ReturnsInHanded {} Try.checked os 3 .any (Rows.frameReadsSpec.pre6 enc Try.prog Try.f3 Rows.frameReadsRow.domain false) (Rows.frameReadsSpec.post enc Try.prog Try.f3 false true false false) := by
  refine returnsInHanded_of_change (C := Try.checked) own started (by kernel_rfl) Try.func3
    (ChangeSpec.witness6 (enc := enc) (C := Try.checked) false ⟨#[], #[.string ByteArray.empty, .int .i64 0], []⟩ 8 (by kernel_rfl) (by kernel_rfl) (by kernel_rfl) (by kernel_rfl)) ?_
  intro W base args ds gs before hval0 hW hcnd _
  have hval : ∀ (j : Nat) t v, Try.f3.params[j]? = some t → args[j]? = some v → Value.okWide Try.prog W .any base t v := hval0
  have hW' := hW
  obtain ⟨p, q, hA0, hV, rfl, hfz, hnd⟩ := hW
  have hA : DataW.TrodAll enc Try.prog W 0 (fun _ => true) true Try.f3.params.toList args.toList ds p := hA0
  rw [Try.params3] at hA hval
  obtain ⟨v0, vs0, d0, ds0, p0, q0, hargs, rfl, rfl, h0, r0⟩ := trodAll_cons hA
  obtain ⟨v1, vs1, d1, ds1, p1, q1, rfl, rfl, rfl, h1, r1⟩ := trodAll_cons r0
  obtain ⟨rfl, rfl, rfl⟩ := trodAll_nil r1
  obtain rfl : args = #[v0, v1] := by cases args; simp_all
  obtain ⟨rfl, rfl⟩ := trodVars_none hV
  obtain ⟨a0, rfl, rfl, rfl, w0⟩ := open_string Try.underlying9 (hval 0 9 v0 rfl rfl) h0
  obtain ⟨a1, rfl, rfl, rfl, w1⟩ := open_int Try.underlying3 (hval 1 3 v1 rfl rfl) h1
  clear hA0 hval0
  refine (walk a0 w0 a1 w1 W ).mono fun e W' ⟨he, bel⟩ => ?_
  subst he
  exact ⟨_, rfl, _, _, _, [], _, [], hW', trodAll_mk1 (shut_bool Try.underlying4 _), (trodAll_cons_mk (shut_string Try.underlying9 w0) (trodAll_cons_mk (shut_int Try.underlying3 w1) trodAll_mk0)), rfl, bel.frame _, fun h => by cases h⟩

theorem over : Rows.frameReadsRow.holds Try.pinned (OpenSpec.ofChange Rows.frameReadsSpec) :=
  OpenClaim.holds_of_wide 3 Try.f3 rfl rfl rfl rfl rfl rfl rfl ⟨rfl, rfl, rfl, rfl, rfl⟩ rfl rfl rfl rfl rfl (by kernel_rfl) Try.func3 (by kernel_rfl)
    (of_decide_eq_true (by kernel_rfl)) (by unfold Func.isWrapper; first | (rw [if_pos (by decide +kernel)]; kernel_rfl) | (rw [if_neg (by decide +kernel)]; exact ⟨rfl, rfl⟩))
    (fun os started H enc _ => lifted os started H enc)

end Go.Proofs.Ytdhdjkpocdfjbaa.frameReads
namespace Go.Proofs.Ytdhdjkpocdfjbaa
/-- The statement. -/
theorem frameReads_holds : Rows.FrameReadsSaid := frameReads.over
#print axioms frameReads_holds
end Go.Proofs.Ytdhdjkpocdfjbaa
