/-
  ReasonOf answers true for every number of an error: its code is the document's, and a Disconnect or a Connack may say it.
  Its conditions: none beside those of the row itself.
-/
import Derived.Test.YtmkajnephkaamabReason
import Derived.ProofKit
import Derived.OpenShut
import Derived.ShutString
import Derived.ChangeOld
namespace Go.Proofs.Ytmkajnephkaamab.reasonOf
open Go.ChangeShapes Go.WideShapes Go.ChangeAt Go.RowKit
open Go.ChangeMaps (open_string shut_string)
set_option linter.unusedVariables false

theorem own : ownKnob Try.prog.godebug = none := by kernel_rfl

/-- What the code of an error is. -/
theorem of_fact (a : Int) : (a = 0 ∧ ofN a = 0) ∨ ((a == 0) = false ∧ 128 ≤ ofN a ∧ ofN a ≤ 255 ∧ (mayB 14 (ofN a) = true ∨ (mayB 14 (ofN a) = false ∧ mayB 2 (ofN a) = true))) := by
  rcases errs a with h | ⟨h1, h⟩
  · rcases h with rfl | rfl | rfl | rfl | rfl | rfl | rfl | rfl | rfl | rfl
    all_goals decide +kernel
  · rw [h]
    exact .inr ⟨h1.1, by decide, by decide, by decide +kernel⟩

theorem walk (a0 : Int) (w0 : (Lit.int .i64 a0).wf = true) (w : World) :
    Calls Try.prog 3 #[.int .i64 a0] w fun e w' => e = .returned (.bool true) ∧ Below w.heap.size w w' := by
  clear w0
  have hf := of_fact a0
  generalize hn : ofN a0 = n at hf
  have HN := Lib.hid hn
  clear hn
  rcases hf with ⟨rfl, rfl⟩ | ⟨h0, h1, h2, h3⟩
  · go_enter Try.func3, Try.ntmps3
    go_wp2_with fail
    refine (of_calls _ _).mono ?_
    rintro e w1 ⟨rfl, rfl⟩
    rw [HN.out]
    go_wp2_with fail
    refine (awake4_calls _).mono ?_
    rintro e w1 ⟨rfl, hb⟩
    have HB := Lib.hid hb
    clear hb
    go_wp2_with fail
    refine (r4of_calls _ _).mono ?_
    rintro e w2 ⟨rfl, rfl⟩
    rw [HN.out]
    go_wp2
    go_ret
    exact ⟨rfl, HB.out⟩
  · have hlt : decide ((n : Int) < 128) = false := by simp; omega
    have H3 := Lib.hid h3
    have h1' : (128 : Int) ≤ n := by omega
    have h2' : (n : Int) ≤ 255 := by omega
    clear h3 h1 h2
    go_enter Try.func3, Try.ntmps3
    go_wp2_with fail
    refine (of_calls _ _).mono ?_
    rintro e w1 ⟨rfl, rfl⟩
    rw [HN.out]
    go_wp2_with fail
    refine (awake4_calls _).mono ?_
    rintro e w1 ⟨rfl, hb⟩
    have HB := Lib.hid hb
    clear hb
    go_wp2_with fail
    refine (r4of_calls _ _).mono ?_
    rintro e w2 ⟨rfl, rfl⟩
    rw [HN.out]
    go_wp2_with fail
    refine (good4_calls _ _).mono ?_
    rintro e w2 ⟨rfl, rfl⟩
    rw [hlt]
    go_wp2_with fail
    refine (may_calls _ 14 _).mono ?_
    rintro e w2 ⟨rfl, rfl⟩
    rcases H3.out with h | ⟨h, h'⟩
    · rw [h]
      clear H3 h
      go_wp2
      go_ret
      exact ⟨rfl, HB.out⟩
    · rw [h]
      have H' := Lib.hid h'
      clear H3 h h'
      go_wp2_with fail
      refine (may_calls _ 2 _).mono ?_
      rintro e w2 ⟨rfl, rfl⟩
      rw [H'.out]
      go_wp2
      go_ret
      exact ⟨rfl, HB.out⟩

set_option maxRecDepth 100000 in
theorem lifted (os : Os) (started : os.Started) (H : Type) (enc : TypeId × Value → H) :
    ReturnsInHanded {} Try.checked os 3 .any (Rows.reasonOfSpec.pre6 enc Try.prog Try.f3 Rows.reasonOfRow.domain false) (Rows.reasonOfSpec.post enc Try.prog Try.f3 false true false false) := by
  refine returnsInHanded_of_change (C := Try.checked) own started (by kernel_rfl) Try.func3
    (ChangeSpec.witness6 (enc := enc) (C := Try.checked) false ⟨#[], #[.int .i64 0], []⟩ 8 (by kernel_rfl) (by kernel_rfl) (by kernel_rfl) (by kernel_rfl)) ?_
  intro W base args ds gs before hval0 hW hcnd _
  have hval : ∀ (j : Nat) t v, Try.f3.params[j]? = some t → args[j]? = some v → Value.okWide Try.prog W .any base t v := hval0
  have hW' := hW
  obtain ⟨p, q, hA0, hV, rfl, hfz, hnd⟩ := hW
  have hA : DataW.TrodAll enc Try.prog W 0 (fun _ => true) true Try.f3.params.toList args.toList ds p := hA0
  rw [Try.params3] at hA hval
  obtain ⟨v0, vs0, d0, ds0, p0, q0, hargs, rfl, rfl, h0, r0⟩ := trodAll_cons hA
  obtain ⟨rfl, rfl, rfl⟩ := trodAll_nil r0
  obtain rfl : args = #[v0] := by cases args; simp_all
  obtain ⟨rfl, rfl⟩ := trodVars_none hV
  obtain ⟨a0, rfl, rfl, rfl, w0⟩ := open_int Try.underlying3 (hval 0 3 v0 rfl rfl) h0
  clear hA0 hval0
  refine (walk a0 w0 W ).mono fun e W' ⟨he, bel⟩ => ?_
  subst he
  exact ⟨_, rfl, _, _, _, [], _, [], hW', trodAll_mk1 (shut_bool Try.underlying4 _), (trodAll_cons_mk (shut_int Try.underlying3 w0) trodAll_mk0), rfl, bel.frame _, fun h => by cases h⟩

theorem over : Rows.reasonOfRow.holds Try.pinned (OpenSpec.ofChange Rows.reasonOfSpec) :=
  OpenClaim.holds_of_wide 3 Try.f3 rfl rfl rfl rfl rfl rfl rfl ⟨rfl, rfl, rfl, rfl, rfl⟩ rfl rfl rfl rfl rfl (by kernel_rfl) Try.func3 (by kernel_rfl)
    (of_decide_eq_true (by kernel_rfl)) (by unfold Func.isWrapper; first | (rw [if_pos (by decide +kernel)]; kernel_rfl) | (rw [if_neg (by decide +kernel)]; exact ⟨rfl, rfl⟩))
    (fun os started H enc _ => lifted os started H enc)

end Go.Proofs.Ytmkajnephkaamab.reasonOf
namespace Go.Proofs.Ytmkajnephkaamab
/-- The statement. -/
theorem reasonOf_holds : Rows.ReasonOfSaid := reasonOf.over
#print axioms reasonOf_holds
end Go.Proofs.Ytmkajnephkaamab
