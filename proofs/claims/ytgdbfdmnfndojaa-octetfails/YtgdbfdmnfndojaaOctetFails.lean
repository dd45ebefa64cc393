/-
  Statement OctetFails: for every text and number, the first error of an In stays, and nothing is taken behind it.
  Its conditions: none beside those of the row itself.
-/
import Derived.Test.YtgdbfdmnfndojaaL1a
import Derived.ProofKit
import Derived.OpenShut
import Derived.ShutString
import Derived.ChangeOld
namespace Go.Proofs.Ytgdbfdmnfndojaa.octetFails
open Go.ChangeShapes Go.WideShapes Go.ChangeAt Go.RowKit
open Go.ChangeMaps (open_string shut_string)
set_option linter.unusedVariables false

theorem own : ownKnob Try.prog.godebug = none := by kernel_rfl

theorem err_ne (a : Int) : wrap64 (1 + (wrap64 (a.tmod 9 + 9)).tmod 9) ≠ 0 := by
  have h1 := Int.tmod_lt_of_pos a (show (0 : Int) < 9 by omega)
  have h2 := Int.lt_tmod_of_pos a (show (0 : Int) < 9 by omega)
  generalize a.tmod 9 = b at *
  have e : wrap64 (b + 9) = b + 9 := by unfold wrap64; omega
  rw [e, Int.tmod_eq_emod_of_nonneg (by omega)]
  unfold wrap64
  omega

theorem raw_stays (s : ByteArray) (f n : Int) (hf : f ≠ 0) : rawT s f n = (⟨#[]⟩, s, f) := by simp [rawT, hf]

theorem walk (a0 : ByteArray) (w0 : a0.size ≤ maxLen) (a1 : Int) (w1 : (Lit.int .i64 a1).wf = true) (w : World) :
    Calls Try.prog 8 #[.string a0, .int .i64 a1] w fun e w' => e = .returned (.bool true) ∧ Below w.heap.size w w' := by
  go_enter Try.func8, Try.ntmps8
  go_wp2_with fail
  refine (cut_calls _ a0 50 w0).mono ?_
  rintro e w2 ⟨rfl, rfl⟩
  go_wp2_with fail
  refine (awake_calls _).mono ?_
  rintro e w2 ⟨rfl, hb⟩
  go_wp2_with fail
  refine (over_calls _ _).mono ?_
  rintro e w3 ⟨rfl, rfl⟩
  have i3 := InAt.new w2 (a0.extract 0 50)
  have B3 := Lib.hid (hb.alloc hb.size (.cells #[.string (a0.extract 0 50), .int .i64 0] 60))
  have hsz := hb.size
  clear hb
  generalize a0.extract 0 50 = s at *
  go_wp2_with fail
  have hne := err_ne a1
  generalize wrap64 (1 + (wrap64 (a1.tmod 9 + 9)).tmod 9) = f at *
  generalize w2.heap.size = p at *
  refine (fail_calls _ p s 0 f i3).mono ?_
  rintro e w4 ⟨rfl, i4, o4⟩
  rw [failed, if_pos rfl] at i4
  go_wp2_with fail
  refine (fail_calls _ p s f 15 i4).mono ?_
  rintro e w5 ⟨rfl, i5, o5⟩
  rw [failed, if_neg hne] at i5
  have O5 := Lib.hid (o4.trans o5)
  clear i3 i4 o4 o5
  go_wp2_with fail
  refine (rawIn_calls _ p s f 1 i5).mono ?_
  rw [raw_stays s f 1 hne]
  rintro e w6 ⟨rfl, i6, o6⟩
  have O6 := Lib.hid (O5.out.trans o6)
  clear i5 o6 O5
  go_wp2_with fail
  refine (fourIn_calls _ p s f ⟨#[]⟩ s f (raw_stays s f 4 hne) i6).mono ?_
  rintro e w7 ⟨rfl, i7, o7⟩
  rw [show numL (⟨#[]⟩ : ByteArray).data.toList = 0 from rfl]
  have O7 := Lib.hid (O6.out.trans o7)
  clear i6 o7 O6
  go_wp2_with fail
  refine (rest_calls _ p s f i7).mono ?_
  rw [raw_stays s f _ hne]
  rintro e w8 ⟨rfl, i8, o8⟩
  have O8 := Lib.hid (O7.out.trans o8)
  clear i7 o8 O7
  go_wp2_with fail
  refine (err_calls _ p s f i8).mono ?_
  rintro e w9 ⟨rfl, rfl⟩
  clear i8
  go_wp2
  go_ret
  exact ⟨rfl, B3.out.trans (O8.out.below hsz)⟩

set_option maxRecDepth 100000 in
theorem lifted (os : Os) (started : os.Started) (H : Type) (enc : TypeId × Value → H) :
    ReturnsInHanded {} Try.checked os 8 .any (Rows.octetFailsSpec.pre6 enc Try.prog Try.f8 Rows.octetFailsRow.domain false) (Rows.octetFailsSpec.post enc Try.prog Try.f8 false true false false) := by
  refine returnsInHanded_of_change (C := Try.checked) own started (by kernel_rfl) Try.func8
    (ChangeSpec.witness6 (enc := enc) (C := Try.checked) false ⟨#[], #[.string ByteArray.empty, .int .i64 0], []⟩ 8 (by kernel_rfl) (by kernel_rfl) (by kernel_rfl) (by kernel_rfl)) ?_
  intro W base args ds gs before hval0 hW hcnd _
  have hval : ∀ (j : Nat) t v, Try.f8.params[j]? = some t → args[j]? = some v → Value.okWide Try.prog W .any base t v := hval0
  have hW' := hW
  obtain ⟨p, q, hA0, hV, rfl, hfz, hnd⟩ := hW
  have hA : DataW.TrodAll enc Try.prog W 0 (fun _ => true) true Try.f8.params.toList args.toList ds p := hA0
  rw [Try.params8] at hA hval
  obtain ⟨v0, vs0, d0, ds0, p0, q0, hargs, rfl, rfl, h0, r0⟩ := trodAll_cons hA
  obtain ⟨v1, vs1, d1, ds1, p1, q1, rfl, rfl, rfl, h1, r1⟩ := trodAll_cons r0
  obtain ⟨rfl, rfl, rfl⟩ := trodAll_nil r1
  obtain rfl : args = #[v0, v1] := by cases args; simp_all
  obtain ⟨rfl, rfl⟩ := trodVars_none hV
  obtain ⟨a0, rfl, rfl, rfl, w0⟩ := open_string Try.underlying9 (hval 0 9 v0 rfl rfl) h0
  obtain ⟨a1, rfl, rfl, rfl, w1⟩ := open_int Try.underlying3 (hval 1 3 v1 rfl rfl) h1
  clear hA0 hval0
  refine (walk a0 w0 a1 w1 W).mono fun e W' ⟨he, bel⟩ => ?_
  subst he
  exact ⟨_, rfl, _, _, _, [], _, [], hW', trodAll_mk1 (shut_bool Try.underlying4 _), (trodAll_cons_mk (shut_string Try.underlying9 w0) (trodAll_cons_mk (shut_int Try.underlying3 w1) trodAll_mk0)), rfl, bel.frame _, fun h => by cases h⟩

theorem over : Rows.octetFailsRow.holds Try.pinned (OpenSpec.ofChange Rows.octetFailsSpec) :=
  OpenClaim.holds_of_wide 8 Try.f8 rfl rfl rfl rfl rfl rfl rfl ⟨rfl, rfl, rfl, rfl, rfl⟩ rfl rfl rfl rfl rfl (by kernel_rfl) Try.func8 (by kernel_rfl)
    (of_decide_eq_true (by kernel_rfl)) (by unfold Func.isWrapper; first | (rw [if_pos (by decide +kernel)]; kernel_rfl) | (rw [if_neg (by decide +kernel)]; exact ⟨rfl, rfl⟩))
    (fun os started H enc _ => lifted os started H enc)

end Go.Proofs.Ytgdbfdmnfndojaa.octetFails
namespace Go.Proofs.Ytgdbfdmnfndojaa
/-- The statement. -/
theorem octetFails_holds : Rows.OctetFailsSaid := octetFails.over
#print axioms octetFails_holds
end Go.Proofs.Ytgdbfdmnfndojaa
