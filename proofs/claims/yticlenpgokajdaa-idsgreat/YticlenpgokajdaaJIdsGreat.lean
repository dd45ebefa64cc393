/-
  Any greatest identifier and any identifier: a pool takes it just if it is from 1 to the greatest there may be.
  Its conditions: none beside those of the row itself.
-/
import Derived.Test.YticlenpgokajdaaJIds2
import Derived.ProofKit
import Derived.OpenShut
import Derived.ShutString
import Derived.ChangeOld
namespace Go.Proofs.Yticlenpgokajdaa.idsGreat
open Go.ChangeShapes Go.WideShapes Go.ChangeAt Go.RowKit
open Go.ChangeMaps (open_string shut_string)
set_option linter.unusedVariables false

theorem own : ownKnob Try.prog.godebug = none := by kernel_rfl

set_option maxRecDepth 100000 in
set_option maxHeartbeats 2000000 in
theorem walk (a0 : Int) (w0 : (Lit.int .u32 a0).wf = true) (a1 : Int) (w1 : (Lit.int .u32 a1).wf = true) (w : World) :
    Calls Try.prog 6 #[.int .u32 a0, .int .u32 a1] w fun e w' => e = .returned (.bool true) ∧ Below w.heap.size w w' := by
  have b0 := bounds_u32 w0
  have b1 := bounds_u32 w1
  clear w0 w1
  obtain ⟨m, rfl⟩ := Int.eq_ofNat_of_zero_le b0.1
  obtain ⟨n, rfl⟩ := Int.eq_ofNat_of_zero_le b1.1
  have hm : m < 4294967296 := by omega
  have hn : n < 4294967296 := by omega
  obtain ⟨k, hk⟩ : ∃ k, min (max m 1) 65535 = k := ⟨_, rfl⟩
  have HM := Lib.hid hm
  have HN := Lib.hid hn
  have HK := Lib.hid hk
  clear b0 b1 hm hn hk
  go_enter Try.func6, Try.ntmps6
  go_wp2_with fail
  refine (idsNew_calls _ m k HM.out HK.out).mono ?_
  rintro e w2 ⟨p, b, rfl, h2, b2, hp, hb⟩
  have HB2 := Lib.hid b2
  clear b2
  go_wp2_with fail
  refine (awake13_calls _).mono ?_
  rintro e w3 ⟨rfl, b3⟩
  have HB3 := Lib.hid (HB2.out.trans (b3.mono HB2.out.size))
  have h3 := h2.below b3
  clear b3 HB2 h2
  go_wp2_with fail
  all_goals
    refine (idsTake_calls _ p b k 0 [] n HN.out h3).mono ?_
    by_cases hn1 : n < 1
    · have hE : takeE k [] n = 5 := by unfold takeE; rw [if_pos (.inl hn1)]
      have hU : takeU k [] n = [] := by unfold takeU; rw [if_pos (.inl (.inl hn1))]
      rw [hE, hU]
      clear hE hU
      rintro e w4 ⟨rfl, h4, m4⟩
      have HB4 := Lib.hid (HB3.out.trans (m4.below hp hb HB3.out.size))
      clear m4 h3 HB3
      go_wp2_with fail
      refine (idsHas_calls _ p b k 0 [] n HN.out h4).mono ?_
      rw [show decide (n ∈ []) = false by simp]
      rintro e w5 ⟨rfl, b5⟩
      have HB5 := Lib.hid (HB4.out.trans (b5.mono HB4.out.size))
      clear b5 HB4 h4
      go_wp2
      go_ret
      exact ⟨rfl, HB5.out⟩
    · by_cases hn2 : k < n
      · have hE : takeE k [] n = 5 := by unfold takeE; rw [if_pos (.inr hn2)]
        have hU : takeU k [] n = [] := by unfold takeU; rw [if_pos (.inl (.inr hn2))]
        rw [hE, hU]
        have hk := HK.out
        first | (have hq : decide ((n : Int) ≤ 65535) = false ∧ 65535 < m := ⟨by simp; omega, by omega⟩) | (have hq : decide ((n : Int) ≤ 1) = false ∧ m ≤ 1 := ⟨by simp; omega, by omega⟩) | (have hq : decide (n ≤ m) = false ∧ 1 < m := ⟨by simp; omega, by omega⟩)
        have hq1 := hq.1
        clear hE hU hk hn2 hq
        rintro e w4 ⟨rfl, h4, m4⟩
        have HB4 := Lib.hid (HB3.out.trans (m4.below hp hb HB3.out.size))
        clear m4 h3 HB3
        go_wp2_with fail
        refine (idsHas_calls _ p b k 0 [] n HN.out h4).mono ?_
        rw [show decide (n ∈ []) = false by simp]
        rintro e w5 ⟨rfl, b5⟩
        have HB5 := Lib.hid (HB4.out.trans (b5.mono HB4.out.size))
        clear b5 HB4 h4
        go_wp2
        go_ret
        exact ⟨rfl, HB5.out⟩
      · have hE : takeE k [] n = 0 := by unfold takeE; rw [if_neg (by omega), if_neg (by simp)]
        have hU : takeU k [] n = [n] := by unfold takeU; rw [if_neg (fun e => e.elim (fun e => by omega) (by simp))]; rfl
        rw [hE, hU]
        have hk := HK.out
        first | (have hq : n ≤ 65535 ∧ 65535 < m := by omega) | (have hq : n ≤ 1 ∧ m ≤ 1 := by omega) | (have hq : n ≤ m := by omega)
        clear hE hU hk
        rintro e w4 ⟨rfl, h4, m4⟩
        have HB4 := Lib.hid (HB3.out.trans (m4.below hp hb HB3.out.size))
        clear m4 h3 HB3
        go_wp2_with fail
        refine (idsHas_calls _ p b k 0 [n] n HN.out h4).mono ?_
        rw [show decide (n ∈ [n]) = true by simp]
        rintro e w5 ⟨rfl, b5⟩
        have HB5 := Lib.hid (HB4.out.trans (b5.mono HB4.out.size))
        clear b5 HB4 h4
        go_wp2
        go_ret
        exact ⟨rfl, HB5.out⟩

set_option maxRecDepth 100000 in
theorem lifted (os : Os) (started : os.Started) (H : Type) (enc : TypeId × Value → H) :
    ReturnsInHanded {} Try.checked os 6 .any (Rows.idsGreatSpec.pre6 enc Try.prog Try.f6 Rows.idsGreatRow.domain false) (Rows.idsGreatSpec.post enc Try.prog Try.f6 false true false false) := by
  refine returnsInHanded_of_change (C := Try.checked) own started (by kernel_rfl) Try.func6
    (ChangeSpec.witness6 (enc := enc) (C := Try.checked) false ⟨#[], #[.int .u32 0, .int .u32 0], []⟩ 8 (by kernel_rfl) (by kernel_rfl) (by kernel_rfl) (by kernel_rfl)) ?_
  intro W base args ds gs before hval0 hW hcnd _
  have hval : ∀ (j : Nat) t v, Try.f6.params[j]? = some t → args[j]? = some v → Value.okWide Try.prog W .any base t v := hval0
  have hW' := hW
  obtain ⟨p, q, hA0, hV, rfl, hfz, hnd⟩ := hW
  have hA : DataW.TrodAll enc Try.prog W 0 (fun _ => true) true Try.f6.params.toList args.toList ds p := hA0
  rw [Try.params6] at hA hval
  obtain ⟨v0, vs0, d0, ds0, p0, q0, hargs, rfl, rfl, h0, r0⟩ := trodAll_cons hA
  obtain ⟨v1, vs1, d1, ds1, p1, q1, rfl, rfl, rfl, h1, r1⟩ := trodAll_cons r0
  obtain ⟨rfl, rfl, rfl⟩ := trodAll_nil r1
  obtain rfl : args = #[v0, v1] := by cases args; simp_all
  obtain ⟨rfl, rfl⟩ := trodVars_none hV
  obtain ⟨a0, rfl, rfl, rfl, w0⟩ := open_int Try.underlying22 (hval 0 22 v0 rfl rfl) h0
  obtain ⟨a1, rfl, rfl, rfl, w1⟩ := open_int Try.underlying22 (hval 1 22 v1 rfl rfl) h1
  clear hA0 hval0
  refine (walk a0 w0 a1 w1 W ).mono fun e W' ⟨he, bel⟩ => ?_
  subst he
  exact ⟨_, rfl, _, _, _, [], _, [], hW', trodAll_mk1 (shut_bool Try.underlying4 _), (trodAll_cons_mk (shut_int Try.underlying22 w0) (trodAll_cons_mk (shut_int Try.underlying22 w1) trodAll_mk0)), rfl, bel.frame _, fun h => by cases h⟩

theorem over : Rows.idsGreatRow.holds Try.pinned (OpenSpec.ofChange Rows.idsGreatSpec) :=
  OpenClaim.holds_of_wide 6 Try.f6 rfl rfl rfl rfl rfl rfl rfl ⟨rfl, rfl, rfl, rfl, rfl⟩ rfl rfl rfl rfl rfl (by kernel_rfl) Try.func6 (by kernel_rfl)
    (of_decide_eq_true (by kernel_rfl)) (by unfold Func.isWrapper; first | (rw [if_pos (by decide +kernel)]; kernel_rfl) | (rw [if_neg (by decide +kernel)]; exact ⟨rfl, rfl⟩))
    (fun os started H enc _ => lifted os started H enc)

end Go.Proofs.Yticlenpgokajdaa.idsGreat
namespace Go.Proofs.Yticlenpgokajdaa
/-- The statement. -/
theorem idsGreat_holds : Rows.IdsGreatSaid := idsGreat.over
#print axioms idsGreat_holds
end Go.Proofs.Yticlenpgokajdaa
