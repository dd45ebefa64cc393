/-
  An alias may be just if it is 1 to the greatest; one that may not be keeps nothing.
  Its conditions: none beside those of the row itself (the two tables of unicode/utf8 start as the library's text lays them: the card ties them).
-/
import Derived.Test.YtnpkiknidmhciaaDoorCards
import Derived.Test.YtnpkiknidmhciaaDoorTie
import Derived.Test.YtnpkiknidmhciaaDoorJAliasRangew
import Derived.Test.YtnpkiknidmhciaaDoorJAliasRangef
import Derived.Test.YtnpkiknidmhciaaDoorJAlias
import Derived.ProofKit
import Derived.OpenShut
import Derived.ShutString
import Derived.ChangeOld
import Derived.Deep.DeepHandedRow
import Derived.Deep.DeepWitnessRowRef
import Derived.Lib.LaidU8T
import Derived.Lib.LaidTab
import Derived.Lib.LaidIn
namespace Go.Proofs.YtnpkiknidmhciaaDoor.aliasRange
open Go.ChangeShapes Go.WideShapes Go.ChangeAt Go.RowKit Go.Lib
open Go.ChangeMaps (open_string shut_string)
set_option linter.unusedVariables false

set_option maxRecDepth 100000 in
set_option maxHeartbeats 2000000 in
theorem walk (a0 : Int) (w0 : (Lit.int .u32 a0).wf = true) (a1 : Int) (w1 : (Lit.int .u32 a1).wf = true) (w : World) (hT : T10 w) :
    Calls Tryd.prog 6 #[.int .u32 a0, .int .u32 a1] w fun e w' => e = .returned (.bool true) ∧ Below w.heap.size w w' := by
  have hr0 : IntKind.u32.min ≤ a0 ∧ a0 ≤ IntKind.u32.max := by simpa [Lit.wf] using w0
  have hr1 : IntKind.u32.min ≤ a1 ∧ a1 ≤ IntKind.u32.max := by simpa [Lit.wf] using w1
  rw [show IntKind.u32.min = 0 by decide, show IntKind.u32.max = 4294967295 by decide] at hr0 hr1
  obtain ⟨m0, m1⟩ := hr0
  obtain ⟨n0, n1⟩ := hr1
  have m2 : a0 < 4294967296 := by omega
  have n2 : a1 < 4294967296 := by omega
  have HT := Lib.hid hT
  have e1 : (str [97]).toList = [97] := str_list _
  have e2 : (str []).toList = [] := str_list _
  clear w0 w1 hT
  by_cases hq : 1 ≤ a1 ∧ a1 ≤ min a0 65535
  · have hE : nmE (min a0 65535) [] (some a1) [97] = ([97], 0) := by simp [nmE, awN1]; omega
    have hL : nmL (min a0 65535) [] (some a1) [97] = [(a1, [97])] := by simp [nmL, awN1]; omega
    have hc : nmC (min a0 65535) [] 0 (some a1) [97] = 1 := by simp [nmC, awN1, getL]; omega
    have HE := Lib.hid (And.intro hE (And.intro hL hc))
    have g1 : 1 ≤ a1 := hq.1
    have g2 : a1 ≤ a0 := by omega
    have g3 : a1 ≤ 65535 := by omega
    clear hE hL hc hq
    go_enter Tryd.func6, Tryd.ntmps6
    go_wp2_with fail
    refine (aNew_calls w a0 m0 m2).mono ?_
    rintro e v1 ⟨p, b, rfl, hA, hB, hp, hb⟩
    have J1 := Lib.hid (show AlJ w p b (min a0 65535) [] 0 v1 from ⟨hA, hB, hp, hb⟩)
    clear hA hB hp hb
    go_wp2_with fail
    refine (awake17_calls v1 (HT.out.below J1.out.bel)).mono ?_
    rintro e v2 ⟨rfl, b2⟩
    have J2 := Lib.hid (J1.out.below b2)
    clear J1 b2
    go_wp2_with fail
    refine (made_step (T := [97]) (T' := [97]) (n := a1) n0 n2 (by decide) rfl).mono ?_
    rintro e v3 ⟨u1, rfl, hP, hB⟩
    go_wp2_with fail
    refine (aName_step (T := [97]) (T' := [97]) J2.out HT.out hP hB (by decide) (one_range n0 n2) rfl HE.out.1 HE.out.2.1 HE.out.2.2).mono ?_
    rintro e v4 ⟨rfl, j⟩
    have J3 := Lib.hid j
    clear j hP hB J2 HE
    go_wp2_with fail
    refine (aLen_calls v4 p b 1 _ _ J3.out.al).mono ?_
    rintro e v5 ⟨rfl, rfl⟩
    go_wp2
    go_ret
    exact ⟨rfl, J3.out.bel⟩
  · have hE : nmE (min a0 65535) [] (some a1) [97] = ([], 11) := by simp only [nmE]; rw [if_neg hq]
    have hL : nmL (min a0 65535) [] (some a1) [97] = [] := by simp only [nmL]; rw [if_neg (fun h => hq h.1)]
    have hc : nmC (min a0 65535) [] 0 (some a1) [97] = 0 := by simp only [nmC]; rw [if_neg (fun h => hq h.1)]
    have HE := Lib.hid (And.intro hE (And.intro hL hc))
    have HQ := Lib.hid hq
    clear hE hL hc hq
    go_enter Tryd.func6, Tryd.ntmps6
    go_wp2_with fail
    refine (aNew_calls w a0 m0 m2).mono ?_
    rintro e v1 ⟨p, b, rfl, hA, hB, hp, hb⟩
    have J1 := Lib.hid (show AlJ w p b (min a0 65535) [] 0 v1 from ⟨hA, hB, hp, hb⟩)
    clear hA hB hp hb
    go_wp2_with fail
    refine (awake17_calls v1 (HT.out.below J1.out.bel)).mono ?_
    rintro e v2 ⟨rfl, b2⟩
    have J2 := Lib.hid (J1.out.below b2)
    clear J1 b2
    go_wp2_with fail
    refine (made_step (T := [97]) (T' := [97]) (n := a1) n0 n2 (by decide) rfl).mono ?_
    rintro e v3 ⟨u1, rfl, hP, hB⟩
    go_wp2_with fail
    refine (aName_step (T := [97]) (T' := [97]) J2.out HT.out hP hB (by decide) (one_range n0 n2) rfl HE.out.1 HE.out.2.1 HE.out.2.2).mono ?_
    rintro e v4 ⟨rfl, j⟩
    have J3 := Lib.hid j
    clear j hP hB J2 HE
    by_cases h1 : 1 ≤ a1
    · by_cases h2 : a1 ≤ a0
      · have h3 : 65535 < a1 := by have := HQ.out; omega
        go_wp2_with fail
        refine (aLen_calls v4 p b 0 _ _ J3.out.al).mono ?_
        rintro e v5 ⟨rfl, rfl⟩
        go_wp2
        go_ret
        exact ⟨rfl, J3.out.bel⟩
      · go_wp2_with fail
        refine (aLen_calls v4 p b 0 _ _ J3.out.al).mono ?_
        rintro e v5 ⟨rfl, rfl⟩
        go_wp2
        go_ret
        exact ⟨rfl, J3.out.bel⟩
    · go_wp2_with fail
      refine (aLen_calls v4 p b 0 _ _ J3.out.al).mono ?_
      rintro e v5 ⟨rfl, rfl⟩
      go_wp2
      go_ret
      exact ⟨rfl, J3.out.bel⟩

set_option maxRecDepth 100000 in
set_option maxHeartbeats 2000000 in
theorem lifted (os : Os) (started : os.Started) (H : Type) (enc : TypeId × Value → H) (F : Stop.Interp) :
    ReturnsInHanded {} Tryd.checked os 6 .any ((OpenSpec.ofChange Rows.aliasRangeSpec).preRow enc Tryd.prog Tryd.f6 Rows.aliasRangeRow.domain false Rows.aliasRangeRow.laid) (((OpenSpec.ofChange Rows.aliasRangeSpec).at F).post enc Tryd.prog Tryd.f6 false true false false) := by
  obtain ⟨places, hx⟩ := reads os enc
  refine returnsInHanded_of_row (C := Tryd.checked) (s := OpenSpec.ofChange Rows.aliasRangeSpec) own started (by kernel_rfl) Tryd.func6
    (witness_row_at (enc := enc) (C := Tryd.checked) false (laidWorld os) #[.int .u32 0, .int .u32 0] rfl (by kernel_rfl) (by kernel_rfl) (by kernel_rfl)
      (OpenSpec.preRow_of_cond 8 hx (by kernel_rfl) (fun k hk => by cases hk) (by kernel_rfl) (laid_met os))) ?_
  intro W base args ds gs before hval0 hW _ _ _ hL hShp _
  have hval : ∀ (j : Nat) t v, Tryd.f6.params[j]? = some t → args[j]? = some v → Value.okWide Tryd.prog W .any base t v := hval0
  have hW' := hW
  obtain ⟨p, q, hA0, hV, rfl, hfz, hnd⟩ := hW
  have hA : DataW.TrodAll enc Tryd.prog W 0 (fun _ => true) true Tryd.f6.params.toList args.toList ds p := hA0
  rw [Tryd.params6] at hA hval
  obtain ⟨v0, vs0, d0, ds0, p0, q0, hargs, rfl, rfl, h0, r0⟩ := trodAll_cons hA
  obtain ⟨v1, vs1, d1, ds1, p1, q1, rfl, rfl, rfl, h1, r1⟩ := trodAll_cons r0
  obtain ⟨rfl, rfl, rfl⟩ := trodAll_nil r1
  obtain rfl : args = #[v0, v1] := by cases args; simp_all
  obtain ⟨rfl, rfl⟩ := trodVars_none hV
  obtain ⟨a0, rfl, rfl, rfl, w0⟩ := open_int Tryd.underlying22 (hval 0 22 v0 rfl rfl) h0
  obtain ⟨a1, rfl, rfl, rfl, w1⟩ := open_int Tryd.underlying22 (hval 1 22 v1 rfl rfl) h1
  clear hA0 hval0
  have hT : Tabs W := utf8Tabs_of_readsT (U8Types.of196 Tryd.lays196) ⟨by kernel_rfl, by kernel_rfl, by kernel_rfl, by kernel_rfl, by kernel_rfl, by kernel_rfl, by kernel_rfl⟩ (first_eq ▸ Lib.laidMet.reads hL (.tail _ (.head _))) (accept_eq ▸ Lib.laidMet.reads hL (.head _))
  have hT10 : T10 W := ⟨hT⟩
  refine (walk a0 w0 a1 w1 W  hT10).mono fun e W' ⟨he, bel⟩ => ?_
  subst he
  exact ⟨_, rfl, _, _, _, [], _, [], hW', trodAll_mk1 (shut_bool Tryd.underlying4 _), (trodAll_cons_mk (shut_int Tryd.underlying22 w0) (trodAll_cons_mk (shut_int Tryd.underlying22 w1) trodAll_mk0)), rfl, bel.frame _, fun h => by cases h⟩

theorem said : Rows.AliasRangeSaid :=
  OpenClaim.holds_of_cond 6 Tryd.f6 rfl rfl rfl rfl rfl rfl rfl ⟨rfl, rfl, rfl, rfl, rfl⟩ rfl rfl rfl rfl rfl (by kernel_rfl) Tryd.func6 closed
    (of_decide_eq_true (by kernel_rfl)) (by unfold Func.isWrapper; first | (rw [if_pos (by decide +kernel)]; kernel_rfl) | (rw [if_neg (by decide +kernel)]; exact ⟨rfl, rfl⟩))
    (fun os started H enc _ F => by rw [OpenClaim.pre_eq_preRow]; exact lifted os started H enc F)

theorem plain (f : FuncId) (fn : Func) (hf : Tryd.pinned.checked.prog.funcNamed Tryd.f6.name = some f) (hfn : Tryd.pinned.checked.prog.funcs[f]? = some fn) :
    false = Tryd.pinned.checked.prog.looks [] ∧ ∀ (j : Nat) t, fn.params[j]? = some t → Tryd.pinned.checked.prog.wantsStandIn t = false := by
  obtain rfl : f = 6 := Option.some.inj ((show Tryd.prog.funcNamed Tryd.f6.name = some 6 by kernel_rfl).symm.trans hf) |>.symm
  obtain rfl : fn = Tryd.f6 := (Option.some.inj (Tryd.func6.symm.trans hfn)).symm
  refine ⟨fac_looks, fun j t ht => ?_⟩
  rw [Tryd.params6] at ht
  have hm : t = 22 := by simpa using Array.mem_of_getElem? ht
  subst hm
  exact (show Tryd.prog.wantsStandIn 22 = false by kernel_rfl)

end Go.Proofs.YtnpkiknidmhciaaDoor.aliasRange
namespace Go.Proofs.YtnpkiknidmhciaaDoor
/-- The statement. -/
theorem aliasRange_holds : Rows.AliasRangeCardSaid :=
  Claim7.holds_tied_plain_at .later [] _ _ _ _ aliasRange.said (fun _ h => by cases h) aliasRange.wft (fun _ h => by cases h) aliasRange_row_tie rfl ⟨rfl, rfl⟩ fac_main rfl aliasRange.plain aliasRange.goes
#print axioms aliasRange_holds
end Go.Proofs.YtnpkiknidmhciaaDoor
