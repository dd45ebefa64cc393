/-
  Without an alias a topic is itself.
  Its conditions: none beside those of the row itself (the two tables of unicode/utf8 start as the library's text lays them: the card ties them).
-/
import Derived.Test.YtnpkiknidmhciaaDoorCards
import Derived.Test.YtnpkiknidmhciaaDoorTie
import Derived.Test.YtnpkiknidmhciaaDoorJAliasNonew
import Derived.Test.YtnpkiknidmhciaaDoorJAliasNonef
import Derived.Test.YtnpkiknidmhciaaDoorJAli7
import Derived.ProofKit
import Derived.OpenShut
import Derived.ShutString
import Derived.ChangeOld
import Derived.Deep.DeepHandedRow
import Derived.Deep.DeepWitnessRowRef
import Derived.Lib.LaidU8T
import Derived.Lib.LaidTab
import Derived.Lib.LaidIn
namespace Go.Proofs.YtnpkiknidmhciaaDoor.aliasNone
open Go.ChangeShapes Go.WideShapes Go.ChangeAt Go.RowKit Go.Lib
open Go.ChangeMaps (open_string shut_string)
set_option linter.unusedVariables false

theorem props_none (w : World) : PropsAt w (.slice none 0 0) [] := ⟨none, 0, rfl, fun i x h => by simp at h⟩

set_option maxRecDepth 100000 in
set_option maxHeartbeats 2000000 in
theorem walk (a0 : Int) (w0 : (Lit.int .u32 a0).wf = true) (a1 : ByteArray) (w1 : a1.size ≤ maxLen) (w : World) (hT : T10 w) :
    Calls Tryd.prog 5 #[.int .u32 a0, .string a1] w fun e w' => e = .returned (.bool true) ∧ Below w.heap.size w w' := by
  have hr0 : IntKind.u32.min ≤ a0 ∧ a0 ≤ IntKind.u32.max := by simpa [Lit.wf] using w0
  rw [show IntKind.u32.min = 0 by decide, show IntKind.u32.max = 4294967295 by decide] at hr0
  obtain ⟨m0, m1⟩ := hr0
  have m2 : a0 < 4294967296 := by omega
  have HT := Lib.hid hT
  have hcut := fun W => cut_calls W a1 30 w1
  rw [ext_takeA] at hcut
  have hl : (a1.data.toList.take 30).length ≤ 30 := by rw [List.length_take]; omega
  generalize a1.data.toList.take 30 = T at *
  obtain ⟨es, ec, hq⟩ : ∃ es ec, nmE a0 [] none T = (es, ec) := ⟨_, _, rfl⟩
  have HQ := Lib.hid hq
  have HL := Lib.hid hl
  clear w0 hT hq hl
  go_enter Tryd.func5, Tryd.ntmps5
  go_wp2_with fail
  refine (aNew_calls w a0 m0 m2).mono ?_
  rintro e v1 ⟨p, b, rfl, hA, hB, hp, hb⟩
  have J1 := Lib.hid (show AlJ w p b (min a0 65535) [] 0 v1 from ⟨hA, hB, hp, hb⟩)
  clear hA hB hp hb
  go_wp2_with fail
  refine (awake17_calls v1 (HT.out.below J1.out.bel)).mono ?_
  rintro e v2 ⟨rfl, b2⟩
  have J2 := Lib.hid (J1.out.below b2)
  clear J1 b2
  go_wp2_with fail
  refine (hcut _).mono ?_
  rintro e v3 ⟨rfl, rfl⟩
  go_wp2_with fail
  refine (aName_calls v2 p b 0 (min a0 65535) [] false false 0 0 (.slice none 0 0) T ⟨#[]⟩ [] (by have := HL.out; omega) (props_none v2) (by decide) (HT.out.below J2.out.bel) J2.out.al (by decide) none rfl (fun n h => by cases h)).mono ?_
  rintro e v4 ⟨rfl, ha, hm⟩
  have J3 := Lib.hid (show AlJ w p b (min a0 65535) [] 0 v4 from J2.out.moved ha hm)
  have hq2 : nmE (min a0 65535) [] none T = (es, ec) := HQ.out
  rw [hq2]
  clear ha hm J2 hq2
  go_wp2_with fail
  refine (r17name_calls v4 (.slice none 0 0) [] a0 T (.slice none 0 0) [] (OnesAt.nil v4) (by decide) (props_none v4) (by decide) (by have := HL.out; omega) false 0 rfl rfl (by omega) (by omega) [] es ec HQ.out rfl).mono ?_
  rintro e v5 ⟨v', rfl, _, hb⟩
  have J4 := Lib.hid (J3.out.below hb)
  clear J3 hb
  go_wp2_with fail
  refine (aLen_calls v5 p b 0 _ _ J4.out.al).mono ?_
  rintro e v6 ⟨rfl, rfl⟩
  go_wp2
  go_ret
  exact ⟨rfl, J4.out.bel⟩

set_option maxRecDepth 100000 in
set_option maxHeartbeats 2000000 in
theorem lifted (os : Os) (started : os.Started) (H : Type) (enc : TypeId × Value → H) (F : Stop.Interp) :
    ReturnsInHanded {} Tryd.checked os 5 .any ((OpenSpec.ofChange Rows.aliasNoneSpec).preRow enc Tryd.prog Tryd.f5 Rows.aliasNoneRow.domain false Rows.aliasNoneRow.laid) (((OpenSpec.ofChange Rows.aliasNoneSpec).at F).post enc Tryd.prog Tryd.f5 false true false false) := by
  obtain ⟨places, hx⟩ := reads os enc
  refine returnsInHanded_of_row (C := Tryd.checked) (s := OpenSpec.ofChange Rows.aliasNoneSpec) own started (by kernel_rfl) Tryd.func5
    (witness_row_at (enc := enc) (C := Tryd.checked) false (laidWorld os) #[.int .u32 0, .string ByteArray.empty] rfl (by kernel_rfl) (by kernel_rfl) (by kernel_rfl)
      (OpenSpec.preRow_of_cond 8 hx (by kernel_rfl) (fun k hk => by cases hk) (by kernel_rfl) (laid_met os))) ?_
  intro W base args ds gs before hval0 hW _ _ _ hL hShp _
  have hval : ∀ (j : Nat) t v, Tryd.f5.params[j]? = some t → args[j]? = some v → Value.okWide Tryd.prog W .any base t v := hval0
  have hW' := hW
  obtain ⟨p, q, hA0, hV, rfl, hfz, hnd⟩ := hW
  have hA : DataW.TrodAll enc Tryd.prog W 0 (fun _ => true) true Tryd.f5.params.toList args.toList ds p := hA0
  rw [Tryd.params5] at hA hval
  obtain ⟨v0, vs0, d0, ds0, p0, q0, hargs, rfl, rfl, h0, r0⟩ := trodAll_cons hA
  obtain ⟨v1, vs1, d1, ds1, p1, q1, rfl, rfl, rfl, h1, r1⟩ := trodAll_cons r0
  obtain ⟨rfl, rfl, rfl⟩ := trodAll_nil r1
  obtain rfl : args = #[v0, v1] := by cases args; simp_all
  obtain ⟨rfl, rfl⟩ := trodVars_none hV
  obtain ⟨a0, rfl, rfl, rfl, w0⟩ := open_int Tryd.underlying22 (hval 0 22 v0 rfl rfl) h0
  obtain ⟨a1, rfl, rfl, rfl, w1⟩ := open_string Tryd.underlying9 (hval 1 9 v1 rfl rfl) h1
  clear hA0 hval0
  have hT : Tabs W := utf8Tabs_of_readsT (U8Types.of196 Tryd.lays196) ⟨by kernel_rfl, by kernel_rfl, by kernel_rfl, by kernel_rfl, by kernel_rfl, by kernel_rfl, by kernel_rfl⟩ (first_eq ▸ Lib.laidMet.reads hL (.tail _ (.head _))) (accept_eq ▸ Lib.laidMet.reads hL (.head _))
  have hT10 : T10 W := ⟨hT⟩
  refine (walk a0 w0 a1 w1 W  hT10).mono fun e W' ⟨he, bel⟩ => ?_
  subst he
  exact ⟨_, rfl, _, _, _, [], _, [], hW', trodAll_mk1 (shut_bool Tryd.underlying4 _), (trodAll_cons_mk (shut_int Tryd.underlying22 w0) (trodAll_cons_mk (shut_string Tryd.underlying9 w1) trodAll_mk0)), rfl, bel.frame _, fun h => by cases h⟩

theorem said : Rows.AliasNoneSaid :=
  OpenClaim.holds_of_cond 5 Tryd.f5 rfl rfl rfl rfl rfl rfl rfl ⟨rfl, rfl, rfl, rfl, rfl⟩ rfl rfl rfl rfl rfl (by kernel_rfl) Tryd.func5 closed
    (of_decide_eq_true (by kernel_rfl)) (by unfold Func.isWrapper; first | (rw [if_pos (by decide +kernel)]; kernel_rfl) | (rw [if_neg (by decide +kernel)]; exact ⟨rfl, rfl⟩))
    (fun os started H enc _ F => by rw [OpenClaim.pre_eq_preRow]; exact lifted os started H enc F)

theorem plain (f : FuncId) (fn : Func) (hf : Tryd.pinned.checked.prog.funcNamed Tryd.f5.name = some f) (hfn : Tryd.pinned.checked.prog.funcs[f]? = some fn) :
    false = Tryd.pinned.checked.prog.looks [] ∧ ∀ (j : Nat) t, fn.params[j]? = some t → Tryd.pinned.checked.prog.wantsStandIn t = false := by
  obtain rfl : f = 5 := Option.some.inj ((show Tryd.prog.funcNamed Tryd.f5.name = some 5 by kernel_rfl).symm.trans hf) |>.symm
  obtain rfl : fn = Tryd.f5 := (Option.some.inj (Tryd.func5.symm.trans hfn)).symm
  refine ⟨fac_looks, fun j t ht => ?_⟩
  rw [Tryd.params5] at ht
  have hm : t = 22 ∨ t = 9 := by simpa using Array.mem_of_getElem? ht
  rcases hm with rfl | rfl
  · exact (show Tryd.prog.wantsStandIn 22 = false by kernel_rfl)
  · exact (show Tryd.prog.wantsStandIn 9 = false by kernel_rfl)

end Go.Proofs.YtnpkiknidmhciaaDoor.aliasNone
namespace Go.Proofs.YtnpkiknidmhciaaDoor
/-- The statement. -/
theorem aliasNone_holds : Rows.AliasNoneCardSaid :=
  Claim7.holds_tied_plain_at .later [] _ _ _ _ aliasNone.said (fun _ h => by cases h) aliasNone.wft (fun _ h => by cases h) aliasNone_row_tie rfl ⟨rfl, rfl⟩ fac_main rfl aliasNone.plain aliasNone.goes
#print axioms aliasNone_holds
end Go.Proofs.YtnpkiknidmhciaaDoor
