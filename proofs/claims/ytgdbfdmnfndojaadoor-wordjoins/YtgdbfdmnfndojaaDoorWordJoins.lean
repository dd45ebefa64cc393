/-
  Statement WordJoins: a text behind a string is a string together with it just if it is one by itself; a string that is cut behind its first sign gives two strings.
  Its conditions: none beside those of the row itself (the two tables of unicode/utf8 start as the library's text lays them: the card ties them).
-/
import Derived.Test.YtgdbfdmnfndojaaDoorCards
import Derived.Test.YtgdbfdmnfndojaaDoorTie
import Derived.Test.YtgdbfdmnfndojaaDoorPure3
import Derived.ProofKit
import Derived.OpenShut
import Derived.ShutString
import Derived.ChangeOld
import Derived.Deep.DeepHandedRow
import Derived.Deep.DeepWitnessRowRef
import Derived.Lib.LaidU8T
import Derived.Lib.LaidTab
import Derived.Lib.LaidIn
namespace Go.Proofs.YtgdbfdmnfndojaaDoor.wordJoins
open Go.ChangeShapes Go.WideShapes Go.ChangeAt Go.RowKit Go.Lib
open Go.ChangeMaps (open_string shut_string)
set_option linter.unusedVariables false

theorem own : ownKnob Tryd.prog.godebug = none := by kernel_rfl

set_option maxHeartbeats 1000000 in
set_option maxRecDepth 100000 in
theorem walk (a0 : ByteArray) (w0 : a0.size ≤ maxLen) (a1 : ByteArray) (w1 : a1.size ≤ maxLen) (w : World) (hT : Tabs w) :
    Calls Tryd.prog 6 #[.string a0, .string a1] w fun e w' => e = .returned (.bool true) ∧ Below w.heap.size w w' := by
  have HT := Lib.hid hT
  clear hT
  go_enter Tryd.func6, Tryd.ntmps6
  go_wp2_with fail
  refine (cut_calls _ a0 100 w0).mono ?_
  rintro e v3 ⟨rfl, rfl⟩
  have hs4 : (a0.extract 0 100).size ≤ 100 := by simp; omega
  generalize a0.extract 0 100 = s at *
  go_wp2_with fail
  refine (cut_calls _ a1 100 w1).mono ?_
  rintro e v3 ⟨rfl, rfl⟩
  have hs5 : (a1.extract 0 100).size ≤ 100 := by simp; omega
  generalize a1.extract 0 100 = t at *
  clear w0 w1
  obtain ⟨a, rfl⟩ : ∃ l, s = str l := ⟨_, ba_str s⟩
  obtain ⟨b, rfl⟩ : ∃ l, t = str l := ⟨_, ba_str t⟩
  have ha : a.length ≤ 100 := by rwa [str_size] at hs4
  have hb : b.length ≤ 100 := by rwa [str_size] at hs5
  have hap := str_append a b
  have hm : ∀ l : List UInt8, l.length ≤ 200 → (str l).size ≤ maxLen := fun l h => by rw [str_size]; unfold maxLen; omega
  have HM := Lib.hid hm
  clear hm
  go_wp2_with fail
  refine (awake2_calls _ HT.out).mono ?_
  rintro e v2 ⟨rfl, b2⟩
  have t2 := HT.out.below b2
  go_wp2_with fail
  refine (good_calls _ (str a) (HM.out a (by omega)) t2).mono ?_
  cases hg : goodB (str a) with
  | false =>
    have HG := Lib.hid hg
    clear hg
    rintro e v3 ⟨rfl, b3⟩
    have t3 := t2.below b3
    have c3 := Below.next b2 b3
    clear b2 b3 t2
    go_wp2_with fail
    refine (sign_calls _ _ t3).mono ?_
    rintro e v4 ⟨rfl, b4⟩
    have t4 := t3.below b4
    have c4 := Below.next c3 b4
    clear b4 t3 c3
    go_wp2_with fail
    refine (good_calls _ (str a) (HM.out a (by omega)) t4).mono ?_
    rw [HG.out]
    rintro e v5 ⟨rfl, b5⟩
    have G5 := Lib.hid (Below.next c4 b5)
    clear b5 c4 t4
    go_wp2
    go_ret
    exact ⟨rfl, G5.out⟩
  | true =>
    have HG := Lib.hid hg
    have HE := Lib.hid (good_append a b hg (by omega))
    clear hg
    rintro e v3 ⟨rfl, b3⟩
    have t3 := t2.below b3
    have c3 := Below.next b2 b3
    clear b2 b3 t2
    go_wp2_with fail
    refine (good_calls _ (str (a ++ b)) (HM.out _ (by rw [List.length_append]; omega)) t3).mono ?_
    rw [HE.out]
    rintro e v4 ⟨rfl, b4⟩
    have t4 := t3.below b4
    have c4 := Below.next c3 b4
    clear b4 t3 c3
    go_wp2_with fail
    refine (good_calls _ (str b) (HM.out b (by omega)) t4).mono ?_
    rintro e v5 ⟨rfl, b5⟩
    have t5 := t4.below b5
    have c5 := Below.next c4 b5
    clear b5 t4 c4
    go_wp2_with fail
    refine (sign_calls _ _ t5).mono ?_
    rintro e v6 ⟨rfl, b6⟩
    have t6 := t5.below b6
    have c6 := Below.next c5 b6
    clear b6 t5 c5
    go_wp2_with fail
    refine (good_calls _ (str a) (HM.out a (by omega)) t6).mono ?_
    rw [HG.out]
    rintro e v7 ⟨rfl, b7⟩
    have t7 := t6.below b7
    have c7 := Below.next c6 b7
    clear b7 t6 c6
    by_cases hne : a = []
    · have h1 : (str a).toList = [] := by rw [str_list]; exact hne
      have h2 : (str a).toList.isEmpty = true := by rw [h1]; rfl
      have G7 := Lib.hid c7
      clear c7 t7 hne HG HE hap
      go_wp2
      go_ret
      exact ⟨rfl, G7.out⟩
    · obtain ⟨k1, k2, k3⟩ := good_sign a hne HG.out
      have h2 : (str a).toList.isEmpty = false := by rw [str_list]; cases hh : a <;> simp_all
      have h3 : ¬ (str a).toList = [] := by rw [str_list]; exact hne
      generalize (sgn (str a)).2 = n at *
      have hsz := str_size a
      have e1 : (str a).extract n (str a).size = str (a.drop n) := by rw [ba_drop, str_data]
      have e2 : (str a).extract 0 n = str (a.take n) := by rw [ba_take, str_data]
      rw [hsz] at e1
      have K2 := Lib.hid k2
      have K3 := Lib.hid k3
      clear k2 k3 hap h3 hne HG HE
      go_wp2_with fail
      refine (good_calls _ (str (a.drop n)) (HM.out _ (by simp; omega)) t7).mono ?_
      rw [K2.out]
      rintro e v8 ⟨rfl, b8⟩
      have t8 := t7.below b8
      have c8 := Below.next c7 b8
      clear b8 t7 c7
      go_wp2_with fail
      refine (good_calls _ (str (a.take n)) (HM.out _ (by simp; omega)) t8).mono ?_
      rw [K3.out]
      rintro e v9 ⟨rfl, b9⟩
      have G9 := Lib.hid (Below.next c8 b9)
      clear b9 t8 c8
      go_wp2
      go_ret
      exact ⟨rfl, G9.out⟩

theorem first_eq : (Rows.laid_unicode_utf8_first : DataW Unit) = Lib.firstData := by kernel_rfl
theorem accept_eq : (Rows.laid_unicode_utf8_acceptRanges : DataW Unit) = Lib.acceptData := by kernel_rfl

def putCells (cs : Array Value) : Obj → Obj
  | .cells _ t frozen => .cells cs t frozen
  | o => o
/-- A world for the witness: the settled one, the two tables holding what the library's text lays. -/
noncomputable def laidWorld (os : Os) : World :=
  { World.holding Tryd.prog os ⟨#[], #[], []⟩ with heap := (((World.holding Tryd.prog os ⟨#[], #[], []⟩).heap.modify (Tryd.lays196_ren.g 3) (putCells (Lib.firstTab.map fun z => Value.int .u8 z).toArray)).modify (Tryd.lays196_ren.g 4) (putCells ((List.range 16).flatMap fun i => [Value.int .u8 (Lib.accLo i), Value.int .u8 (Lib.accHi i)]).toArray)) }
theorem laid_met (os : Os) : laidMet Tryd.prog Rows.wordJoinsRow.laid ((laidWorld os).forCall (fun _ _ => 0) ⟨#[], #[.string ByteArray.empty, .string ByteArray.empty], []⟩).memory :=
  laidMet_of_run' 8 (by kernel_rfl) (by kernel_rfl)
theorem reads (os : Os) {H : Type} (enc : TypeId × Value → H) : ∃ places, DataW.whole enc Tryd.prog ((laidWorld os).forCall (fun _ _ => 0) ⟨#[], #[.string ByteArray.empty, .string ByteArray.empty], []⟩).memory Tryd.f6.params.toList Rows.wordJoinsSpec.vars false (#[.string ByteArray.empty, .string ByteArray.empty] : Array Value).toList 8 = some ([.lit (.string []), .lit (.string [])], [], places) :=
  ⟨[], by kernel_rfl⟩

set_option maxRecDepth 100000 in
set_option maxHeartbeats 2000000 in
theorem lifted (os : Os) (started : os.Started) (H : Type) (enc : TypeId × Value → H) (F : Stop.Interp) :
    ReturnsInHanded {} Tryd.checked os 6 .any ((OpenSpec.ofChange Rows.wordJoinsSpec).preRow enc Tryd.prog Tryd.f6 Rows.wordJoinsRow.domain false Rows.wordJoinsRow.laid) (((OpenSpec.ofChange Rows.wordJoinsSpec).at F).post enc Tryd.prog Tryd.f6 false true false false) := by
  obtain ⟨places, hx⟩ := reads os enc
  refine returnsInHanded_of_row (C := Tryd.checked) (s := OpenSpec.ofChange Rows.wordJoinsSpec) own started (by kernel_rfl) Tryd.func6
    (witness_row_at (enc := enc) (C := Tryd.checked) false (laidWorld os) #[.string ByteArray.empty, .string ByteArray.empty] rfl (by kernel_rfl) (by kernel_rfl) (by kernel_rfl)
      (OpenSpec.preRow_of_cond 8 hx (by kernel_rfl) (fun k hk => by cases hk) (by kernel_rfl) (laid_met os))) ?_
  intro W base args ds gs before hval0 hW _ _ _ hL _ _
  have hval : ∀ (j : Nat) t v, Tryd.f6.params[j]? = some t → args[j]? = some v → Value.okWide Tryd.prog W .any base t v := hval0
  have hW' := hW
  obtain ⟨p, q, hA0, hV, rfl, hfz, hnd⟩ := hW
  have hA : DataW.TrodAll enc Tryd.prog W 0 (fun _ => true) true Tryd.f6.params.toList args.toList ds p := hA0
  rw [Tryd.params6] at hA hval
  obtain ⟨v0, vs0, d0, ds0, p0, q0, hargs, rfl, rfl, h0, r0⟩ := trodAll_cons hA
  obtain ⟨v1, vs1, d1, ds1, p1, q1, rfl, rfl, rfl, h1, r1⟩ := trodAll_cons r0
  obtain ⟨rfl, rfl, rfl⟩ := trodAll_nil r1
  obtain rfl : args = #[v0, v1] := by cases args; simp_all
  obtain ⟨rfl, rfl⟩ := trodVars_none hV
  obtain ⟨a0, rfl, rfl, rfl, w0⟩ := open_string Tryd.underlying9 (hval 0 9 v0 rfl rfl) h0
  obtain ⟨a1, rfl, rfl, rfl, w1⟩ := open_string Tryd.underlying9 (hval 1 9 v1 rfl rfl) h1
  clear hA0 hval0
  have hT : Tabs W := utf8Tabs_of_readsT (U8Types.of196 Tryd.lays196) ⟨by kernel_rfl, by kernel_rfl, by kernel_rfl, by kernel_rfl, by kernel_rfl, by kernel_rfl, by kernel_rfl⟩ (first_eq ▸ Lib.laidMet.reads hL (.tail _ (.head _))) (accept_eq ▸ Lib.laidMet.reads hL (.head _))
  refine (walk a0 w0 a1 w1 W  hT).mono fun e W' ⟨he, bel⟩ => ?_
  subst he
  exact ⟨_, rfl, _, _, _, [], _, [], hW', trodAll_mk1 (shut_bool Tryd.underlying4 _), (trodAll_cons_mk (shut_string Tryd.underlying9 w0) (trodAll_cons_mk (shut_string Tryd.underlying9 w1) trodAll_mk0)), rfl, bel.frame _, fun h => by cases h⟩

theorem said : Rows.WordJoinsSaid :=
  OpenClaim.holds_of_cond 6 Tryd.f6 rfl rfl rfl rfl rfl rfl rfl ⟨rfl, rfl, rfl, rfl, rfl⟩ rfl rfl rfl rfl rfl (by kernel_rfl) Tryd.func6 (by kernel_rfl)
    (of_decide_eq_true (by kernel_rfl)) (by unfold Func.isWrapper; first | (rw [if_pos (by decide +kernel)]; kernel_rfl) | (rw [if_neg (by decide +kernel)]; exact ⟨rfl, rfl⟩))
    (fun os started H enc _ F => by rw [OpenClaim.pre_eq_preRow]; exact lifted os started H enc F)

theorem plain (f : FuncId) (fn : Func) (hf : Tryd.pinned.checked.prog.funcNamed Tryd.f6.name = some f) (hfn : Tryd.pinned.checked.prog.funcs[f]? = some fn) :
    false = Tryd.pinned.checked.prog.looks [] ∧ ∀ (j : Nat) t, fn.params[j]? = some t → Tryd.pinned.checked.prog.wantsStandIn t = false := by
  obtain rfl : f = 6 := Option.some.inj ((show Tryd.prog.funcNamed Tryd.f6.name = some 6 by kernel_rfl).symm.trans hf) |>.symm
  obtain rfl : fn = Tryd.f6 := (Option.some.inj (Tryd.func6.symm.trans hfn)).symm
  refine ⟨by kernel_rfl, fun j t ht => ?_⟩
  rw [Tryd.params6] at ht
  have hm : t = 9 := by simpa using Array.mem_of_getElem? ht
  subst hm
  exact (show Tryd.prog.wantsStandIn 9 = false by kernel_rfl)

end Go.Proofs.YtgdbfdmnfndojaaDoor.wordJoins
namespace Go.Proofs.YtgdbfdmnfndojaaDoor
/-- The statement. -/
theorem wordJoins_holds : Rows.WordJoinsCardSaid :=
  Claim7.holds_tied_plain_at .later [] _ _ _ _ wordJoins.said (fun _ h => by cases h) (by kernel_rfl) (fun _ h => by cases h) wordJoins_row_tie rfl ⟨rfl, rfl⟩ (by kernel_rfl) rfl wordJoins.plain (by kernel_rfl)
#print axioms wordJoins_holds
end Go.Proofs.YtgdbfdmnfndojaaDoor
