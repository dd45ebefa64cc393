/-
  Statement WordSpells: of any number its bytes are its sign, if it is one, and no shorter ones are; else they are none.
  Its conditions: none beside those of the row itself (the two tables of unicode/utf8 start as the library's text lays them: the card ties them).
-/
import Derived.Test.YtgdbfdmnfndojaaDoorCards
import Derived.Test.YtgdbfdmnfndojaaDoorTie
import Derived.Test.YtgdbfdmnfndojaaDoorPure4
import Derived.ProofKit
import Derived.OpenShut
import Derived.ShutString
import Derived.ChangeOld
import Derived.Deep.DeepHandedRow
import Derived.Deep.DeepWitnessRowRef
import Derived.Lib.LaidU8T
import Derived.Lib.LaidTab
import Derived.Lib.LaidIn
namespace Go.Proofs.YtgdbfdmnfndojaaDoor.wordSpells
open Go.ChangeShapes Go.WideShapes Go.ChangeAt Go.RowKit Go.Lib
open Go.ChangeMaps (open_string shut_string)
set_option linter.unusedVariables false

theorem own : ownKnob Tryd.prog.godebug = none := by kernel_rfl

set_option maxHeartbeats 1000000 in
set_option maxRecDepth 100000 in
theorem walk_out (a0 : Int) (h : a0 < 0 ∨ 2097151 < a0) (a1 : ByteArray) (w1 : a1.size ≤ maxLen) (w : World) (hT : Tabs w) :
    Calls Tryd.prog 5 #[.int .i64 a0, .string a1] w fun e w' => e = .returned (.bool true) ∧ Below w.heap.size w w' := by
  have HT := Lib.hid hT
  clear hT
  rcases h with h | h
  case' inl => have d1 : decide (a0 < 0) = true := by simpa using h
  case' inr =>
    have d1 : decide (a0 < 0) = false := by simp; omega
    have d2 : decide (2097151 < a0) = true := by simpa using h
  all_goals
    clear h
    go_enter Tryd.func5, Tryd.ntmps5
    go_wp2_with fail
    refine (cut_calls _ a1 20 w1).mono ?_
    rintro e v3 ⟨rfl, rfl⟩
    go_wp2_with fail
    refine (awake2_calls _ HT.out).mono ?_
    rintro e v2 ⟨rfl, b2⟩
    have t2 := HT.out.below b2
    go_wp2_with fail
    refine (awake2_calls _ t2).mono ?_
    rintro e v3 ⟨rfl, b3⟩
    have G3 := Lib.hid (Below.next b2 b3)
    clear b2 b3 t2
    go_wp2
    go_ret
    exact ⟨rfl, G3.out⟩

set_option maxHeartbeats 2000000 in
set_option maxRecDepth 100000 in
theorem walk_in (v : Nat) (hv : v ≤ 2097151) (a1 : ByteArray) (w1 : a1.size ≤ maxLen) (w : World) (hT : Tabs w) :
    Calls Tryd.prog 5 #[.int .i64 v, .string a1] w fun e w' => e = .returned (.bool true) ∧ Below w.heap.size w w' := by
  have HT := Lib.hid hT
  clear hT
  have d1 : decide ((v : Int) < 0) = false := by simp
  have d2 : decide (2097151 < (v : Int)) = false := by simp; omega
  have HV := Lib.hid hv
  have hs : (isSign v ∧ decide ((v : Int) ≤ 1114111) = true ∧ decide ((v : Int) < 55296) = true) ∨ (isSign v ∧ decide ((v : Int) ≤ 1114111) = true ∧ decide ((v : Int) < 55296) = false ∧ decide (57343 < (v : Int)) = true)
      ∨ (¬ isSign v ∧ decide ((v : Int) ≤ 1114111) = false) ∨ (¬ isSign v ∧ decide ((v : Int) ≤ 1114111) = true ∧ decide ((v : Int) < 55296) = false ∧ decide (57343 < (v : Int)) = false) := by
    unfold isSign
    simp only [decide_eq_true_eq, decide_eq_false_iff_not]
    omega
  clear hv
  have hl := spellL_len v
  have hb32 : (v : Int) ≤ 2147483647 := by have := HV.out; omega
  rcases hs with ⟨hg, d3, d4⟩ | ⟨hg, d3, d4, d5⟩ | ⟨hg, d3⟩ | ⟨hg, d3, d4, d5⟩
  case' inl | inr.inl =>
    have HS := Lib.hid (fun t => sgn_spell v hg t)
    have HC := Lib.hid (sgn_cut v hg)
    clear hg
    go_enter Tryd.func5, Tryd.ntmps5
    go_wp2_with fail
    refine (cut_calls _ a1 20 w1).mono ?_
    rintro e v3 ⟨rfl, rfl⟩
    have hs5 : (a1.extract 0 20).size ≤ 20 := by simp; omega
    generalize a1.extract 0 20 = t at *
    clear w1
    obtain ⟨b, rfl⟩ : ∃ l, t = str l := ⟨_, ba_str t⟩
    go_wp2_with fail
    refine (awake2_calls _ HT.out).mono ?_
    rintro e v2 ⟨rfl, b2⟩
    have t2 := HT.out.below b2
    go_wp2_with fail
    refine (spell_calls _ v HV.out).mono ?_
    rintro e v3 ⟨rfl, b3⟩
    have t3 := t2.below b3
    have c3 := Below.next b2 b3
    clear b2 b3 t2
    have hap := str_append (spellL v) b
    obtain ⟨m, hm⟩ : ∃ m, (spellL v).length = m + 1 := ⟨(spellL v).length - 1, by omega⟩
    have hsz : (str (spellL v)).size = m + 1 := by rw [str_size]; exact hm
    have hex : (str (spellL v)).extract 0 m = str ((spellL v).take m) := by rw [ba_take, str_data]
    have HS' := Lib.hid (HS.out b)
    rw [hm] at HC HS' hl
    simp only [Nat.add_sub_cancel] at HC
    clear HS hm HV
    generalize spellL v = L at *
    go_wp2_with fail
    refine (sign_calls _ _ t3).mono ?_
    rw [HS'.out]
    rintro e v4 ⟨rfl, b4⟩
    have t4 := t3.below b4
    have c4 := Below.next c3 b4
    clear b4 t3 c3
    go_wp2_with fail
    refine (sign_calls _ _ t4).mono ?_
    rw [HC.out]
    rintro e v5 ⟨rfl, b5⟩
    have G5 := Lib.hid (Below.next c4 b5)
    clear b5 t4 c4
    go_wp2
    go_ret
    exact ⟨rfl, G5.out⟩
  all_goals
    have HS := Lib.hid (fun t => sgn_nospell v hg HV.out t)
    clear hg
    go_enter Tryd.func5, Tryd.ntmps5
    go_wp2_with fail
    refine (cut_calls _ a1 20 w1).mono ?_
    rintro e v3 ⟨rfl, rfl⟩
    have hs5 : (a1.extract 0 20).size ≤ 20 := by simp; omega
    generalize a1.extract 0 20 = t at *
    clear w1
    obtain ⟨b, rfl⟩ : ∃ l, t = str l := ⟨_, ba_str t⟩
    go_wp2_with fail
    refine (awake2_calls _ HT.out).mono ?_
    rintro e v2 ⟨rfl, b2⟩
    have t2 := HT.out.below b2
    go_wp2_with fail
    refine (spell_calls _ v HV.out).mono ?_
    rintro e v3 ⟨rfl, b3⟩
    have t3 := t2.below b3
    have c3 := Below.next b2 b3
    clear b2 b3 t2
    have hap := str_append (spellL v) b
    have hsz : (str (spellL v)).size ≤ 4 := by rw [str_size]; omega
    have HS' := Lib.hid (HS.out b)
    clear HS HV
    generalize spellL v = L at *
    go_wp2_with fail
    refine (sign_calls _ _ t3).mono ?_
    rw [HS'.out]
    rintro e v4 ⟨rfl, b4⟩
    have G4 := Lib.hid (Below.next c3 b4)
    clear b4 t3 c3
    go_wp2
    go_ret
    exact ⟨rfl, G4.out⟩

theorem walk (a0 : Int) (w0 : (Lit.int .i64 a0).wf = true) (a1 : ByteArray) (w1 : a1.size ≤ maxLen) (w : World) (hT : Tabs w) :
    Calls Tryd.prog 5 #[.int .i64 a0, .string a1] w fun e w' => e = .returned (.bool true) ∧ Below w.heap.size w w' := by
  by_cases h : a0 < 0 ∨ 2097151 < a0
  · exact walk_out a0 h a1 w1 w hT
  · obtain ⟨v, rfl⟩ := Int.eq_ofNat_of_zero_le (show 0 ≤ a0 by omega)
    exact walk_in v (by omega) a1 w1 w hT

theorem first_eq : (Rows.laid_unicode_utf8_first : DataW Unit) = Lib.firstData := by kernel_rfl
theorem accept_eq : (Rows.laid_unicode_utf8_acceptRanges : DataW Unit) = Lib.acceptData := by kernel_rfl

def putCells (cs : Array Value) : Obj → Obj
  | .cells _ t frozen => .cells cs t frozen
  | o => o
/-- A world for the witness: the settled one, the two tables holding what the library's text lays. -/
noncomputable def laidWorld (os : Os) : World :=
  { World.holding Tryd.prog os ⟨#[], #[], []⟩ with heap := (((World.holding Tryd.prog os ⟨#[], #[], []⟩).heap.modify (Tryd.lays196_ren.g 3) (putCells (Lib.firstTab.map fun z => Value.int .u8 z).toArray)).modify (Tryd.lays196_ren.g 4) (putCells ((List.range 16).flatMap fun i => [Value.int .u8 (Lib.accLo i), Value.int .u8 (Lib.accHi i)]).toArray)) }
theorem laid_met (os : Os) : laidMet Tryd.prog Rows.wordSpellsRow.laid ((laidWorld os).forCall (fun _ _ => 0) ⟨#[], #[.int .i64 0, .string ByteArray.empty], []⟩).memory :=
  laidMet_of_run' 8 (by kernel_rfl) (by kernel_rfl)
theorem reads (os : Os) {H : Type} (enc : TypeId × Value → H) : ∃ places, DataW.whole enc Tryd.prog ((laidWorld os).forCall (fun _ _ => 0) ⟨#[], #[.int .i64 0, .string ByteArray.empty], []⟩).memory Tryd.f5.params.toList Rows.wordSpellsSpec.vars false (#[.int .i64 0, .string ByteArray.empty] : Array Value).toList 8 = some ([.lit (.int .i64 0), .lit (.string [])], [], places) :=
  ⟨[], by kernel_rfl⟩

set_option maxRecDepth 100000 in
set_option maxHeartbeats 2000000 in
theorem lifted (os : Os) (started : os.Started) (H : Type) (enc : TypeId × Value → H) (F : Stop.Interp) :
    ReturnsInHanded {} Tryd.checked os 5 .any ((OpenSpec.ofChange Rows.wordSpellsSpec).preRow enc Tryd.prog Tryd.f5 Rows.wordSpellsRow.domain false Rows.wordSpellsRow.laid) (((OpenSpec.ofChange Rows.wordSpellsSpec).at F).post enc Tryd.prog Tryd.f5 false true false false) := by
  obtain ⟨places, hx⟩ := reads os enc
  refine returnsInHanded_of_row (C := Tryd.checked) (s := OpenSpec.ofChange Rows.wordSpellsSpec) own started (by kernel_rfl) Tryd.func5
    (witness_row_at (enc := enc) (C := Tryd.checked) false (laidWorld os) #[.int .i64 0, .string ByteArray.empty] rfl (by kernel_rfl) (by kernel_rfl) (by kernel_rfl)
      (OpenSpec.preRow_of_cond 8 hx (by kernel_rfl) (fun k hk => by cases hk) (by kernel_rfl) (laid_met os))) ?_
  intro W base args ds gs before hval0 hW _ _ _ hL _ _
  have hval : ∀ (j : Nat) t v, Tryd.f5.params[j]? = some t → args[j]? = some v → Value.okWide Tryd.prog W .any base t v := hval0
  have hW' := hW
  obtain ⟨p, q, hA0, hV, rfl, hfz, hnd⟩ := hW
  have hA : DataW.TrodAll enc Tryd.prog W 0 (fun _ => true) true Tryd.f5.params.toList args.toList ds p := hA0
  rw [Tryd.params5] at hA hval
  obtain ⟨v0, vs0, d0, ds0, p0, q0, hargs, rfl, rfl, h0, r0⟩ := trodAll_cons hA
  obtain ⟨v1, vs1, d1, ds1, p1, q1, rfl, rfl, rfl, h1, r1⟩ := trodAll_cons r0
  obtain ⟨rfl, rfl, rfl⟩ := trodAll_nil r1
  obtain rfl : args = #[v0, v1] := by cases args; simp_all
  obtain ⟨rfl, rfl⟩ := trodVars_none hV
  obtain ⟨a0, rfl, rfl, rfl, w0⟩ := open_int Tryd.underlying3 (hval 0 3 v0 rfl rfl) h0
  obtain ⟨a1, rfl, rfl, rfl, w1⟩ := open_string Tryd.underlying9 (hval 1 9 v1 rfl rfl) h1
  clear hA0 hval0
  have hT : Tabs W := utf8Tabs_of_readsT (U8Types.of196 Tryd.lays196) ⟨by kernel_rfl, by kernel_rfl, by kernel_rfl, by kernel_rfl, by kernel_rfl, by kernel_rfl, by kernel_rfl⟩ (first_eq ▸ Lib.laidMet.reads hL (.tail _ (.head _))) (accept_eq ▸ Lib.laidMet.reads hL (.head _))
  refine (walk a0 w0 a1 w1 W  hT).mono fun e W' ⟨he, bel⟩ => ?_
  subst he
  exact ⟨_, rfl, _, _, _, [], _, [], hW', trodAll_mk1 (shut_bool Tryd.underlying4 _), (trodAll_cons_mk (shut_int Tryd.underlying3 w0) (trodAll_cons_mk (shut_string Tryd.underlying9 w1) trodAll_mk0)), rfl, bel.frame _, fun h => by cases h⟩

theorem said : Rows.WordSpellsSaid :=
  OpenClaim.holds_of_cond 5 Tryd.f5 rfl rfl rfl rfl rfl rfl rfl ⟨rfl, rfl, rfl, rfl, rfl⟩ rfl rfl rfl rfl rfl (by kernel_rfl) Tryd.func5 (by kernel_rfl)
    (of_decide_eq_true (by kernel_rfl)) (by unfold Func.isWrapper; first | (rw [if_pos (by decide +kernel)]; kernel_rfl) | (rw [if_neg (by decide +kernel)]; exact ⟨rfl, rfl⟩))
    (fun os started H enc _ F => by rw [OpenClaim.pre_eq_preRow]; exact lifted os started H enc F)

theorem plain (f : FuncId) (fn : Func) (hf : Tryd.pinned.checked.prog.funcNamed Tryd.f5.name = some f) (hfn : Tryd.pinned.checked.prog.funcs[f]? = some fn) :
    false = Tryd.pinned.checked.prog.looks [] ∧ ∀ (j : Nat) t, fn.params[j]? = some t → Tryd.pinned.checked.prog.wantsStandIn t = false := by
  obtain rfl : f = 5 := Option.some.inj ((show Tryd.prog.funcNamed Tryd.f5.name = some 5 by kernel_rfl).symm.trans hf) |>.symm
  obtain rfl : fn = Tryd.f5 := (Option.some.inj (Tryd.func5.symm.trans hfn)).symm
  refine ⟨by kernel_rfl, fun j t ht => ?_⟩
  rw [Tryd.params5] at ht
  have hm : t = 3 ∨ t = 9 := by simpa using Array.mem_of_getElem? ht
  rcases hm with rfl | rfl
  · exact (show Tryd.prog.wantsStandIn 3 = false by kernel_rfl)
  · exact (show Tryd.prog.wantsStandIn 9 = false by kernel_rfl)

end Go.Proofs.YtgdbfdmnfndojaaDoor.wordSpells
namespace Go.Proofs.YtgdbfdmnfndojaaDoor
/-- The statement. -/
theorem wordSpells_holds : Rows.WordSpellsCardSaid :=
  Claim7.holds_tied_plain_at .later [] _ _ _ _ wordSpells.said (fun _ h => by cases h) (by kernel_rfl) (fun _ h => by cases h) wordSpells_row_tie rfl ⟨rfl, rfl⟩ (by kernel_rfl) rfl wordSpells.plain (by kernel_rfl)
#print axioms wordSpells_holds
end Go.Proofs.YtgdbfdmnfndojaaDoor
