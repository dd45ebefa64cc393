/-
  of any bytes the sign at their beginning, how many signs there are, and whether they are a string are as the document says.
  Its conditions: none beside those of the row itself (the two tables of unicode/utf8 start as the library's text lays them: the card ties them).
-/
import Derived.Test.YtgdbfdmnfndojaaDoorCards
import Derived.Test.YtgdbfdmnfndojaaDoorTie
import Derived.Test.YtgdbfdmnfndojaaDoorWord3
import Derived.ProofKit
import Derived.OpenShut
import Derived.ShutString
import Derived.ChangeOld
import Derived.Deep.DeepHandedRow
import Derived.Deep.DeepWitnessRowRef
import Derived.Lib.LaidU8T
import Derived.Lib.LaidTab
import Derived.Lib.LaidIn
namespace Go.Proofs.YtgdbfdmnfndojaaDoor.wordReads
open Go.ChangeShapes Go.WideShapes Go.ChangeAt Go.RowKit Go.Lib
open Go.ChangeMaps (open_string shut_string)
set_option linter.unusedVariables false

theorem own : ownKnob Tryd.prog.godebug = none := by kernel_rfl

set_option maxHeartbeats 4000000 in
set_option maxRecDepth 100000 in
theorem walk (a0 : ByteArray) (w0 : a0.size ≤ maxLen) (w : World) (hT : Tabs w) :
    Calls Tryd.prog 3 #[.string a0] w fun e w' => e = .returned (.bool true) ∧ Below w.heap.size w w' := by
  have HT := Lib.hid hT
  clear hT
  go_enter Tryd.func3, Tryd.ntmps3
  go_wp2_with fail
  refine (cut_calls _ a0 100 w0).mono ?_
  rintro e v3 ⟨rfl, rfl⟩
  have hs4 : (a0.extract 0 100).size ≤ 100 := by simp; omega
  generalize a0.extract 0 100 = s at *
  clear w0
  obtain ⟨l, rfl⟩ : ∃ l, s = str l := ⟨_, ba_str s⟩
  have hz := str_size l
  have hl : l.length ≤ 100 := by rwa [str_size] at hs4
  clear hs4
  have hb32 : ((sgn (str l)).1 : Int) ≤ 2147483647 := by
    by_cases h : (sgn (str l)).2 = 0
    · have hd := sgn_str l
      by_cases hc : l = [] ∨ Bad l
      · rw [if_pos hc] at hd; rw [hd]; decide
      · rw [if_neg hc] at hd; have := decodeL_width l; rw [hd] at h; omega
    · have := (sgn_spelled l h).1.1; omega
  have hm : (str l).size ≤ maxLen := by rw [str_size]; unfold maxLen; omega
  have HM := Lib.hid hm
  clear hm
  generalize hN : nsig l = N
  have HN := Lib.hid hN
  clear hN
  go_wp2_with fail
  refine (sign_calls _ (str l) HT.out).mono ?_
  rintro e v2 ⟨rfl, b2⟩
  have T2 := Lib.hid (HT.out.below b2)
  have B2 := Lib.hid b2
  clear b2 HT
  go_wp2_with fail
  refine (r2sign_calls _ l (by omega)).mono ?_
  rintro e v3 ⟨rfl, b3⟩
  have T3 := Lib.hid (T2.out.below b3)
  have B3 := Lib.hid (Below.next B2.out b3)
  clear b3 T2 B2
  generalize sgn (str l) = S at *
  obtain ⟨S1, S2⟩ := S
  dsimp only at *
  go_wp2_with fail
  go_loopw [7, 8] (fun a b wr => ∃ (k t : Nat), a = .int .i64 k ∧ b = .int .i64 t ∧ k ≤ t ∧ t ≤ l.length ∧ k + nsig (l.drop t) = N ∧ Tabs wr ∧ Below w.heap.size w wr) (fun _ b _ => 101 - (RowKit.intOf b).toNat)
  case atStart => exact ⟨0, 0, rfl, rfl, by omega, by omega, by rw [List.drop_zero, HN.out]; omega, T3.out, B3.out⟩
  case round =>
    clear T3 B3
    obtain ⟨k, t, rfl, rfl, hk, ht, hn, hT, hb⟩ := hrel
    have HB := Lib.hid hb
    have HT := Lib.hid hT
    clear hb hT
    by_cases hc : t < l.length ∧ (sgn (str (l.drop t))).2 ≠ 0
    · obtain ⟨hc, h0⟩ := hc
      rw [nsig_one _ h0, List.drop_drop] at hn
      have hle := sgn_le (l.drop t)
      rw [List.length_drop] at hle
      have e1 : (str l).extract t (str l).size = str (l.drop t) := by rw [ba_drop, str_data]
      rw [hz] at e1
      have hm : (l.drop t).length ≤ 70000 := by rw [List.length_drop]; omega
      have HM2 := Lib.hid hm
      clear hm
      go_wp2_with fail
      refine (r2sign_calls _ (l.drop t) HM2.out).mono ?_
      rintro e w2 ⟨rfl, b2⟩
      have T2 := Lib.hid (HT.out.below b2)
      have B2 := Lib.hid (Below.next HB.out b2)
      clear b2 HT HB
      generalize sgn (str (l.drop t)) = Z at *
      obtain ⟨v, n⟩ := Z
      dsimp only at *
      have HN2 := Lib.hid hn
      clear hn
      have d1 : ((n : Int) == 0) = false := by simp; omega
      go_wp2
      go_roundw
      case rel => exact ⟨k + 1, t + n, by go_num, by go_num, by omega, by omega, by have := HN2.out; omega, T2.out, B2.out⟩
      case measure => simp [RowKit.intOf]; omega
    · have hkN : k = N := by
        rw [nsig_none] at hn
        · omega
        · by_cases h : t < l.length
          · exact Classical.byContradiction fun h0 => hc ⟨h, h0⟩
          · rw [List.drop_of_length_le (by omega)]; exact sgn_nil
      subst hkN
      have HS := Lib.hid (fun (wx : World) (hT : Tabs wx) => signs_calls wx l (by omega) hT)
      by_cases h : t < l.length
      · have h0 : (sgn (str (l.drop t))).2 = 0 := Classical.byContradiction fun h0 => hc ⟨h, h0⟩
        have e1 : (str l).extract t (str l).size = str (l.drop t) := by rw [ba_drop, str_data]
        rw [hz] at e1
        have hm : (l.drop t).length ≤ 70000 := by rw [List.length_drop]; omega
        have HM2 := Lib.hid hm
        clear hm hc hn
        go_wp2_with fail
        refine (r2sign_calls _ (l.drop t) HM2.out).mono ?_
        rintro e w2 ⟨rfl, b2⟩
        rw [h0]
        have t2 := HT.out.below b2
        have c2 := Below.next HB.out b2
        clear b2 HT HB
        generalize (sgn (str (l.drop t))).1 = v at *
        clear h0
        go_wp2_with fail
        refine (awake2_calls _ t2).mono ?_
        rintro e v4 ⟨rfl, b4⟩
        have t4 := t2.below b4
        have c4 := Below.next c2 b4
        clear b4 t2 c2
        go_wp2_with fail
        refine (HS.out _ t4).mono ?_
        rw [HN.out]
        rintro e v5 ⟨rfl, b5⟩
        have t5 := t4.below b5
        have c5 := Below.next c4 b5
        clear b5 t4 c4
        go_wp2_with fail
        refine (good_calls _ (str l) HM.out t5).mono ?_
        rintro e v6 ⟨rfl, b6⟩
        have c6 := Below.next c5 b6
        clear b6 t5 c5
        go_wp2_with fail
        refine (r2good_calls _ l (by omega)).mono ?_
        rintro e v7 ⟨rfl, b7⟩
        have G7 := Lib.hid (Below.next c6 b7)
        clear b7 c6
        generalize goodB (str l) = g at *
        go_wp2
        go_ret
        exact ⟨rfl, G7.out⟩
      · have t2 := HT.out
        have c2 := HB.out
        clear hc hn HT HB
        go_wp2_with fail
        refine (awake2_calls _ t2).mono ?_
        rintro e v4 ⟨rfl, b4⟩
        have t4 := t2.below b4
        have c4 := Below.next c2 b4
        clear b4 t2 c2
        go_wp2_with fail
        refine (HS.out _ t4).mono ?_
        rw [HN.out]
        rintro e v5 ⟨rfl, b5⟩
        have t5 := t4.below b5
        have c5 := Below.next c4 b5
        clear b5 t4 c4
        go_wp2_with fail
        refine (good_calls _ (str l) HM.out t5).mono ?_
        rintro e v6 ⟨rfl, b6⟩
        have c6 := Below.next c5 b6
        clear b6 t5 c5
        go_wp2_with fail
        refine (r2good_calls _ l (by omega)).mono ?_
        rintro e v7 ⟨rfl, b7⟩
        have G7 := Lib.hid (Below.next c6 b7)
        clear b7 c6
        generalize goodB (str l) = g at *
        go_wp2
        go_ret
        exact ⟨rfl, G7.out⟩

theorem first_eq : (Rows.laid_unicode_utf8_first : DataW Unit) = Lib.firstData := by kernel_rfl
theorem accept_eq : (Rows.laid_unicode_utf8_acceptRanges : DataW Unit) = Lib.acceptData := by kernel_rfl

def putCells (cs : Array Value) : Obj → Obj
  | .cells _ t frozen => .cells cs t frozen
  | o => o
/-- A world for the witness: the settled one, the two tables holding what the library's text lays. -/
noncomputable def laidWorld (os : Os) : World :=
  { World.holding Tryd.prog os ⟨#[], #[], []⟩ with heap := (((World.holding Tryd.prog os ⟨#[], #[], []⟩).heap.modify (Tryd.lays196_ren.g 3) (putCells (Lib.firstTab.map fun z => Value.int .u8 z).toArray)).modify (Tryd.lays196_ren.g 4) (putCells ((List.range 16).flatMap fun i => [Value.int .u8 (Lib.accLo i), Value.int .u8 (Lib.accHi i)]).toArray)) }
theorem laid_met (os : Os) : laidMet Tryd.prog Rows.wordReadsRow.laid ((laidWorld os).forCall (fun _ _ => 0) ⟨#[], #[.string ByteArray.empty], []⟩).memory :=
  laidMet_of_run' 8 (by kernel_rfl) (by kernel_rfl)
theorem reads (os : Os) {H : Type} (enc : TypeId × Value → H) : ∃ places, DataW.whole enc Tryd.prog ((laidWorld os).forCall (fun _ _ => 0) ⟨#[], #[.string ByteArray.empty], []⟩).memory Tryd.f3.params.toList Rows.wordReadsSpec.vars false (#[.string ByteArray.empty] : Array Value).toList 8 = some ([.lit (.string [])], [], places) :=
  ⟨[], by kernel_rfl⟩

set_option maxRecDepth 100000 in
set_option maxHeartbeats 2000000 in
theorem lifted (os : Os) (started : os.Started) (H : Type) (enc : TypeId × Value → H) (F : Stop.Interp) :
    ReturnsInHanded {} Tryd.checked os 3 .any ((OpenSpec.ofChange Rows.wordReadsSpec).preRow enc Tryd.prog Tryd.f3 Rows.wordReadsRow.domain false Rows.wordReadsRow.laid) (((OpenSpec.ofChange Rows.wordReadsSpec).at F).post enc Tryd.prog Tryd.f3 false true false false) := by
  obtain ⟨places, hx⟩ := reads os enc
  refine returnsInHanded_of_row (C := Tryd.checked) (s := OpenSpec.ofChange Rows.wordReadsSpec) own started (by kernel_rfl) Tryd.func3
    (witness_row_at (enc := enc) (C := Tryd.checked) false (laidWorld os) #[.string ByteArray.empty] rfl (by kernel_rfl) (by kernel_rfl) (by kernel_rfl)
      (OpenSpec.preRow_of_cond 8 hx (by kernel_rfl) (fun k hk => by cases hk) (by kernel_rfl) (laid_met os))) ?_
  intro W base args ds gs before hval0 hW _ _ _ hL _ _
  have hval : ∀ (j : Nat) t v, Tryd.f3.params[j]? = some t → args[j]? = some v → Value.okWide Tryd.prog W .any base t v := hval0
  have hW' := hW
  obtain ⟨p, q, hA0, hV, rfl, hfz, hnd⟩ := hW
  have hA : DataW.TrodAll enc Tryd.prog W 0 (fun _ => true) true Tryd.f3.params.toList args.toList ds p := hA0
  rw [Tryd.params3] at hA hval
  obtain ⟨v0, vs0, d0, ds0, p0, q0, hargs, rfl, rfl, h0, r0⟩ := trodAll_cons hA
  obtain ⟨rfl, rfl, rfl⟩ := trodAll_nil r0
  obtain rfl : args = #[v0] := by cases args; simp_all
  obtain ⟨rfl, rfl⟩ := trodVars_none hV
  obtain ⟨a0, rfl, rfl, rfl, w0⟩ := open_string Tryd.underlying9 (hval 0 9 v0 rfl rfl) h0
  clear hA0 hval0
  have hT : Tabs W := utf8Tabs_of_readsT (U8Types.of196 Tryd.lays196) ⟨by kernel_rfl, by kernel_rfl, by kernel_rfl, by kernel_rfl, by kernel_rfl, by kernel_rfl, by kernel_rfl⟩ (first_eq ▸ Lib.laidMet.reads hL (.tail _ (.head _))) (accept_eq ▸ Lib.laidMet.reads hL (.head _))
  refine (walk a0 w0 W  hT).mono fun e W' ⟨he, bel⟩ => ?_
  subst he
  exact ⟨_, rfl, _, _, _, [], _, [], hW', trodAll_mk1 (shut_bool Tryd.underlying4 _), (trodAll_cons_mk (shut_string Tryd.underlying9 w0) trodAll_mk0), rfl, bel.frame _, fun h => by cases h⟩

theorem said : Rows.WordReadsSaid :=
  OpenClaim.holds_of_cond 3 Tryd.f3 rfl rfl rfl rfl rfl rfl rfl ⟨rfl, rfl, rfl, rfl, rfl⟩ rfl rfl rfl rfl rfl (by kernel_rfl) Tryd.func3 (by kernel_rfl)
    (of_decide_eq_true (by kernel_rfl)) (by unfold Func.isWrapper; first | (rw [if_pos (by decide +kernel)]; kernel_rfl) | (rw [if_neg (by decide +kernel)]; exact ⟨rfl, rfl⟩))
    (fun os started H enc _ F => by rw [OpenClaim.pre_eq_preRow]; exact lifted os started H enc F)

theorem plain (f : FuncId) (fn : Func) (hf : Tryd.pinned.checked.prog.funcNamed Tryd.f3.name = some f) (hfn : Tryd.pinned.checked.prog.funcs[f]? = some fn) :
    false = Tryd.pinned.checked.prog.looks [] ∧ ∀ (j : Nat) t, fn.params[j]? = some t → Tryd.pinned.checked.prog.wantsStandIn t = false := by
  obtain rfl : f = 3 := Option.some.inj ((show Tryd.prog.funcNamed Tryd.f3.name = some 3 by kernel_rfl).symm.trans hf) |>.symm
  obtain rfl : fn = Tryd.f3 := (Option.some.inj (Tryd.func3.symm.trans hfn)).symm
  refine ⟨by kernel_rfl, fun j t ht => ?_⟩
  rw [Tryd.params3] at ht
  have hm : t = 9 := by simpa using Array.mem_of_getElem? ht
  subst hm
  exact (show Tryd.prog.wantsStandIn 9 = false by kernel_rfl)

end Go.Proofs.YtgdbfdmnfndojaaDoor.wordReads
namespace Go.Proofs.YtgdbfdmnfndojaaDoor
/-- The statement. -/
theorem wordReads_holds : Rows.WordReadsCardSaid :=
  Claim7.holds_tied_plain_at .later [] _ _ _ _ wordReads.said (fun _ h => by cases h) (by kernel_rfl) (fun _ h => by cases h) wordReads_row_tie rfl ⟨rfl, rfl⟩ (by kernel_rfl) rfl wordReads.plain (by kernel_rfl)
#print axioms wordReads_holds
end Go.Proofs.YtgdbfdmnfndojaaDoor
