/-
  Statement WordBack: a string is put, and taken again, with what is behind it; what is no string is refused.
  Its conditions: none beside those of the row itself (the two tables of unicode/utf8 start as the library's text lays them: the card ties them).
-/
import Derived.Test.YtgdbfdmnfndojaaDoorCards
import Derived.Test.YtgdbfdmnfndojaaDoorTie
import Derived.Test.YtgdbfdmnfndojaaDoorWord2
import Derived.ProofKit
import Derived.OpenShut
import Derived.ShutString
import Derived.ChangeOld
import Derived.Deep.DeepHandedRow
import Derived.Deep.DeepWitnessRowRef
import Derived.Lib.LaidU8T
import Derived.Lib.LaidTab
import Derived.Lib.LaidIn
namespace Go.Proofs.YtgdbfdmnfndojaaDoor.wordBack
open Go.ChangeShapes Go.WideShapes Go.ChangeAt Go.RowKit Go.Lib
open Go.ChangeMaps (open_string shut_string)
set_option linter.unusedVariables false

theorem own : ownKnob Tryd.prog.godebug = none := by kernel_rfl

theorem isEmpty_str (l : List UInt8) (h : l = []) : (str l).toList.isEmpty = true := by rw [str_list, h]; rfl

theorem walk (a0 : ByteArray) (w0 : a0.size ≤ maxLen) (a1 : ByteArray) (w1 : a1.size ≤ maxLen) (w : World) (hT : Tabs w) :
    Calls Tryd.prog 7 #[.string a0, .string a1] w fun e w' => e = .returned (.bool true) ∧ Below w.heap.size w w' := by
  have HT := Lib.hid hT
  clear hT
  go_enter Tryd.func7, Tryd.ntmps7
  go_wp2_with fail
  refine (cut_calls _ a0 100 w0).mono ?_
  rintro e v3 ⟨rfl, rfl⟩
  have hs4 : (a0.extract 0 100).size ≤ 100 := by simp; omega
  generalize a0.extract 0 100 = s at *
  go_wp2_with fail
  refine (cut_calls _ a1 20 w1).mono ?_
  rintro e v3 ⟨rfl, rfl⟩
  have hs5 : (a1.extract 0 20).size ≤ 20 := by simp; omega
  generalize a1.extract 0 20 = t at *
  clear w0 w1
  obtain ⟨ls, rfl⟩ : ∃ l, s = str l := ⟨_, ba_str s⟩
  obtain ⟨lt, rfl⟩ : ∃ l, t = str l := ⟨_, ba_str t⟩
  rw [str_size] at hs4 hs5
  go_wp2_with fail
  refine (awake2_calls _ HT.out).mono ?_
  rintro e v2 ⟨rfl, hb⟩
  have hsz := hb.size
  have g0 := hb.alloc hb.size (.cells #[.slice none 0 0] 47)
  have HB0 : Hid (v2.heap.size ≤ (v2.alloc (.cells #[.slice none 0 0] 47)).heap.size) := by unfold Hid; simp
  clear hb
  go_wp2_with fail
  refine (data_calls _ v2.heap.size none [] (str ls) (OutAt.new v2) (by rw [str_size]; omega) (by simp)).mono ?_
  rintro e x5 ⟨rfl, r5, h5, s5⟩
  go_wp2_with fail
  refine (raw_calls _ v2.heap.size r5 _ (str lt) h5 (by simp [two_len, str_data, str_size]; omega)).mono ?_
  rintro e x6 ⟨rfl, r6, h6, s6⟩
  have t6 := s5.trans s6
  have g6 := g0.trans (t6.below HB0.out (Nat.le_refl _) (fun g hg => by cases hg) |>.mono hsz)
  have hz6 := Nat.le_trans HB0.out t6.size
  clear s6 s5 h5 t6 g0 HB0
  go_wp2_with fail
  refine (text_calls _ _ r6 _ h6).mono ?_
  rintro e x7 ⟨rfl, rfl⟩
  clear h6
  rw [List.nil_append, str_data, str_data, str_size]
  simp only [List.append_assoc]
  obtain ⟨Z, hZ⟩ : ∃ Z, str (two ls.length ++ (ls ++ lt)) = Z := ⟨_, rfl⟩
  rw [hZ]
  have HZ := Lib.hid hZ
  clear hZ
  go_wp2_with fail
  refine (over_calls _ _).mono ?_
  rintro e x8 ⟨rfl, rfl⟩
  have i8 := InAt.new x6 Z
  have g8 := g6.alloc (Nat.le_trans hsz hz6) (.cells #[.string Z, .int .i64 0] 54)
  have hp : w.heap.size ≤ x6.heap.size := Nat.le_trans hsz hz6
  clear g6 hz6 hsz
  generalize x6.alloc (.cells #[.string Z, .int .i64 0] 54) = y0 at *
  generalize x6.heap.size = p at *
  rw [← HZ.out] at i8
  go_wp2_with fail
  refine (takeW_calls _ p _ 0 _ _ 0 (rawT_app (two ls.length) _ 2 (by simp [two_len])) (str ls) (str lt) 0 (by rw [str_data, numL_two _ (by omega)]; exact rawT_app ls lt _ (by omega)) i8 (HT.out.below g8)).mono ?_
  cases hg : goodB (str ls) with
  | true =>
    have HG := Lib.hid hg
    clear hg
    simp only [if_true]
    rintro e y1 ⟨rfl, i1, c1⟩
    have g1 := g8.trans (c1.below g8.size hp)
    clear c1 g8 i8
    go_wp2_with fail
    refine (good_calls _ (str ls) (by rw [str_size]; unfold maxLen; omega) (HT.out.below g1)).mono ?_
    rw [HG.out]
    rintro e y2 ⟨rfl, b2⟩
    have i2 := i1.below b2
    have g2 := g1.trans (b2.mono g1.size)
    clear b2 g1 i1
    go_wp2_with fail
    refine (err_calls _ p _ 0 i2).mono ?_
    rintro e y3 ⟨rfl, rfl⟩
    go_wp2_with fail
    refine (rest_calls _ p _ 0 i2).mono ?_
    have hrest : rawT (str lt) 0 (str lt).size = (str lt, ⟨#[]⟩, 0) := by
      have h := rawT_app lt [] lt.length rfl
      rw [List.append_nil] at h
      rw [str_size, h]; rfl
    rw [hrest]
    rintro e y4 ⟨rfl, i4, o4⟩
    have G4 := Lib.hid (g2.trans (o4.below hp))
    clear o4 i4 g2 i2
    go_wp2
    go_ret
    exact ⟨rfl, G4.out⟩
  | false =>
    have HG := Lib.hid hg
    clear hg
    rw [if_neg (by simp), if_neg (by simp), failed, if_pos rfl]
    rintro e y1 ⟨rfl, i1, c1⟩
    have g1 := g8.trans (c1.below g8.size hp)
    clear c1 g8 i8
    go_wp2_with fail
    refine (good_calls _ (str ls) (by rw [str_size]; unfold maxLen; omega) (HT.out.below g1)).mono ?_
    rw [HG.out]
    rintro e y2 ⟨rfl, b2⟩
    have i2 := i1.below b2
    have G2 := Lib.hid (g1.trans (b2.mono g1.size))
    clear b2 g1 i1
    go_wp2_with fail
    refine (err_calls _ p _ 2 i2).mono ?_
    rintro e y3 ⟨rfl, rfl⟩
    clear i2
    go_wp2
    go_ret
    exact ⟨rfl, G2.out⟩

theorem first_eq : (Rows.laid_unicode_utf8_first : DataW Unit) = Lib.firstData := by kernel_rfl
theorem accept_eq : (Rows.laid_unicode_utf8_acceptRanges : DataW Unit) = Lib.acceptData := by kernel_rfl

def putCells (cs : Array Value) : Obj → Obj
  | .cells _ t frozen => .cells cs t frozen
  | o => o
/-- A world for the witness: the settled one, the two tables holding what the library's text lays. -/
noncomputable def laidWorld (os : Os) : World :=
  { World.holding Tryd.prog os ⟨#[], #[], []⟩ with heap := (((World.holding Tryd.prog os ⟨#[], #[], []⟩).heap.modify (Tryd.lays196_ren.g 3) (putCells (Lib.firstTab.map fun z => Value.int .u8 z).toArray)).modify (Tryd.lays196_ren.g 4) (putCells ((List.range 16).flatMap fun i => [Value.int .u8 (Lib.accLo i), Value.int .u8 (Lib.accHi i)]).toArray)) }
theorem laid_met (os : Os) : laidMet Tryd.prog Rows.wordBackRow.laid ((laidWorld os).forCall (fun _ _ => 0) ⟨#[], #[.string ByteArray.empty, .string ByteArray.empty], []⟩).memory :=
  laidMet_of_run' 8 (by kernel_rfl) (by kernel_rfl)
theorem reads (os : Os) {H : Type} (enc : TypeId × Value → H) : ∃ places, DataW.whole enc Tryd.prog ((laidWorld os).forCall (fun _ _ => 0) ⟨#[], #[.string ByteArray.empty, .string ByteArray.empty], []⟩).memory Tryd.f7.params.toList Rows.wordBackSpec.vars false (#[.string ByteArray.empty, .string ByteArray.empty] : Array Value).toList 8 = some ([.lit (.string []), .lit (.string [])], [], places) :=
  ⟨[], by kernel_rfl⟩

set_option maxRecDepth 100000 in
set_option maxHeartbeats 2000000 in
theorem lifted (os : Os) (started : os.Started) (H : Type) (enc : TypeId × Value → H) (F : Stop.Interp) :
    ReturnsInHanded {} Tryd.checked os 7 .any ((OpenSpec.ofChange Rows.wordBackSpec).preRow enc Tryd.prog Tryd.f7 Rows.wordBackRow.domain false Rows.wordBackRow.laid) (((OpenSpec.ofChange Rows.wordBackSpec).at F).post enc Tryd.prog Tryd.f7 false true false false) := by
  obtain ⟨places, hx⟩ := reads os enc
  refine returnsInHanded_of_row (C := Tryd.checked) (s := OpenSpec.ofChange Rows.wordBackSpec) own started (by kernel_rfl) Tryd.func7
    (witness_row_at (enc := enc) (C := Tryd.checked) false (laidWorld os) #[.string ByteArray.empty, .string ByteArray.empty] rfl (by kernel_rfl) (by kernel_rfl) (by kernel_rfl)
      (OpenSpec.preRow_of_cond 8 hx (by kernel_rfl) (fun k hk => by cases hk) (by kernel_rfl) (laid_met os))) ?_
  intro W base args ds gs before hval0 hW _ _ _ hL _ _
  have hval : ∀ (j : Nat) t v, Tryd.f7.params[j]? = some t → args[j]? = some v → Value.okWide Tryd.prog W .any base t v := hval0
  have hW' := hW
  obtain ⟨p, q, hA0, hV, rfl, hfz, hnd⟩ := hW
  have hA : DataW.TrodAll enc Tryd.prog W 0 (fun _ => true) true Tryd.f7.params.toList args.toList ds p := hA0
  rw [Tryd.params7] at hA hval
  obtain ⟨v0, vs0, d0, ds0, p0, q0, hargs, rfl, rfl, h0, r0⟩ := trodAll_cons hA
  obtain ⟨v1, vs1, d1, ds1, p1, q1, rfl, rfl, rfl, h1, r1⟩ := trodAll_cons r0
  obtain ⟨rfl, rfl, rfl⟩ := trodAll_nil r1
  obtain rfl : args = #[v0, v1] := by cases args; simp_all
  obtain ⟨rfl, rfl⟩ := trodVars_none hV
  obtain ⟨a0, rfl, rfl, rfl, w0⟩ := open_string Tryd.underlying9 (hval 0 9 v0 rfl rfl) h0
  obtain ⟨a1, rfl, rfl, rfl, w1⟩ := open_string Tryd.underlying9 (hval 1 9 v1 rfl rfl) h1
  clear hA0 hval0
  have hT : Tabs W := utf8Tabs_of_readsT (U8Types.of196 Tryd.lays196) ⟨by kernel_rfl, by kernel_rfl, by kernel_rfl, by kernel_rfl, by kernel_rfl, by kernel_rfl, by kernel_rfl⟩ (first_eq ▸ Lib.laidMet.reads hL (.tail _ (.head _))) (accept_eq ▸ Lib.laidMet.reads hL (.head _))
  refine (walk a0 w0 a1 w1 W  hT).mono fun e W' ⟨he, bel⟩ => ?_
  subst he
  exact ⟨_, rfl, _, _, _, [], _, [], hW', trodAll_mk1 (shut_bool Tryd.underlying4 _), (trodAll_cons_mk (shut_string Tryd.underlying9 w0) (trodAll_cons_mk (shut_string Tryd.underlying9 w1) trodAll_mk0)), rfl, bel.frame _, fun h => by cases h⟩

theorem said : Rows.WordBackSaid :=
  OpenClaim.holds_of_cond 7 Tryd.f7 rfl rfl rfl rfl rfl rfl rfl ⟨rfl, rfl, rfl, rfl, rfl⟩ rfl rfl rfl rfl rfl (by kernel_rfl) Tryd.func7 (by kernel_rfl)
    (of_decide_eq_true (by kernel_rfl)) (by unfold Func.isWrapper; first | (rw [if_pos (by decide +kernel)]; kernel_rfl) | (rw [if_neg (by decide +kernel)]; exact ⟨rfl, rfl⟩))
    (fun os started H enc _ F => by rw [OpenClaim.pre_eq_preRow]; exact lifted os started H enc F)

theorem plain (f : FuncId) (fn : Func) (hf : Tryd.pinned.checked.prog.funcNamed Tryd.f7.name = some f) (hfn : Tryd.pinned.checked.prog.funcs[f]? = some fn) :
    false = Tryd.pinned.checked.prog.looks [] ∧ ∀ (j : Nat) t, fn.params[j]? = some t → Tryd.pinned.checked.prog.wantsStandIn t = false := by
  obtain rfl : f = 7 := Option.some.inj ((show Tryd.prog.funcNamed Tryd.f7.name = some 7 by kernel_rfl).symm.trans hf) |>.symm
  obtain rfl : fn = Tryd.f7 := (Option.some.inj (Tryd.func7.symm.trans hfn)).symm
  refine ⟨by kernel_rfl, fun j t ht => ?_⟩
  rw [Tryd.params7] at ht
  have hm : t = 9 := by simpa using Array.mem_of_getElem? ht
  subst hm
  exact (show Tryd.prog.wantsStandIn 9 = false by kernel_rfl)

end Go.Proofs.YtgdbfdmnfndojaaDoor.wordBack
namespace Go.Proofs.YtgdbfdmnfndojaaDoor
/-- The statement. -/
theorem wordBack_holds : Rows.WordBackCardSaid :=
  Claim7.holds_tied_plain_at .later [] _ _ _ _ wordBack.said (fun _ h => by cases h) (by kernel_rfl) (fun _ h => by cases h) wordBack_row_tie rfl ⟨rfl, rfl⟩ (by kernel_rfl) rfl wordBack.plain (by kernel_rfl)
#print axioms wordBack_holds
end Go.Proofs.YtgdbfdmnfndojaaDoor
