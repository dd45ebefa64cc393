/-
  any bytes are taken as a string, and as two, as the document says.
  Its conditions: none beside those of the row itself (the two tables of unicode/utf8 start as the library's text lays them: the card ties them).
-/
import Derived.Test.YtgdbfdmnfndojaaDoorCards
import Derived.Test.YtgdbfdmnfndojaaDoorTie
import Derived.Test.YtgdbfdmnfndojaaDoorWord4
import Derived.ProofKit
import Derived.OpenShut
import Derived.ShutString
import Derived.ChangeOld
import Derived.Deep.DeepHandedRow
import Derived.Deep.DeepWitnessRowRef
import Derived.Lib.LaidU8T
import Derived.Lib.LaidTab
import Derived.Lib.LaidIn
namespace Go.Proofs.YtgdbfdmnfndojaaDoor.wordTakes
open Go.ChangeShapes Go.WideShapes Go.ChangeAt Go.RowKit Go.Lib
open Go.ChangeMaps (open_string shut_string)
set_option linter.unusedVariables false

theorem own : ownKnob Tryd.prog.godebug = none := by kernel_rfl

theorem drewN_below {B : Nat} {a w : World} (h : Below B a w) (n : Nat) : Below B a (w.drewN n) := ⟨h.os, h.tape, h.output, h.size, h.block⟩
theorem drewN_in {w : World} {p : Nat} {s : ByteArray} {x : Int} (h : InAt w p s x) (n : Nat) : InAt (w.drewN n) p s x := h

set_option maxHeartbeats 4000000 in
set_option maxRecDepth 100000 in
theorem walk (a0 : ByteArray) (w0 : a0.size ≤ maxLen) (w : World) (hT : Tabs w) :
    Calls Tryd.prog 4 #[.string a0] w fun e w' => e = .returned (.bool true) ∧ Below w.heap.size w w' := by
  have HT := Lib.hid hT
  clear hT
  go_enter Tryd.func4, Tryd.ntmps4
  go_wp2_with fail
  refine (cut_calls _ a0 100 w0).mono ?_
  rintro e v3 ⟨rfl, rfl⟩
  generalize a0.extract 0 100 = s at *
  clear w0
  obtain ⟨a, s1, x1, hk⟩ := takS s 0
  obtain ⟨b, s2, x2, hk2⟩ := takS s1 x1
  have HK := Lib.hid hk
  have HK2 := Lib.hid hk2
  clear hk hk2
  go_wp2_with fail
  refine (awake2_calls _ HT.out).mono ?_
  rintro e v2 ⟨rfl, b2⟩
  have t2 := HT.out.below b2
  clear HT
  go_wp2_with fail
  refine (over_calls _ _).mono ?_
  rintro e x8 ⟨rfl, rfl⟩
  have i8 := InAt.new v2 s
  have b8 := Below.next b2 (below_one v2 (.cells #[.string s, .int .i64 0] 54))
  have t8 := t2.below (below_one v2 (.cells #[.string s, .int .i64 0] 54))
  have hp : w.heap.size ≤ v2.heap.size := b2.size
  clear t2 b2
  generalize v2.alloc (.cells #[.string s, .int .i64 0] 54) = y0 at *
  generalize v2.heap.size = p at *
  go_wp2_with fail
  refine (takeS_calls _ p s 0 a s1 x1 HK.out i8 t8).mono ?_
  rintro e y1 ⟨rfl, i9, c9⟩
  have t9 := t8.chg i8 c9
  have b9 := b8.trans (c9.below b8.size hp)
  clear i8 c9 t8 b8
  go_wp2_with fail
  refine (r2take_calls _ s 0 a s1 x1 HK.out).mono ?_
  rintro e y2 ⟨rfl, b10⟩
  have i10 := i9.below b10
  have t10 := t9.below b10
  have B10 := Below.next b9 b10
  clear i9 t9 b9 b10
  have i11 := i10.below (below_one y2 (.cells #[.string s1, .int .i64 x1] 34))
  have t11 := t10.below (below_one y2 (.cells #[.string s1, .int .i64 x1] 34))
  have b11 := Below.next B10 (below_one y2 (.cells #[.string s1, .int .i64 x1] 34))
  have k11 := heap_alloc_new y2 (.cells #[.string s1, .int .i64 x1] 34)
  have hq : w.heap.size ≤ y2.heap.size := B10.size
  clear i10 t10 B10
  go_wp2_with fail
  generalize y2.alloc (.cells #[.string s1, .int .i64 x1] 34) = y3 at *
  generalize y2.heap.size = q at *
  obtain ⟨c0, c1, f0, f1⟩ := pair_cells k11
  have K11 := Lib.hid k11
  have I11 := Lib.hid i11
  have T11 := Lib.hid t11
  have B11 := Lib.hid b11
  clear k11 i11 t11 b11 f0 f1
  have hrec : ∀ x : Int, x = 0 ∨ ((x == 0) = false ∧ ¬ x = 0) := fun x => by by_cases h : x = 0; (· exact .inl h); exact .inr ⟨by simpa using h, h⟩
  rcases hrec x1 with hx | ⟨hx, hx'⟩
  case' inl => subst hx
  all_goals
    go_quiet (first
      | exact (err_calls _ p s1 _ (drewN_in I11.out _)).mono (fun e w' h => ⟨h.1, _, h.2.symm⟩)
      | exact (left_calls _ p s1 _ (drewN_in I11.out _)).mono (fun e w' h => ⟨h.1, _, h.2.symm⟩))
    have T12 : Hid (Tabs (y3.drewN nq)) := T11.out
    have B12 : Hid (Below w.heap.size w (y3.drewN nq)) := drewN_below B11.out nq
    have K12 : Hid ((y3.drewN nq).heap[q]? = some (.cells #[.string s1, .int .i64 _] 34 (0, 0))) := K11.out
    clear c0 c1 K11 I11 T11 B11
    generalize y3.drewN nq = y4 at *
    go_wp2_with fail
    refine (over_calls _ _).mono ?_
    rintro e y5 ⟨rfl, rfl⟩
    have i13 := InAt.new y4 s
    have h1 := below_one y4 (.cells #[.string s, .int .i64 0] 54)
    have t13 := T12.out.below h1
    have b13 := Below.next B12.out h1
    have hql : q < y4.heap.size := lt_of_block K12.out
    have k13 := (h1.block q hql).trans K12.out
    have hp2 : w.heap.size ≤ y4.heap.size := B12.out.size
    have hs13 := h1.size
    clear h1 T12 B12 K12
    generalize y4.alloc (.cells #[.string s, .int .i64 0] 54) = y5 at *
    generalize y4.heap.size = p2 at *
    rcases hrec x2 with hy | ⟨hy, hy'⟩
    · subst hy
      go_wp2_with fail
      refine (takePair_calls _ p2 s 0 a s1 _ HK.out b s2 0 HK2.out i13 t13).mono ?_
      rw [if_pos rfl, if_pos rfl]
      rintro e y6 ⟨rfl, i14, c14⟩
      have b14 := b13.trans (c14.below b13.size hp2)
      have k14 := (c14.block q (Nat.lt_of_lt_of_le hql hs13) (fun e => by injection e; omega)).trans k13
      clear i13 t13 b13 k13 c14 hs13
      obtain ⟨c0, c1, f0, f1⟩ := pair_cells k14
      have B14 := Lib.hid b14
      clear k14 b14 f0 f1
      go_wp2_with fail
      refine (r2take_calls _ s1 _ b s2 0 HK2.out).mono ?_
      rintro e y7 ⟨rfl, h15⟩
      have i15 := i14.below h15
      have b15 := Below.next B14.out h15
      clear i14 B14 h15 c0 c1
      have h2 := below_one y7 (.cells #[.string s2, .int .i64 0] 34)
      have I16 := Lib.hid (i15.below h2)
      have B16 := Lib.hid (Below.next b15 h2)
      have k16 := heap_alloc_new y7 (.cells #[.string s2, .int .i64 0] 34)
      obtain ⟨d0, d1, g0, g1⟩ := pair_cells k16
      clear i15 b15 h2 k16 g0 g1
      go_upto_region 14 with fail
      generalize y7.alloc (.cells #[.string s2, .int .i64 0] 34) = y8 at *
      go_quiet (first
        | exact (err_calls _ p2 s2 _ (drewN_in I16.out _)).mono (fun e w' h => ⟨h.1, _, h.2.symm⟩)
        | exact (left_calls _ p2 s2 _ (drewN_in I16.out _)).mono (fun e w' h => ⟨h.1, _, h.2.symm⟩))
      have B17 : Hid (Below w.heap.size w (y8.drewN nq)) := drewN_below B16.out nq
      generalize y8.drewN nq = y9 at *
      clear B16 I16 d0 d1
      go_wp2
      go_ret
      exact ⟨rfl, B17.out⟩
    · skip
      go_wp2_with fail
      refine (takePair_calls _ p2 s 0 a s1 _ HK.out b s2 x2 HK2.out i13 t13).mono ?_
      rw [if_neg hy', if_neg hy']
      rintro e y6 ⟨rfl, i14, c14⟩
      have b14 := b13.trans (c14.below b13.size hp2)
      have k14 := (c14.block q (Nat.lt_of_lt_of_le hql hs13) (fun e => by injection e; omega)).trans k13
      clear i13 t13 b13 k13 c14 hs13
      obtain ⟨c0, c1, f0, f1⟩ := pair_cells k14
      have B14 := Lib.hid b14
      clear k14 b14 f0 f1
      go_wp2_with fail
      refine (r2take_calls _ s1 _ b s2 x2 HK2.out).mono ?_
      rintro e y7 ⟨rfl, h15⟩
      have i15 := i14.below h15
      have b15 := Below.next B14.out h15
      clear i14 B14 h15 c0 c1
      have h2 := below_one y7 (.cells #[.string s2, .int .i64 x2] 34)
      have I16 := Lib.hid (i15.below h2)
      have B16 := Lib.hid (Below.next b15 h2)
      have k16 := heap_alloc_new y7 (.cells #[.string s2, .int .i64 x2] 34)
      obtain ⟨d0, d1, g0, g1⟩ := pair_cells k16
      clear i15 b15 h2 k16 g0 g1
      go_upto_region 13 with fail
      generalize y7.alloc (.cells #[.string s2, .int .i64 x2] 34) = y8 at *
      go_quiet (first
        | exact (err_calls _ p2 s2 _ (drewN_in I16.out _)).mono (fun e w' h => ⟨h.1, _, h.2.symm⟩)
        | exact (left_calls _ p2 s2 _ (drewN_in I16.out _)).mono (fun e w' h => ⟨h.1, _, h.2.symm⟩))
      have B17 : Hid (Below w.heap.size w (y8.drewN nq)) := drewN_below B16.out nq
      generalize y8.drewN nq = y9 at *
      clear B16 I16 d0 d1
      go_wp2
      go_ret
      exact ⟨rfl, B17.out⟩

theorem first_eq : (Rows.laid_unicode_utf8_first : DataW Unit) = Lib.firstData := by kernel_rfl
theorem accept_eq : (Rows.laid_unicode_utf8_acceptRanges : DataW Unit) = Lib.acceptData := by kernel_rfl

def putCells (cs : Array Value) : Obj → Obj
  | .cells _ t frozen => .cells cs t frozen
  | o => o
/-- A world for the witness: the settled one, the two tables holding what the library's text lays. -/
noncomputable def laidWorld (os : Os) : World :=
  { World.holding Tryd.prog os ⟨#[], #[], []⟩ with heap := (((World.holding Tryd.prog os ⟨#[], #[], []⟩).heap.modify (Tryd.lays196_ren.g 3) (putCells (Lib.firstTab.map fun z => Value.int .u8 z).toArray)).modify (Tryd.lays196_ren.g 4) (putCells ((List.range 16).flatMap fun i => [Value.int .u8 (Lib.accLo i), Value.int .u8 (Lib.accHi i)]).toArray)) }
theorem laid_met (os : Os) : laidMet Tryd.prog Rows.wordTakesRow.laid ((laidWorld os).forCall (fun _ _ => 0) ⟨#[], #[.string ByteArray.empty], []⟩).memory :=
  laidMet_of_run' 8 (by kernel_rfl) (by kernel_rfl)
theorem reads (os : Os) {H : Type} (enc : TypeId × Value → H) : ∃ places, DataW.whole enc Tryd.prog ((laidWorld os).forCall (fun _ _ => 0) ⟨#[], #[.string ByteArray.empty], []⟩).memory Tryd.f4.params.toList Rows.wordTakesSpec.vars false (#[.string ByteArray.empty] : Array Value).toList 8 = some ([.lit (.string [])], [], places) :=
  ⟨[], by kernel_rfl⟩

set_option maxRecDepth 100000 in
set_option maxHeartbeats 2000000 in
theorem lifted (os : Os) (started : os.Started) (H : Type) (enc : TypeId × Value → H) (F : Stop.Interp) :
    ReturnsInHanded {} Tryd.checked os 4 .any ((OpenSpec.ofChange Rows.wordTakesSpec).preRow enc Tryd.prog Tryd.f4 Rows.wordTakesRow.domain false Rows.wordTakesRow.laid) (((OpenSpec.ofChange Rows.wordTakesSpec).at F).post enc Tryd.prog Tryd.f4 false true false false) := by
  obtain ⟨places, hx⟩ := reads os enc
  refine returnsInHanded_of_row (C := Tryd.checked) (s := OpenSpec.ofChange Rows.wordTakesSpec) own started (by kernel_rfl) Tryd.func4
    (witness_row_at (enc := enc) (C := Tryd.checked) false (laidWorld os) #[.string ByteArray.empty] rfl (by kernel_rfl) (by kernel_rfl) (by kernel_rfl)
      (OpenSpec.preRow_of_cond 8 hx (by kernel_rfl) (fun k hk => by cases hk) (by kernel_rfl) (laid_met os))) ?_
  intro W base args ds gs before hval0 hW _ _ _ hL _ _
  have hval : ∀ (j : Nat) t v, Tryd.f4.params[j]? = some t → args[j]? = some v → Value.okWide Tryd.prog W .any base t v := hval0
  have hW' := hW
  obtain ⟨p, q, hA0, hV, rfl, hfz, hnd⟩ := hW
  have hA : DataW.TrodAll enc Tryd.prog W 0 (fun _ => true) true Tryd.f4.params.toList args.toList ds p := hA0
  rw [Tryd.params4] at hA hval
  obtain ⟨v0, vs0, d0, ds0, p0, q0, hargs, rfl, rfl, h0, r0⟩ := trodAll_cons hA
  obtain ⟨rfl, rfl, rfl⟩ := trodAll_nil r0
  obtain rfl : args = #[v0] := by cases args; simp_all
  obtain ⟨rfl, rfl⟩ := trodVars_none hV
  obtain ⟨a0, rfl, rfl, rfl, w0⟩ := open_string Tryd.underlying9 (hval 0 9 v0 rfl rfl) h0
  clear hA0 hval0
  have hT : Tabs W := utf8Tabs_of_readsT (U8Types.of196 Tryd.lays196) ⟨by kernel_rfl, by kernel_rfl, by kernel_rfl, by kernel_rfl, by kernel_rfl, by kernel_rfl, by kernel_rfl⟩ (first_eq ▸ Lib.laidMet.reads hL (.tail _ (.head _))) (accept_eq ▸ Lib.laidMet.reads hL (.head _))
  refine (walk a0 w0 W  hT).mono fun e W' ⟨he, bel⟩ => ?_
  subst he
  exact ⟨_, rfl, _, _, _, [], _, [], hW', trodAll_mk1 (shut_bool Tryd.underlying4 _), (trodAll_cons_mk (shut_string Tryd.underlying9 w0) trodAll_mk0), rfl, bel.frame _, fun h => by cases h⟩

theorem said : Rows.WordTakesSaid :=
  OpenClaim.holds_of_cond 4 Tryd.f4 rfl rfl rfl rfl rfl rfl rfl ⟨rfl, rfl, rfl, rfl, rfl⟩ rfl rfl rfl rfl rfl (by kernel_rfl) Tryd.func4 (by kernel_rfl)
    (of_decide_eq_true (by kernel_rfl)) (by unfold Func.isWrapper; first | (rw [if_pos (by decide +kernel)]; kernel_rfl) | (rw [if_neg (by decide +kernel)]; exact ⟨rfl, rfl⟩))
    (fun os started H enc _ F => by rw [OpenClaim.pre_eq_preRow]; exact lifted os started H enc F)

theorem plain (f : FuncId) (fn : Func) (hf : Tryd.pinned.checked.prog.funcNamed Tryd.f4.name = some f) (hfn : Tryd.pinned.checked.prog.funcs[f]? = some fn) :
    false = Tryd.pinned.checked.prog.looks [] ∧ ∀ (j : Nat) t, fn.params[j]? = some t → Tryd.pinned.checked.prog.wantsStandIn t = false := by
  obtain rfl : f = 4 := Option.some.inj ((show Tryd.prog.funcNamed Tryd.f4.name = some 4 by kernel_rfl).symm.trans hf) |>.symm
  obtain rfl : fn = Tryd.f4 := (Option.some.inj (Tryd.func4.symm.trans hfn)).symm
  refine ⟨by kernel_rfl, fun j t ht => ?_⟩
  rw [Tryd.params4] at ht
  have hm : t = 9 := by simpa using Array.mem_of_getElem? ht
  subst hm
  exact (show Tryd.prog.wantsStandIn 9 = false by kernel_rfl)

end Go.Proofs.YtgdbfdmnfndojaaDoor.wordTakes
namespace Go.Proofs.YtgdbfdmnfndojaaDoor
/-- The statement. -/
theorem wordTakes_holds : Rows.WordTakesCardSaid :=
  Claim7.holds_tied_plain_at .later [] _ _ _ _ wordTakes.said (fun _ h => by cases h) (by kernel_rfl) (fun _ h => by cases h) wordTakes_row_tie rfl ⟨rfl, rfl⟩ (by kernel_rfl) rfl wordTakes.plain (by kernel_rfl)
#print axioms wordTakes_holds
end Go.Proofs.YtgdbfdmnfndojaaDoor
