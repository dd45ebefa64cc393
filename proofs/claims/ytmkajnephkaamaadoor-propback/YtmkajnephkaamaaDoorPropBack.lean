/-
  PropBack answers true for every list of properties, kind of a packet, will and tail: properties that may be there are put, and taken again, and what is behind them is left.
  Its conditions: none beside those of the row itself (the two tables of unicode/utf8 start as the library's text lays them: the card ties them).
-/
import Derived.Test.YtmkajnephkaamaaDoorCards
import Derived.Test.YtmkajnephkaamaaDoorTie
import Derived.Test.YtmkajnephkaamaaDoorProp22
import Derived.ProofKit
import Derived.OpenShut
import Derived.ShutString
import Derived.ChangeOld
import Derived.Deep.DeepHandedRow
import Derived.Deep.DeepWitnessRowRef
import Derived.Lib.LaidU8T
import Derived.Lib.LaidTab
import Derived.Lib.LaidIn
namespace Go.Proofs.YtmkajnephkaamaaDoor.propBack
open Go.ChangeShapes Go.WideShapes Go.ChangeAt Go.RowKit Go.Lib
open Go.ChangeMaps (open_string shut_string)
set_option linter.unusedVariables false

theorem own : ownKnob Tryd.prog.godebug = none := by kernel_rfl
theorem laidOut : laidOutB Tryd.prog = true := by kernel_rfl

set_option maxHeartbeats 4000000 in
set_option maxRecDepth 100000 in
theorem walk (v0 : Value) (P : List Pr) (a1 : Int) (w1 : (Lit.int .i64 a1).wf = true) (a2 : Bool) (a3 : ByteArray) (w3 : a3.size ≤ maxLen) (w : World) (hP : PropsIn w v0 P) (hT : Tabs w) :
    Calls Tryd.prog 5 #[v0, .int .i64 a1, .bool a2, .string a3] w fun e w' => e = .returned (.bool true) ∧ Below w.heap.size w w' := by
  clear w1
  have HT := Lib.hid hT
  have hsl : ∃ a l c, v0 = .slice a l c := by obtain ⟨A, cap, e, _⟩ := hP.at_; exact ⟨_, _, _, e⟩
  obtain ⟨sa, sl, sc, rfl⟩ := hsl
  clear hT
  go_enter Tryd.func5, Tryd.ntmps5
  go_wp2_with fail
  refine (cut_calls _ a3 20 w3).mono ?_
  rintro e y0 ⟨rfl, rfl⟩
  have htl : (a3.extract 0 20).size ≤ 20 := by simp [ByteArray.size_extract]; omega
  obtain ⟨tl, htl'⟩ : ∃ l, a3.extract 0 20 = str l := ⟨_, ba_str _⟩
  rw [htl'] at htl ⊢
  rw [str_size] at htl
  clear htl' w3
  go_wp2_with fail
  refine (awake3_calls _ HT.out).mono ?_
  rintro e y1 ⟨rfl, b1⟩
  have hP1 : PropsIn y1 (.slice sa sl sc) P := ⟨hP.at_.below b1, hP.len, hP.num⟩
  obtain ⟨hfine, hlen8⟩ := right_ok a1 a2 P hP.num
  have HB1 := Lib.hid b1
  clear hP b1
  go_wp2_with fail
  refine (right_calls _ _ P a1 a2 hP1).mono ?_
  rintro e y2 ⟨v, rfl, hown, b2⟩
  clear hP1
  generalize rightL a1 a2 P = X at *
  obtain ⟨va, vc, rfl⟩ := hown.form
  have hXok := fine_ok _ X [] hfine
  have hrun := run_all _ X hfine
  have hbl := bodyL_len X hXok
  have htk := take_back (placeN a1 a2) X tl (by omega)
  rw [hrun] at htk
  have hbn := below_one y2 (.cells #[.slice none 0 0] 42)
  have ho := OutAt.new y2
  have hown2 := hown.below hbn
  have hlt1 : ∀ g, (Value.slice va X.length vc).ownBlock = some g → g < y2.heap.size := fun g hg => (World.ownsRow.lt hown g hg).2
  have hzy := (Below.next HB1.out b2).size
  have HB2 := Lib.hid (Below.next (Below.next HB1.out b2) hbn)
  have HO := Lib.hid ho
  have HOWN := Lib.hid hown2
  have HL1 := Lib.hid hlt1
  have HXOK := Lib.hid hXok
  have HTK := Lib.hid htk
  have hpl : (propsL X).length ≤ 2000000 := by unfold propsL; rw [List.length_append]; have := varb_len 3 (bodyL X).length; omega
  clear hbn ho hown2 hlt1 b2 hown hXok htk hrun hfine HB1 hbl
  go_wp2_with fail
  generalize y2.alloc (.cells #[.slice none 0 0] 42) = y3 at *
  generalize y2.heap.size = o at *
  refine (put3_calls _ o none [] _ X HOWN.out.props HXOK.out (by omega) HO.out (by decide)).mono ?_
  rintro e y4 ⟨rfl, r, h4, s4⟩
  rw [List.nil_append] at h4
  have hol : o < y3.heap.size := HO.out.lt
  have hkeep : ∀ (wx : World) (ra rb : Option Nat), Step y3 wx o none rb → OwnP y1.heap.size 47 wx (.slice va X.length vc) X := by
    intro wx ra rb hs
    have h0 := HOWN.out
    refine ⟨h0.1, ?_⟩
    rcases h0.2 with h | ⟨g, cap, cur, hv, hB, hg, rest⟩
    · exact .inl h
    · refine .inr ⟨g, cap, cur, hv, hB, (hs.block g (lt_of_block hg) ?_ (by simp)).trans hg, rest⟩
      have := HL1.out g (by rw [hv]; rfl)
      omega
  have HKEEP := Lib.hid hkeep
  have HS4 := Lib.hid s4
  clear hkeep s4 HO HOWN HL1
  go_wp2_with fail
  refine (raw_calls _ o r _ (str tl) h4 (by rw [str_size]; omega)).mono ?_
  rw [str_data]
  rintro e y5 ⟨rfl, r5, h5, s5⟩
  have s35 := HS4.out.trans s5
  have hown5 := HKEEP.out y5 none r5 s35
  have HB5 := Lib.hid (HB2.out.trans (s35.below HB2.out.size hzy (fun g hg => by cases hg)))
  have hz5 := s35.size
  clear h4 s5 s35 HS4 HKEEP HB2
  go_wp2_with fail
  refine (text_calls _ o r5 _ h5).mono ?_
  rintro e y6 ⟨rfl, rfl⟩
  clear h5
  generalize propsL X ++ tl = D at *
  go_wp2_with fail
  refine (over_calls _ _).mono ?_
  rintro e y6 ⟨rfl, rfl⟩
  have i6 := InAt.new y5 (str D)
  have b6 := below_one y5 (.cells #[.string (str D), .int .i64 0] 63)
  have hown6 := hown5.below b6
  have HB6 := Lib.hid (Below.next HB5.out b6)
  have ht6 := HT.out.below HB6.out
  have hl5 : ∀ g, (Value.slice va X.length vc).ownBlock = some g → g < y5.heap.size := fun g hg => (World.ownsRow.lt hown5 g hg).2
  have HL5 := Lib.hid hl5
  have hz6 := HB5.out.size
  clear hown5 b6 HB5 HT hl5
  generalize y5.alloc (.cells #[.string (str D), .int .i64 0] 63) = y6 at *
  generalize y5.heap.size = p at *
  go_wp2_with fail
  refine (take3_calls _ p _ 0 a1 a2 i6 ht6).mono ?_
  rw [HTK.out]
  rintro e y7 ⟨u, rfl, hownu, _, i7, c7⟩
  dsimp only at hownu i7
  obtain ⟨ua, uc, rfl⟩ := hownu.form
  have hown7 : OwnP y1.heap.size 47 y7 (.slice va X.length vc) X := by
    refine ⟨hown6.1, ?_⟩
    rcases hown6.2 with h | ⟨g, cap, cur, hv, hB, hg, rest⟩
    · exact .inl h
    · refine .inr ⟨g, cap, cur, hv, hB, (c7.block g (lt_of_block hg) ?_).trans hg, rest⟩
      have := HL5.out g (by rw [hv]; rfl)
      intro e; injection e; omega
  have HB7 := Lib.hid (HB6.out.trans (c7.below HB6.out.size hz6))
  have hpu := hownu.props
  have hpx := hown7.props
  clear hownu hown7 hown6 c7 HB6 i6 ht6 HL5 HTK
  go_wp2_with fail
  refine (told_calls _ _ X hpx (by omega)).mono ?_
  rintro e y8 ⟨t, rfl, hownt, b8⟩
  obtain ⟨ta, tc, rfl⟩ := hownt.form
  have hpu8 := hpu.below b8
  have i8 := i7.below b8
  have HB8 := Lib.hid (HB7.out.trans (b8.mono HB7.out.size))
  clear hpu hpx b8 HB7 i7
  go_wp2_with fail
  refine (same_calls _ _ _ X hpu8 hownt.props (by omega)).mono ?_
  rintro e y9 ⟨rfl, b9⟩
  have i9 := i8.below b9
  have HB9 := Lib.hid (HB8.out.trans (b9.mono HB8.out.size))
  clear hpu8 hownt b9 HB8 i8
  go_wp2_with fail
  refine (err_calls _ p (str tl) 0 i9).mono ?_
  rintro e y10 ⟨rfl, rfl⟩
  have hrr : rawT (str tl) 0 (str tl).size = (str tl, str [], 0) := by
    have := rawT_app tl [] tl.length rfl
    rw [List.append_nil] at this
    rw [str_size]; exact this
  have hcb : p < y9.heap.size := i9.lt
  go_wp2_with fail
  refine (rest_calls _ p (str tl) 0 i9).mono ?_
  rw [hrr]
  rintro e y11 ⟨rfl, i11, o11⟩
  have HB11 := Lib.hid (HB9.out.trans ((Chg.of_only o11).below HB9.out.size hz6))
  clear i9 i11 o11 HB9 hrr
  go_wp2
  go_ret
  exact ⟨rfl, HB11.out⟩

theorem first_eq : (Rows.laid_unicode_utf8_first : DataW Unit) = Lib.firstData := by kernel_rfl
theorem accept_eq : (Rows.laid_unicode_utf8_acceptRanges : DataW Unit) = Lib.acceptData := by kernel_rfl

def putCells (cs : Array Value) : Obj → Obj
  | .cells _ t frozen => .cells cs t frozen
  | o => o
/-- A world for the witness: the settled one, the two tables holding what the library's text lays. -/
noncomputable def laidWorld (os : Os) : World :=
  { World.holding Tryd.prog os ⟨#[], #[], []⟩ with heap := (((World.holding Tryd.prog os ⟨#[], #[], []⟩).heap.modify (Tryd.lays196_ren.g 3) (putCells (Lib.firstTab.map fun z => Value.int .u8 z).toArray)).modify (Tryd.lays196_ren.g 4) (putCells ((List.range 16).flatMap fun i => [Value.int .u8 (Lib.accLo i), Value.int .u8 (Lib.accHi i)]).toArray)) }
theorem laid_met (os : Os) : laidMet Tryd.prog Rows.propBackRow.laid ((laidWorld os).forCall (fun _ _ => 0) ⟨#[], #[.slice none 0 0, .int .i64 0, .bool false, .string ByteArray.empty], []⟩).memory :=
  laidMet_of_run' 8 (by kernel_rfl) (by kernel_rfl)
theorem reads (os : Os) {H : Type} (enc : TypeId × Value → H) : ∃ places, DataW.whole enc Tryd.prog ((laidWorld os).forCall (fun _ _ => 0) ⟨#[], #[.slice none 0 0, .int .i64 0, .bool false, .string ByteArray.empty], []⟩).memory Tryd.f5.params.toList Rows.propBackSpec.vars false (#[.slice none 0 0, .int .i64 0, .bool false, .string ByteArray.empty] : Array Value).toList 8 = some ([.nil, .lit (.int .i64 0), .lit (.bool false), .lit (.string [])], [], places) :=
  ⟨[], by kernel_rfl⟩

set_option maxRecDepth 100000 in
set_option maxHeartbeats 2000000 in
theorem lifted (os : Os) (started : os.Started) (H : Type) (enc : TypeId × Value → H) (F : Stop.Interp) :
    ReturnsInHanded {} Tryd.checked os 5 .any ((OpenSpec.ofChange Rows.propBackSpec).preRow enc Tryd.prog Tryd.f5 Rows.propBackRow.domain false Rows.propBackRow.laid) (((OpenSpec.ofChange Rows.propBackSpec).at F).post enc Tryd.prog Tryd.f5 false true false false) := by
  obtain ⟨places, hx⟩ := reads os enc
  refine returnsInHanded_of_row (C := Tryd.checked) (s := OpenSpec.ofChange Rows.propBackSpec) own started (by kernel_rfl) Tryd.func5
    (witness_row_at (enc := enc) (C := Tryd.checked) false (laidWorld os) #[.slice none 0 0, .int .i64 0, .bool false, .string ByteArray.empty] rfl (by kernel_rfl) (by kernel_rfl) (by kernel_rfl)
      (OpenSpec.preRow_of_cond 8 hx (by kernel_rfl) (fun k hk => by cases hk) (by kernel_rfl) (laid_met os))) ?_
  intro W base args ds gs before hval0 hW _ _ _ hL _ _
  have hval : ∀ (j : Nat) t v, Tryd.f5.params[j]? = some t → args[j]? = some v → Value.okWide Tryd.prog W .any base t v := hval0
  have hW' := hW
  obtain ⟨p, q, hA0, hV, rfl, hfz, hnd⟩ := hW
  have hA : DataW.TrodAll enc Tryd.prog W 0 (fun _ => true) true Tryd.f5.params.toList args.toList ds p := hA0
  rw [Tryd.params5] at hA hval
  obtain ⟨v0, vs0, d0, ds0, p0, q0, hargs, rfl, rfl, h0, r0⟩ := trodAll_cons hA
  obtain ⟨v1, vs1, d1, ds1, p1, q1, rfl, rfl, rfl, h1, r1⟩ := trodAll_cons r0
  obtain ⟨v2, vs2, d2, ds2, p2, q2, rfl, rfl, rfl, h2, r2⟩ := trodAll_cons r1
  obtain ⟨v3, vs3, d3, ds3, p3, q3, rfl, rfl, rfl, h3, r3⟩ := trodAll_cons r2
  obtain ⟨rfl, rfl, rfl⟩ := trodAll_nil r3
  obtain rfl : args = #[v0, v1, v2, v3] := by cases args; simp_all
  obtain ⟨rfl, rfl⟩ := trodVars_none hV
  have k0 := h0
  have lt0 : ∀ x ∈ p0, x.block < W.heap.size := by obtain ⟨m, hm⟩ := k0; exact DataW.trod_lt m _ _ _ hm
  obtain ⟨a0, w0⟩ := open_props (hval 0 26 v0 rfl rfl) h0
  obtain ⟨a1, rfl, rfl, rfl, w1⟩ := open_int Tryd.underlying3 (hval 1 3 v1 rfl rfl) h1
  obtain ⟨a2, rfl, rfl, rfl⟩ := open_bool Tryd.underlying4 (hval 2 4 v2 rfl rfl) h2
  obtain ⟨a3, rfl, rfl, rfl, w3⟩ := open_string Tryd.underlying9 (hval 3 9 v3 rfl rfl) h3
  clear hA0 hval0
  have hT : Tabs W := utf8Tabs_of_readsT (U8Types.of196 Tryd.lays196) ⟨by kernel_rfl, by kernel_rfl, by kernel_rfl, by kernel_rfl, by kernel_rfl, by kernel_rfl, by kernel_rfl⟩ (first_eq ▸ Lib.laidMet.reads hL (.tail _ (.head _))) (accept_eq ▸ Lib.laidMet.reads hL (.head _))
  refine (walk v0 a0 a1 w1 a2 a3 w3 W w0 hT).mono fun e W' ⟨he, bel⟩ => ?_
  subst he
  exact ⟨_, rfl, _, _, _, [], _, [], hW', trodAll_mk1 (shut_bool Tryd.underlying4 _), (trodAll_cons_mk (Below.trod laidOut (by kernel_rfl) (of_decide_eq_true (by kernel_rfl)) k0 bel lt0) (trodAll_cons_mk (shut_int Tryd.underlying3 w1) (trodAll_cons_mk (shut_bool Tryd.underlying4 a2) (trodAll_cons_mk (shut_string Tryd.underlying9 w3) trodAll_mk0)))), rfl, bel.frame _, fun h => by cases h⟩

theorem said : Rows.PropBackSaid :=
  OpenClaim.holds_of_cond 5 Tryd.f5 rfl rfl rfl rfl rfl rfl rfl ⟨rfl, rfl, rfl, rfl, rfl⟩ rfl rfl rfl rfl rfl (by kernel_rfl) Tryd.func5 (by kernel_rfl)
    (of_decide_eq_true (by kernel_rfl)) (by unfold Func.isWrapper; first | (rw [if_pos (by decide +kernel)]; kernel_rfl) | (rw [if_neg (by decide +kernel)]; exact ⟨rfl, rfl⟩))
    (fun os started H enc _ F => by rw [OpenClaim.pre_eq_preRow]; exact lifted os started H enc F)

theorem plain (f : FuncId) (fn : Func) (hf : Tryd.pinned.checked.prog.funcNamed Tryd.f5.name = some f) (hfn : Tryd.pinned.checked.prog.funcs[f]? = some fn) :
    false = Tryd.pinned.checked.prog.looks [] ∧ ∀ (j : Nat) t, fn.params[j]? = some t → Tryd.pinned.checked.prog.wantsStandIn t = false := by
  obtain rfl : f = 5 := Option.some.inj ((show Tryd.prog.funcNamed Tryd.f5.name = some 5 by kernel_rfl).symm.trans hf) |>.symm
  obtain rfl : fn = Tryd.f5 := (Option.some.inj (Tryd.func5.symm.trans hfn)).symm
  refine ⟨by kernel_rfl, fun j t ht => ?_⟩
  rw [Tryd.params5] at ht
  have hm : t = 26 ∨ t = 3 ∨ t = 4 ∨ t = 9 := by simpa using Array.mem_of_getElem? ht
  rcases hm with rfl | rfl | rfl | rfl
  · exact (show Tryd.prog.wantsStandIn 26 = false by kernel_rfl)
  · exact (show Tryd.prog.wantsStandIn 3 = false by kernel_rfl)
  · exact (show Tryd.prog.wantsStandIn 4 = false by kernel_rfl)
  · exact (show Tryd.prog.wantsStandIn 9 = false by kernel_rfl)

end Go.Proofs.YtmkajnephkaamaaDoor.propBack
namespace Go.Proofs.YtmkajnephkaamaaDoor
/-- The statement. -/
theorem propBack_holds : Rows.PropBackCardSaid :=
  Claim7.holds_tied_plain_at .later [] _ _ _ _ propBack.said (fun _ h => by cases h) (by kernel_rfl) (fun _ h => by cases h) propBack_row_tie rfl ⟨rfl, rfl⟩ (by kernel_rfl) rfl propBack.plain (by kernel_rfl)
#print axioms propBack_holds
end Go.Proofs.YtmkajnephkaamaaDoor
