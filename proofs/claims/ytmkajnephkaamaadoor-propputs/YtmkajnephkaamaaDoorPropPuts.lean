/-
  PropPuts answers true for every list of properties, identifier, kind of a packet and will: their bytes, the first of an identifier, its number, its kind and where it may be are what the document says.
  Its conditions: none beside those of the row itself (the two tables of unicode/utf8 start as the library's text lays them: the card ties them).
-/
import Derived.Test.YtmkajnephkaamaaDoorCards
import Derived.Test.YtmkajnephkaamaaDoorTie
import Derived.Test.YtmkajnephkaamaaDoorProp18
import Derived.ProofKit
import Derived.OpenShut
import Derived.ShutString
import Derived.ChangeOld
import Derived.Deep.DeepHandedRow
import Derived.Deep.DeepWitnessRowRef
import Derived.Lib.LaidU8T
import Derived.Lib.LaidTab
import Derived.Lib.LaidIn
namespace Go.Proofs.YtmkajnephkaamaaDoor.propPuts
open Go.ChangeShapes Go.WideShapes Go.ChangeAt Go.RowKit Go.Lib
open Go.ChangeMaps (open_string shut_string)
set_option linter.unusedVariables false

theorem own : ownKnob Tryd.prog.godebug = none := by kernel_rfl
theorem laidOut : laidOutB Tryd.prog = true := by kernel_rfl

theorem puts_below {w : World} {o bx : Nat} {r : Option Nat} {D : List UInt8} {v : Value} {X : List Pr} {i : Int} {k : Nat} {f : Pr} {b : Bool} {wr wy : World} (h : PutsJ w o bx r D v X i k f b wr) (hb : Below wr.heap.size wr wy) : PutsJ w o bx r D v X i k f b wy :=
  ⟨h.own.below hb, h.out.below hb, h.box.below hb, h.fnd, Below.next h.bel hb, h.bxw, h.ne1, h.ne2, h.ne3⟩

set_option maxHeartbeats 8000000 in
set_option maxRecDepth 100000 in
theorem walk (v0 : Value) (P : List Pr) (a1 : Int) (w1 : (Lit.int .i64 a1).wf = true) (a2 : Int) (w2 : (Lit.int .i64 a2).wf = true) (a3 : Bool) (w : World) (hP : PropsIn w v0 P) (hT : Tabs w) :
    Calls Tryd.prog 4 #[v0, .int .i64 a1, .int .i64 a2, .bool a3] w fun e w' => e = .returned (.bool true) ∧ Below w.heap.size w w' := by
  clear w1 w2
  have HT := Lib.hid hT
  have hsl : ∃ a l c, v0 = .slice a l c := by obtain ⟨A, cap, e, _⟩ := hP.at_; exact ⟨_, _, _, e⟩
  obtain ⟨sa, sl, sc, rfl⟩ := hsl
  clear hT
  go_enter Tryd.func4, Tryd.ntmps4
  go_wp2_with fail
  refine (few_calls _ _ P hP).mono ?_
  rintro e x1 ⟨v, rfl, hown, b1⟩
  have hXok := few_ok P hP.num
  have hXl := few_len P
  generalize fewL P = X at *
  obtain ⟨va, vc, rfl⟩ := hown.form
  clear hP
  have hbn := below_one x1 (.cells #[.slice none 0 0] 42)
  have ho := OutAt.new x1
  have hown2 := hown.below hbn
  have hlt1 : ∀ g, (Value.slice va X.length vc).ownBlock = some g → g < x1.heap.size := fun g hg => (World.ownsRow.lt hown g hg).2
  have hz1 := b1.size
  have HB1 := Lib.hid (Below.next b1 hbn)
  have HO := Lib.hid ho
  have HOWN := Lib.hid hown2
  have HL1 := Lib.hid hlt1
  have HXOK := Lib.hid hXok
  clear hbn ho hown2 hlt1 b1 hown hXok
  go_wp2_with fail
  generalize x1.alloc (.cells #[.slice none 0 0] 42) = x2 at *
  generalize x1.heap.size = o at *
  refine (awake3_calls _ (HT.out.below HB1.out)).mono ?_
  rintro e x3 ⟨rfl, b3⟩
  have ho3 := HO.out.below b3
  have hown3 := HOWN.out.below b3
  have HB3 := Lib.hid (Below.next HB1.out b3)
  have hol : o < x2.heap.size := HO.out.lt
  have hz3 := b3.size
  clear b3 HO HOWN HB1
  go_wp2_with fail
  refine (put3_calls _ o none [] _ X hown3.props (fun p hp => (HXOK.out p hp).1) (by omega) ho3 (by decide)).mono ?_
  rintro e x4 ⟨rfl, r, h4, s4⟩
  rw [List.nil_append] at h4
  have hown4 : OwnP w.heap.size 47 x4 (.slice va X.length vc) X := by
    refine ⟨hown3.1, ?_⟩
    rcases hown3.2 with h | ⟨g, cap, cur, hv, hB, hg, rest⟩
    · exact .inl h
    · refine .inr ⟨g, cap, cur, hv, hB, (s4.block g (lt_of_block hg) ?_ (by simp)).trans hg, rest⟩
      have := HL1.out g (by rw [hv]; rfl)
      omega
  have HB4 : Hid (Below w.heap.size w x4) := HB3.out.trans (s4.below HB3.out.size hz1 (fun g hg => by cases hg))
  have h4r := s4.row_ge (B := x3.heap.size) (Nat.le_refl _) (fun g hg => by cases hg)
  have hz4 := s4.size
  have hJ0 : PutsJ w o x4.heap.size r (propsL X) (.slice va X.length vc) X a1 0 zp false (x4.alloc (.cells #[.int .i64 0, .int .u32 0, .string ⟨#[]⟩, .string ⟨#[]⟩] 47)) := by
    have hb := below_one x4 (.cells #[.int .i64 0, .int .u32 0, .string ⟨#[]⟩, .string ⟨#[]⟩] 47)
    refine ⟨hown4.below hb, h4.below hb, heap_alloc_new x4 _, .inl ⟨rfl, rfl, rfl⟩, Below.next HB4.out hb, HB4.out.size, ?_, ?_, ?_⟩
    · intro e; have := HL1.out _ e; omega
    · have := h4.lt; omega
    · intro e; have := h4.row_lt _ e; omega
  have HJ0 := Lib.hid hJ0
  clear hJ0 hown4 h4 s4 hown3 ho3 HB3 HB4 h4r HL1
  go_wp2
  generalize x4.heap.size = bx at *
  go_loopw [12, 28] (fun b j wr => ∃ (k : Nat) (f : Pr) (bb : Bool), k ≤ X.length ∧ j = .int .i64 k ∧ b = .bool bb ∧ PutsJ w o bx r (propsL X) (.slice va X.length vc) X a1 k f bb wr) (fun _ j _ => X.length - (RowKit.intOf j).toNat)
  case atStart => exact ⟨0, zp, false, by omega, rfl, rfl, HJ0.out⟩
  case round =>
    clear HJ0
    obtain ⟨k, f, bb, hk, rfl, rfl, hJ⟩ := hrel
    have HJ := Lib.hid hJ
    clear hJ
    by_cases hlt : k < X.length
    · obtain ⟨x, hx⟩ : ∃ x, X[k]? = some x := ⟨_, List.getElem?_eq_getElem hlt⟩
      obtain ⟨A, cap, hv, hc⟩ := HJ.out.own.props
      obtain ⟨b, off, hA, hbl, c0, c1, c2, c3⟩ := hc k x hx
      injection hv with hv1 hv2 hv3
      subst hv1
      subst hA
      clear hc hv2 hv3
      have HX := Lib.hid hx
      clear hx
      obtain ⟨xi, xn, xs, xt⟩ := x
      dsimp only at c0 c1 c2 c3
      by_cases hi : xi = a1
      · have hib : (xi == a1) = true := by simpa using hi
        have HI := Lib.hid hi
        clear hi
        cases bb with
        | true =>
          go_wp2
          go_roundw
          case rel => exact ⟨k + 1, f, true, by omega, by go_num, rfl, HJ.out.skip _ HX.out (.inl rfl) _⟩
          case measure => simp [RowKit.intOf]; omega
        | false =>
          obtain ⟨⟨d0, d1, d2, d3⟩, g0, g1, g2, g3⟩ := four_cells HJ.out.box
          have hlb := lt_of_block HJ.out.box
          go_wp2
          go_roundw
          case rel => exact ⟨k + 1, ⟨xi, xn, xs, xt⟩, true, by omega, by go_num, rfl, (HJ.out.found ⟨xi, xn, xs, xt⟩ HX.out HI.out).alloc _⟩
          case measure => simp [RowKit.intOf]; omega
      · have hib : (xi == a1) = false := by simpa using hi
        have HI := Lib.hid hi
        clear hi
        go_wp2
        go_roundw
        case rel => exact ⟨k + 1, f, bb, by omega, by go_num, rfl, HJ.out.skip _ HX.out (.inr HI.out) _⟩
        case measure => simp [RowKit.intOf]; omega
    · obtain rfl : k = X.length := by omega
      clear hk hlt
      have hXok := fun p hp => (HXOK.out p hp).1
      have HXO := Lib.hid hXok
      have hfin := HJ.out.fnd
      rw [List.take_length] at hfin
      have HFIN := Lib.hid hfin
      clear hXok hfin HXOK
      have hG : ∃ (o1 : Int), getV X a1 = .tuple #[prV f, .bool bb] ∧ (∀ ot, numP X a1 ot = if bb = true then f.n else ot) ∧ o1 = 0 := by
        rcases HFIN.out with ⟨h1, h2, h3⟩ | ⟨h1, h2⟩
        · subst h2 h3
          refine ⟨0, by rw [getV, h1]; rfl, fun ot => by rw [numP, h1]; simp, rfl⟩
        · subst h2
          exact ⟨0, by rw [getV, h1], fun ot => by rw [numP, h1]; simp, rfl⟩
      obtain ⟨_, hG, hNum, _⟩ := hG
      have HG := Lib.hid hG
      have HNUM := Lib.hid hNum
      clear hG hNum HFIN
      obtain ⟨fi, fn, fs, ft⟩ := f
      have heq : ∀ wx, (binOp .eql 47 (.agg #[.int .i64 fi, .int .u32 fn, .string fs, .string ft]) (.agg #[.int .i64 fi, .int .u32 fn, .string fs, .string ft])).run Tryd.prog wx = .ok (.bool true) wx := eql_prop ⟨fi, fn, fs, ft⟩
      generalize hkk : (ruleL a1).kind = kk
      have HKK := Lib.hid hkk
      clear hkk
      cases bb
      all_goals
        go_wp2_with fail
        refine (get_calls _ _ X a1 HJ.out.own.props (by omega)).mono ?_
        rw [HG.out]
        rintro e y1 ⟨rfl, b1⟩
        have hJ1 := puts_below HJ.out b1
        have b2 := below_one y1 (.cells #[.int .i64 fi, .int .u32 fn, .string fs, .string ft] 47)
        have hJ2 := puts_below hJ1 b2
        have hbx2 := heap_alloc_new y1 (.cells #[.int .i64 fi, .int .u32 fn, .string fs, .string ft] 47)
        have HJ2 := Lib.hid hJ2
        have HBX2 := Lib.hid hbx2
        clear hJ1 b1 b2 hJ2 hbx2 HJ HG
        go_wp2_with fail
        generalize y1.alloc (.cells #[.int .i64 fi, .int .u32 fn, .string fs, .string ft] 47) = y2 at *
        generalize y1.heap.size = b15 at *
        refine (num_calls _ _ X a1 _ HJ2.out.own.props (by omega)).mono ?_
        rw [HNUM.out]
        simp only [if_true, if_false, Bool.false_eq_true]
        rintro e y3 ⟨rfl, b3⟩
        have hJ3 := puts_below HJ2.out b3
        have HBX3 := Lib.hid ((b3.block _ (lt_of_block HBX2.out)).trans HBX2.out)
        clear b3 HJ2 HBX2 HNUM
        go_wp2_with fail
        refine (text_calls _ o r _ hJ3.out).mono ?_
        rintro e y4 ⟨rfl, rfl⟩
        go_wp2_with fail
        refine (told_calls _ _ X hJ3.own.props (by omega)).mono ?_
        rintro e y4 ⟨u, rfl, hown4, b4⟩
        have hJ4 := puts_below hJ3 b4
        have HBX4 := Lib.hid ((b4.block _ (lt_of_block HBX3.out)).trans HBX3.out)
        obtain ⟨ua, uc, rfl⟩ := hown4.form
        clear hJ3 b4 HBX3
        go_wp2_with fail
        refine (r3text_calls _ _ X hown4.props HXO.out (by omega)).mono ?_
        rintro e y5 ⟨rfl, b5⟩
        have hJ5 := puts_below hJ4 b5
        have hbx5 := (b5.block _ (lt_of_block HBX4.out)).trans HBX4.out
        obtain ⟨⟨d0, d1, d2, d3⟩, _, _, _, _⟩ := four_cells hbx5
        obtain ⟨⟨e0, e1, e2, e3⟩, _, _, _, _⟩ := four_cells hJ5.box
        dsimp only at e0 e1 e2 e3
        have HB5 := Lib.hid hJ5.bel
        clear hJ4 hJ5 b5 HBX4 hbx5 hown4 HXO
        go_wp2_with fail
        refine (kind3_calls _ a1).mono ?_
        rw [HKK.out]
        rintro e y6 ⟨rfl, b6⟩
        have HB6 := Lib.hid (HB5.out.trans (b6.mono HB5.out.size))
        clear b6 HB5 d0 d1 d2 d3 e0 e1 e2 e3
        go_wp2_with fail
        refine (r3kind_calls _ a1).mono ?_
        rw [HKK.out]
        rintro e y7 ⟨rfl, rfl⟩
        clear HKK
        go_wp2_with fail
        refine (may3_calls _ a1 a2 a3).mono ?_
        rintro e y7 ⟨rfl, b7⟩
        have HB7 := Lib.hid (HB6.out.trans (b7.mono HB6.out.size))
        clear b7 HB6
        go_wp2_with fail
        refine (r3may_calls _ a1 a2 a3).mono ?_
        rintro e y8 ⟨rfl, rfl⟩
        generalize mayP a1 a2 a3 = mm
        go_wp2
        go_ret
        exact ⟨rfl, HB7.out⟩

theorem first_eq : (Rows.laid_unicode_utf8_first : DataW Unit) = Lib.firstData := by kernel_rfl
theorem accept_eq : (Rows.laid_unicode_utf8_acceptRanges : DataW Unit) = Lib.acceptData := by kernel_rfl

def putCells (cs : Array Value) : Obj → Obj
  | .cells _ t frozen => .cells cs t frozen
  | o => o
/-- A world for the witness: the settled one, the two tables holding what the library's text lays. -/
noncomputable def laidWorld (os : Os) : World :=
  { World.holding Tryd.prog os ⟨#[], #[], []⟩ with heap := (((World.holding Tryd.prog os ⟨#[], #[], []⟩).heap.modify (Tryd.lays196_ren.g 3) (putCells (Lib.firstTab.map fun z => Value.int .u8 z).toArray)).modify (Tryd.lays196_ren.g 4) (putCells ((List.range 16).flatMap fun i => [Value.int .u8 (Lib.accLo i), Value.int .u8 (Lib.accHi i)]).toArray)) }
theorem laid_met (os : Os) : laidMet Tryd.prog Rows.propPutsRow.laid ((laidWorld os).forCall (fun _ _ => 0) ⟨#[], #[.slice none 0 0, .int .i64 0, .int .i64 0, .bool false], []⟩).memory :=
  laidMet_of_run' 8 (by kernel_rfl) (by kernel_rfl)
theorem reads (os : Os) {H : Type} (enc : TypeId × Value → H) : ∃ places, DataW.whole enc Tryd.prog ((laidWorld os).forCall (fun _ _ => 0) ⟨#[], #[.slice none 0 0, .int .i64 0, .int .i64 0, .bool false], []⟩).memory Tryd.f4.params.toList Rows.propPutsSpec.vars false (#[.slice none 0 0, .int .i64 0, .int .i64 0, .bool false] : Array Value).toList 8 = some ([.nil, .lit (.int .i64 0), .lit (.int .i64 0), .lit (.bool false)], [], places) :=
  ⟨[], by kernel_rfl⟩

set_option maxRecDepth 100000 in
set_option maxHeartbeats 2000000 in
theorem lifted (os : Os) (started : os.Started) (H : Type) (enc : TypeId × Value → H) (F : Stop.Interp) :
    ReturnsInHanded {} Tryd.checked os 4 .any ((OpenSpec.ofChange Rows.propPutsSpec).preRow enc Tryd.prog Tryd.f4 Rows.propPutsRow.domain false Rows.propPutsRow.laid) (((OpenSpec.ofChange Rows.propPutsSpec).at F).post enc Tryd.prog Tryd.f4 false true false false) := by
  obtain ⟨places, hx⟩ := reads os enc
  refine returnsInHanded_of_row (C := Tryd.checked) (s := OpenSpec.ofChange Rows.propPutsSpec) own started (by kernel_rfl) Tryd.func4
    (witness_row_at (enc := enc) (C := Tryd.checked) false (laidWorld os) #[.slice none 0 0, .int .i64 0, .int .i64 0, .bool false] rfl (by kernel_rfl) (by kernel_rfl) (by kernel_rfl)
      (OpenSpec.preRow_of_cond 8 hx (by kernel_rfl) (fun k hk => by cases hk) (by kernel_rfl) (laid_met os))) ?_
  intro W base args ds gs before hval0 hW _ _ _ hL _ _
  have hval : ∀ (j : Nat) t v, Tryd.f4.params[j]? = some t → args[j]? = some v → Value.okWide Tryd.prog W .any base t v := hval0
  have hW' := hW
  obtain ⟨p, q, hA0, hV, rfl, hfz, hnd⟩ := hW
  have hA : DataW.TrodAll enc Tryd.prog W 0 (fun _ => true) true Tryd.f4.params.toList args.toList ds p := hA0
  rw [Tryd.params4] at hA hval
  obtain ⟨v0, vs0, d0, ds0, p0, q0, hargs, rfl, rfl, h0, r0⟩ := trodAll_cons hA
  obtain ⟨v1, vs1, d1, ds1, p1, q1, rfl, rfl, rfl, h1, r1⟩ := trodAll_cons r0
  obtain ⟨v2, vs2, d2, ds2, p2, q2, rfl, rfl, rfl, h2, r2⟩ := trodAll_cons r1
  obtain ⟨v3, vs3, d3, ds3, p3, q3, rfl, rfl, rfl, h3, r3⟩ := trodAll_cons r2
  obtain ⟨rfl, rfl, rfl⟩ := trodAll_nil r3
  obtain rfl : args = #[v0, v1, v2, v3] := by cases args; simp_all
  obtain ⟨rfl, rfl⟩ := trodVars_none hV
  have k0 := h0
  have lt0 : ∀ x ∈ p0, x.block < W.heap.size := by obtain ⟨m, hm⟩ := k0; exact DataW.trod_lt m _ _ _ hm
  obtain ⟨a0, w0⟩ := open_props (hval 0 26 v0 rfl rfl) h0
  obtain ⟨a1, rfl, rfl, rfl, w1⟩ := open_int Tryd.underlying3 (hval 1 3 v1 rfl rfl) h1
  obtain ⟨a2, rfl, rfl, rfl, w2⟩ := open_int Tryd.underlying3 (hval 2 3 v2 rfl rfl) h2
  obtain ⟨a3, rfl, rfl, rfl⟩ := open_bool Tryd.underlying4 (hval 3 4 v3 rfl rfl) h3
  clear hA0 hval0
  have hT : Tabs W := utf8Tabs_of_readsT (U8Types.of196 Tryd.lays196) ⟨by kernel_rfl, by kernel_rfl, by kernel_rfl, by kernel_rfl, by kernel_rfl, by kernel_rfl, by kernel_rfl⟩ (first_eq ▸ Lib.laidMet.reads hL (.tail _ (.head _))) (accept_eq ▸ Lib.laidMet.reads hL (.head _))
  refine (walk v0 a0 a1 w1 a2 w2 a3 W w0 hT).mono fun e W' ⟨he, bel⟩ => ?_
  subst he
  exact ⟨_, rfl, _, _, _, [], _, [], hW', trodAll_mk1 (shut_bool Tryd.underlying4 _), (trodAll_cons_mk (Below.trod laidOut (by kernel_rfl) (of_decide_eq_true (by kernel_rfl)) k0 bel lt0) (trodAll_cons_mk (shut_int Tryd.underlying3 w1) (trodAll_cons_mk (shut_int Tryd.underlying3 w2) (trodAll_cons_mk (shut_bool Tryd.underlying4 a3) trodAll_mk0)))), rfl, bel.frame _, fun h => by cases h⟩

theorem said : Rows.PropPutsSaid :=
  OpenClaim.holds_of_cond 4 Tryd.f4 rfl rfl rfl rfl rfl rfl rfl ⟨rfl, rfl, rfl, rfl, rfl⟩ rfl rfl rfl rfl rfl (by kernel_rfl) Tryd.func4 (by kernel_rfl)
    (of_decide_eq_true (by kernel_rfl)) (by unfold Func.isWrapper; first | (rw [if_pos (by decide +kernel)]; kernel_rfl) | (rw [if_neg (by decide +kernel)]; exact ⟨rfl, rfl⟩))
    (fun os started H enc _ F => by rw [OpenClaim.pre_eq_preRow]; exact lifted os started H enc F)

theorem plain (f : FuncId) (fn : Func) (hf : Tryd.pinned.checked.prog.funcNamed Tryd.f4.name = some f) (hfn : Tryd.pinned.checked.prog.funcs[f]? = some fn) :
    false = Tryd.pinned.checked.prog.looks [] ∧ ∀ (j : Nat) t, fn.params[j]? = some t → Tryd.pinned.checked.prog.wantsStandIn t = false := by
  obtain rfl : f = 4 := Option.some.inj ((show Tryd.prog.funcNamed Tryd.f4.name = some 4 by kernel_rfl).symm.trans hf) |>.symm
  obtain rfl : fn = Tryd.f4 := (Option.some.inj (Tryd.func4.symm.trans hfn)).symm
  refine ⟨by kernel_rfl, fun j t ht => ?_⟩
  rw [Tryd.params4] at ht
  have hm : t = 26 ∨ t = 3 ∨ t = 4 := by simpa using Array.mem_of_getElem? ht
  rcases hm with rfl | rfl | rfl
  · exact (show Tryd.prog.wantsStandIn 26 = false by kernel_rfl)
  · exact (show Tryd.prog.wantsStandIn 3 = false by kernel_rfl)
  · exact (show Tryd.prog.wantsStandIn 4 = false by kernel_rfl)

end Go.Proofs.YtmkajnephkaamaaDoor.propPuts
namespace Go.Proofs.YtmkajnephkaamaaDoor
/-- The statement. -/
theorem propPuts_holds : Rows.PropPutsCardSaid :=
  Claim7.holds_tied_plain_at .later [] _ _ _ _ propPuts.said (fun _ h => by cases h) (by kernel_rfl) (fun _ h => by cases h) propPuts_row_tie rfl ⟨rfl, rfl⟩ (by kernel_rfl) rfl propPuts.plain (by kernel_rfl)
#print axioms propPuts_holds
end Go.Proofs.YtmkajnephkaamaaDoor
