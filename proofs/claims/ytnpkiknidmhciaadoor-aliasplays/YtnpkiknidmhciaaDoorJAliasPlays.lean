/-
  Any publishes: the topic, or the error; what each alias stands for.
  Its conditions: none beside those of the row itself (the two tables of unicode/utf8 start as the library's text lays them: the card ties them).
-/
import Derived.Test.YtnpkiknidmhciaaDoorCards
import Derived.Test.YtnpkiknidmhciaaDoorTie
import Derived.Test.YtnpkiknidmhciaaDoorJAliasPlaysw
import Derived.Test.YtnpkiknidmhciaaDoorJAliasPlaysf
import Derived.Test.YtnpkiknidmhciaaDoorJAli8
import Derived.ProofKit
import Derived.Deep.RegionHeld3
import Derived.Deep.CutRange
import Derived.Deep.CutBlock
import Derived.OpenShut
import Derived.ShutString
import Derived.ChangeOld
import Derived.Deep.DeepHandedRow
import Derived.Deep.DeepWitnessRowRef
import Derived.Lib.LaidU8T
import Derived.Lib.LaidTab
import Derived.Lib.LaidIn
namespace Go.Proofs.YtnpkiknidmhciaaDoor.aliasPlays
open Go.ChangeShapes Go.WideShapes Go.ChangeAt Go.RowKit Go.Lib
open Go.ChangeMaps (open_string shut_string)
set_option linter.unusedVariables false

/-- While publishes are told to a table, and to the document's list. -/
structure ApJ (w : World) (p b : Nat) (m : Int) (xv : Value) (L : List (Int × List UInt8)) (c : Nat) (k : Nat) (W : World) : Prop where
  al : AlJ w p b m L c W
  on : OnesAt W xv L
  len : L.length ≤ k

theorem seven_pub {W : World} {g : Nat} {c0 c1 c2 c3 c4 c5 c6 : Value} {t : TypeId} (h : W.heap[g]? = some (.cells #[c0, c1, c2, c3, c4, c5, c6] t (0, 0))) : W.cell? ⟨g, 4, none⟩ = some c4 ∧ W.cell? ⟨g, 5, none⟩ = some c5 := by
  simp [World.cell?, h]

theorem props_moved {W W' : World} {v : Value} {P : List Pr} {L' : List (Int × List UInt8)} {p b c : Nat} {most : Int} (h : PropsAt W v P) (ha : AlAt W p b most L' c) (hm : Moved W W' p b) : PropsAt W' v P := by
  obtain ⟨A, cap, rfl, hc⟩ := h
  refine ⟨A, cap, rfl, fun i x hx => ?_⟩
  obtain ⟨g, off, hA, hg, c0, c1, c2, c3⟩ := hc i x hx
  have hp : g ≠ p := by
    rintro rfl
    simp [World.cell?, ha.cells] at c2
  have hb : g ≠ b := by
    rintro rfl
    obtain ⟨D, ⟨es, clock, h1, _⟩, _⟩ := ha.top
    simp [World.cell?, h1] at c0
  have hk := hm.block g hg hp hb
  exact ⟨g, off, hA, Nat.lt_of_lt_of_le hg hm.size, (World.cell?_of_block hk).trans c0, (World.cell?_of_block hk).trans c1, (World.cell?_of_block hk).trans c2, (World.cell?_of_block hk).trans c3⟩

theorem drew_cell {W : World} {a : Addr} : W.drew.cell? a = W.cell? a := rfl

set_option maxRecDepth 100000 in
set_option maxHeartbeats 4000000 in
theorem walk (a0 : Int) (w0 : (Lit.int .u32 a0).wf = true) (v1 : Value) (a1 : List (List UInt8 × List Int)) (w : World) (w1 : AOnesIn w v1 a1) (hT : T10 w) :
    Calls Tryd.prog 3 #[.int .u32 a0, v1] w fun e w' => e = .returned (.bool true) ∧ Below w.heap.size w w' := by
  have hr0 : IntKind.u32.min ≤ a0 ∧ a0 ≤ IntKind.u32.max := by simpa [Lit.wf] using w0
  rw [show IntKind.u32.min = 0 by decide, show IntKind.u32.max = 4294967295 by decide] at hr0
  obtain ⟨m0, m1⟩ := hr0
  have m2 : a0 < 4294967296 := by omega
  obtain ⟨A1, cap1, rfl, hzm1, hc1⟩ := w1
  have HC1 := Lib.hid hc1
  have HZ1 := Lib.hid hzm1
  have HT := Lib.hid hT
  clear w0 hT hc1 hzm1
  obtain ⟨m, hm⟩ : ∃ m, min a0 65535 = m := ⟨_, rfl⟩
  have HM := Lib.hid hm
  have hmm : m ≤ 65535 := by omega
  have hnew := fun W => aNew_calls W a0 m0 m2
  simp only [hm] at hnew
  clear hm
  go_enter Tryd.func3, Tryd.ntmps3
  go_wp2_with fail
  refine (hnew _).mono ?_
  rintro e x1 ⟨p, b, rfl, hA, hB, hp, hb⟩
  have J0 := Lib.hid (show AlJ w p b m [] 0 x1 from ⟨hA, hB, hp, hb⟩)
  clear hA hB hp hb hnew
  go_wp2_with fail
  have J1 := Lib.hid (J0.out.below (below_one x1 (.cells #[] 44)))
  refine (awake17_calls _ (HT.out.below J1.out.bel)).mono ?_
  rintro e x2 ⟨rfl, b2⟩
  have J2 := Lib.hid (show ApJ w p b m (.slice (some ⟨x1.heap.size, 0, none⟩) 0 0) [] 0 0 x2 from ⟨J1.out.below b2, ⟨_, 0, rfl, Nat.le_refl _, fun i x hx => by simp at hx⟩, Nat.le_refl _⟩)
  clear b2 J0 J1
  generalize x1.heap.size = g0 at *
  go_wp2_with fail
  go_loopw [6, 7] (fun x i wr => ∃ (k : Nat) (L : List (Int × List UInt8)) (c : Nat) (xv : Value), xv = x ∧ i = .int .i64 k ∧ k ≤ a1.length ∧ k ≤ 40 ∧ ApJ w p b m xv L c k wr) (fun _ i _ => 40 - (RowKit.intOf i).toNat)
  case atStart => exact ⟨0, [], 0, _, rfl, rfl, Nat.zero_le _, by omega, J2.out⟩
  case round =>
    obtain ⟨k, L, c, xv, hxv, rfl, hk1, hk2, hJ⟩ := hrel
    subst hxv
    have HJ := Lib.hid hJ
    have hzl := HZ1.out
    unfold maxLen at hzl
    clear hJ J2
    by_cases hlt : k < a1.length ∧ k < 40
    · obtain ⟨h1, h2⟩ := hlt
      obtain ⟨bb, o, uv, hAd, hbl, hc0, hc1, hN, hTl⟩ := HC1.out k _ (List.getElem?_eq_getElem h1)
      subst hAd
      have hcr0 := (HJ.out.al.bel.cell (p := ⟨bb, o + k * 2, none⟩) hbl).trans hc0
      have hcr1 := (HJ.out.al.bel.cell (p := ⟨bb, o + k * 2 + 1, none⟩) hbl).trans hc1
      have HMD := Lib.hid (made_calls wr a1[k].1 hTl uv a1[k].2 (hN.below HJ.out.al.bel))
      have HZS := Lib.hid hN.range
      have hLk := HJ.out.len
      obtain ⟨T, hTq⟩ : ∃ T, a1[k].1.take 30 = T := ⟨_, rfl⟩
      have HTL := Lib.hid (show T.length ≤ 30 by rw [← hTq, List.length_take]; omega)
      have HTQ := Lib.hid hTq
      clear hc0 hc1 hN hTl hTq
      generalize a1[k].1 = T0 at *
      generalize a1[k].2 = zs at *
      go_wp2_with fail
      refine HMD.out.mono ?_
      rintro e x3 ⟨u, rfl, hP, hB⟩
      rw [HTQ.out]
      have hu := hP
      obtain ⟨Au, capu, rfl, -⟩ := hu
      have HP := Lib.hid hP
      generalize hnu : (alPs zs).length = nu at *
      have HNU := Lib.hid hnu
      clear hnu
      have J3 := Lib.hid (show ApJ w p b m xv L c k x3 from ⟨HJ.out.al.below hB, HJ.out.on.below hB, hLk⟩)
      clear hP hB hcr0 hcr1 HJ HMD
      obtain ⟨x4, hx4⟩ : ∃ x4, x3.alloc (.cells #[.bool false, .bool false, .int .u8 0, .int .u32 0, .slice Au nu capu, .string (str T), .string ⟨#[]⟩] 31) = x4 := ⟨_, rfl⟩
      have hal : x4.heap[x3.heap.size]? = some (.cells #[.bool false, .bool false, .int .u8 0, .int .u32 0, .slice Au nu capu, .string (str T), .string ⟨#[]⟩] 31 (0, 0)) := hx4 ▸ heap_alloc_new x3 _
      have hb4 : Below x3.heap.size x3 x4 := hx4 ▸ below_one x3 _
      have J4 := Lib.hid (show ApJ w p b m xv L c k x4 from ⟨J3.out.al.below hb4, J3.out.on.below hb4, hLk⟩)
      have HP4 := Lib.hid (HP.out.below hb4)
      have hgp : x3.heap.size ≠ p := by have := m_size J3.out.al.al.cells; omega
      have hgb : x3.heap.size ≠ b := by have := J3.out.al.al.top.lt; omega
      have HAL := Lib.hid hal
      have hgl : x3.heap.size < x4.heap.size := lt_of_block hal
      obtain ⟨es, ec, hq⟩ : ∃ es ec, nmE m L zs.head? T = (es, ec) := ⟨_, _, rfl⟩
      have hll := nmL_len m L zs.head? T
      have hnm := aName_made x4 x4 p b c m L (.slice Au nu capu) T0 zs (HT.out.below J4.out.al.bel) HP4.out (Below.refl _ _) J4.out.al.al (by unfold maxLen; omega) HZS.out
      have hrn := fun W pv ho hp => r17name_made W xv L m T pv zs ho (by omega) hp (by have := HTL.out; omega) HZS.out
      rw [HTQ.out, hq] at hnm
      simp only [hq] at hrn
      generalize nmL m L zs.head? T = L2 at *
      generalize nmC m L c zs.head? T = c2 at *
      have HNM := Lib.hid hnm
      have HRN := Lib.hid hrn
      have HSP := Lib.hid (seven_pub hal)
      have HX4 := Lib.hid hx4
      clear hal hb4 hq hnm hrn J3 HP HZS HTQ hx4
      go_wp2_with fail
      have hx4 := HX4.out
      rw [hx4]
      clear hx4 HX4
      refine HNM.out.mono ?_
      rintro e x5 ⟨rfl, ha5, hm5⟩
      have J5 := Lib.hid (show AlJ w p b m L2 c2 x5.drew from (J4.out.al.moved ha5 hm5).below (drew_below4 x5))
      have ON5 := Lib.hid (show OnesAt x5.drew xv L from (J4.out.on.moved J4.out.al.al hm5).below (drew_below4 x5))
      have HP5 := Lib.hid (show PropsAt x5.drew (.slice Au nu capu) (alPs zs) from (props_moved HP4.out J4.out.al.al hm5).below (drew_below4 x5))
      have HAL5 := Lib.hid ((hm5.block _ hgl hgp hgb).trans HAL.out)
      have hsp4 : x5.drew.cell? ⟨x3.heap.size, 4, none⟩ = some (.slice Au nu capu) := (seven_pub HAL5.out).1
      have hsp5 : x5.drew.cell? ⟨x3.heap.size, 5, none⟩ = some (.string (str T)) := (seven_pub HAL5.out).2
      have hgl5 : x3.heap.size < x5.drew.heap.size := lt_of_block HAL5.out
      clear ha5 hm5 HNM J4 HP4 HAL HSP HAL5 hgp hgb hgl
      generalize x3.heap.size = g at *
      go_wp2_with fail
      go_region_law (first
        | (go_simp; go_at_call 19; refine (told_calls _ _ (alPs zs) HP5.out (by unfold alPs; simp; omega)).mono ?_; rintro e x6 ⟨pv, rfl, ho6, hb6⟩; have J6 := Lib.hid (J5.out.below hb6); have ON6 := Lib.hid (ON5.out.below hb6); have PV6 := Lib.hid ho6.props; have d5 := (hb6.cell (p := ⟨g, 5, none⟩) hgl5).trans hsp5; clear ho6 hb6)
        | (go_simp; go_at_call 18; rw [HM.out]; refine (HRN.out _ _ ON6.out PV6.out).mono ?_; rintro e x7 ⟨v7, rfl, on7, hb7⟩; have J7 := Lib.hid (J6.out.below hb7); have ON7 := Lib.hid on7; clear on7 hb7))
      all_goals
        obtain ⟨A7, cap7, hv7, hcap7, hc7⟩ := ON7.out
        subst hv7
        have HC7 := Lib.hid hc7
        clear hc7
        have hL41 : L2.length ≤ 41 := by omega
        go_wp2_with fail
        go_loopw [76] (fun j wr => ∃ i : Nat, i ≤ L2.length ∧ j = .int .i64 i ∧ Below x7.heap.size x7 wr) (fun j _ => L2.length - (RowKit.intOf j).toNat)
        case atStart => exact ⟨0, Nat.zero_le _, rfl, Below.refl _ _⟩
        case round =>
          obtain ⟨i, hi, rfl, hb8⟩ := hrel
          have HB8 := Lib.hid hb8
          clear hb8
          by_cases hil : i < L2.length
          · obtain ⟨gb, go, hA, hgl, e0, e1⟩ := HC7.out i _ (List.getElem?_eq_getElem hil)
            subst hA
            have d0 := (HB8.out.cell (p := ⟨gb, go + i * 2, none⟩) hgl).trans e0
            have d1 := (HB8.out.cell (p := ⟨gb, go + i * 2 + 1, none⟩) hgl).trans e1
            obtain ⟨r1, r2⟩ := J7.out.al.keys _ (List.getElem_mem hil)
            have hr3 : L2[i].1 < 4294967296 := by omega
            have hr0 : 0 ≤ L2[i].1 := by omega
            have HB9 := Lib.hid (HB8.out.alloc HB8.out.size (.cells #[.int .u32 L2[i].1, .string (str L2[i].2)] 44))
            have J9 := Lib.hid (J7.out.below HB9.out)
            have ON9 := Lib.hid (ON7.out.below HB9.out)
            have HG := Lib.hid (aGet_calls _ p b c2 m L2 L2[i].1 hr0 hr3 J9.out.al)
            have HR := Lib.hid (r17get_calls _ (.slice (some ⟨gb, go, none⟩) L2.length cap7) L2 L2[i].1 ON9.out (by omega))
            clear e0 e1 r1 r2 hr3 hr0
            generalize L2[i].1 = n at *
            generalize L2[i].2 = s at *
            go_wp2_with fail
            refine HG.out.mono ?_
            rintro e y1 ⟨rfl, rfl⟩
            go_wp2_with fail
            refine HR.out.mono ?_
            rintro e y2 ⟨rfl, hb⟩
            have HB10 := Lib.hid (HB9.out.trans (hb.mono HB9.out.size))
            clear hb HG HR
            generalize (getL L2 n).getD [] = s1
            generalize (getL L2 n).isSome = q1
            go_wp2
            go_roundw
            case rel => exact ⟨i + 1, by omega, by go_num, HB10.out⟩
            case measure => simp [RowKit.intOf]; omega
          · obtain rfl : i = L2.length := by omega
            go_wp2
            go_roundw
            case rel => exact ⟨k + 1, L2, c2, _, rfl, by go_num, by omega, by omega, ⟨J7.out.below HB8.out, ON7.out.below HB8.out, by omega⟩⟩
            case measure => simp [RowKit.intOf]; omega
    · by_cases h1 : k < a1.length
      · have h2 : ¬ k < 40 := fun h => hlt ⟨h1, h⟩
        obtain ⟨A8, cap8, hv8, -, -⟩ := HJ.out.on
        subst hv8
        have hz := getL_zero HJ.out.al.al
        have hg := aGet_calls wr p b c m L 0 (by omega) (by omega) HJ.out.al.al
        rw [hz] at hg
        simp only [Option.getD_none, Option.isSome_none] at hg
        have hcl := TopAt.le HJ.out.al.al.top
        have hLk := HJ.out.len
        clear hz
        go_wp2_with fail
        refine hg.mono ?_
        rintro e y1 ⟨rfl, rfl⟩
        go_wp2_with fail
        refine (aLen_calls _ p b c _ _ HJ.out.al.al).mono ?_
        rintro e y2 ⟨rfl, rfl⟩
        go_wp2
        go_ret
        exact ⟨rfl, HJ.out.al.bel⟩
      · skip
        obtain ⟨A8, cap8, hv8, -, -⟩ := HJ.out.on
        subst hv8
        have hz := getL_zero HJ.out.al.al
        have hg := aGet_calls wr p b c m L 0 (by omega) (by omega) HJ.out.al.al
        rw [hz] at hg
        simp only [Option.getD_none, Option.isSome_none] at hg
        have hcl := TopAt.le HJ.out.al.al.top
        have hLk := HJ.out.len
        clear hz
        go_wp2_with fail
        refine hg.mono ?_
        rintro e y1 ⟨rfl, rfl⟩
        go_wp2_with fail
        refine (aLen_calls _ p b c _ _ HJ.out.al.al).mono ?_
        rintro e y2 ⟨rfl, rfl⟩
        go_wp2
        go_ret
        exact ⟨rfl, HJ.out.al.bel⟩

set_option maxRecDepth 100000 in
set_option maxHeartbeats 2000000 in
theorem lifted (os : Os) (started : os.Started) (H : Type) (enc : TypeId × Value → H) (F : Stop.Interp) :
    ReturnsInHanded {} Tryd.checked os 3 .any ((OpenSpec.ofChange Rows.aliasPlaysSpec).preRow enc Tryd.prog Tryd.f3 Rows.aliasPlaysRow.domain false Rows.aliasPlaysRow.laid) (((OpenSpec.ofChange Rows.aliasPlaysSpec).at F).post enc Tryd.prog Tryd.f3 false true false false) := by
  obtain ⟨places, hx⟩ := reads os enc
  refine returnsInHanded_of_row (C := Tryd.checked) (s := OpenSpec.ofChange Rows.aliasPlaysSpec) own started (by kernel_rfl) Tryd.func3
    (witness_row_at (enc := enc) (C := Tryd.checked) false (laidWorld os) #[.int .u32 0, .slice none 0 0] rfl (by kernel_rfl) (by kernel_rfl) (by kernel_rfl)
      (OpenSpec.preRow_of_cond 8 hx (by kernel_rfl) (fun k hk => by cases hk) (by kernel_rfl) (laid_met os))) ?_
  intro W base args ds gs before hval0 hW _ _ _ hL hShp _
  have hval : ∀ (j : Nat) t v, Tryd.f3.params[j]? = some t → args[j]? = some v → Value.okWide Tryd.prog W .any base t v := hval0
  have hW' := hW
  obtain ⟨p, q, hA0, hV, rfl, hfz, hnd⟩ := hW
  have hA : DataW.TrodAll enc Tryd.prog W 0 (fun _ => true) true Tryd.f3.params.toList args.toList ds p := hA0
  rw [Tryd.params3] at hA hval
  obtain ⟨v0, vs0, d0, ds0, p0, q0, hargs, rfl, rfl, h0, r0⟩ := trodAll_cons hA
  obtain ⟨v1, vs1, d1, ds1, p1, q1, rfl, rfl, rfl, h1, r1⟩ := trodAll_cons r0
  obtain ⟨rfl, rfl, rfl⟩ := trodAll_nil r1
  obtain rfl : args = #[v0, v1] := by cases args; simp_all
  obtain ⟨rfl, rfl⟩ := trodVars_none hV
  obtain ⟨a0, rfl, rfl, rfl, w0⟩ := open_int Tryd.underlying22 (hval 0 22 v0 rfl rfl) h0
  have k1 := h1
  have lt1 : ∀ x ∈ p1, x.block < W.heap.size := by obtain ⟨m, hm⟩ := k1; exact DataW.trod_lt m _ _ _ hm
  obtain ⟨a1, w1⟩ := open_aonesIn (hval 1 23 v1 rfl rfl) h1
  clear hA0 hval0
  have hT : Tabs W := utf8Tabs_of_readsT (U8Types.of196 Tryd.lays196) ⟨by kernel_rfl, by kernel_rfl, by kernel_rfl, by kernel_rfl, by kernel_rfl, by kernel_rfl, by kernel_rfl⟩ (first_eq ▸ Lib.laidMet.reads hL (.tail _ (.head _))) (accept_eq ▸ Lib.laidMet.reads hL (.head _))
  have hT10 : T10 W := ⟨hT⟩
  refine (walk a0 w0 v1 a1 W w1 hT10).mono fun e W' ⟨he, bel⟩ => ?_
  subst he
  exact ⟨_, rfl, _, _, _, [], _, [], hW', trodAll_mk1 (shut_bool Tryd.underlying4 _), (trodAll_cons_mk (shut_int Tryd.underlying22 w0) (trodAll_cons_mk (Below.trod laidOut (by kernel_rfl) (of_decide_eq_true (by kernel_rfl)) k1 bel lt1) trodAll_mk0)), rfl, bel.frame _, fun h => by cases h⟩

theorem said : Rows.AliasPlaysSaid :=
  OpenClaim.holds_of_cond 3 Tryd.f3 rfl rfl rfl rfl rfl rfl rfl ⟨rfl, rfl, rfl, rfl, rfl⟩ rfl rfl rfl rfl rfl (by kernel_rfl) Tryd.func3 closed
    (of_decide_eq_true (by kernel_rfl)) (by unfold Func.isWrapper; first | (rw [if_pos (by decide +kernel)]; kernel_rfl) | (rw [if_neg (by decide +kernel)]; exact ⟨rfl, rfl⟩))
    (fun os started H enc _ F => by rw [OpenClaim.pre_eq_preRow]; exact lifted os started H enc F)

theorem plain (f : FuncId) (fn : Func) (hf : Tryd.pinned.checked.prog.funcNamed Tryd.f3.name = some f) (hfn : Tryd.pinned.checked.prog.funcs[f]? = some fn) :
    false = Tryd.pinned.checked.prog.looks [] ∧ ∀ (j : Nat) t, fn.params[j]? = some t → Tryd.pinned.checked.prog.wantsStandIn t = false := by
  obtain rfl : f = 3 := Option.some.inj ((show Tryd.prog.funcNamed Tryd.f3.name = some 3 by kernel_rfl).symm.trans hf) |>.symm
  obtain rfl : fn = Tryd.f3 := (Option.some.inj (Tryd.func3.symm.trans hfn)).symm
  refine ⟨fac_looks, fun j t ht => ?_⟩
  rw [Tryd.params3] at ht
  have hm : t = 22 ∨ t = 23 := by simpa using Array.mem_of_getElem? ht
  rcases hm with rfl | rfl
  · exact (show Tryd.prog.wantsStandIn 22 = false by kernel_rfl)
  · exact (show Tryd.prog.wantsStandIn 23 = false by kernel_rfl)

end Go.Proofs.YtnpkiknidmhciaaDoor.aliasPlays
namespace Go.Proofs.YtnpkiknidmhciaaDoor
/-- The statement. -/
theorem aliasPlays_holds : Rows.AliasPlaysCardSaid :=
  Claim7.holds_tied_plain_at .later [] _ _ _ _ aliasPlays.said (fun _ h => by cases h) aliasPlays.wft (fun _ h => by cases h) aliasPlays_row_tie rfl ⟨rfl, rfl⟩ fac_main rfl aliasPlays.plain aliasPlays.goes
#print axioms aliasPlays_holds
end Go.Proofs.YtnpkiknidmhciaaDoor
