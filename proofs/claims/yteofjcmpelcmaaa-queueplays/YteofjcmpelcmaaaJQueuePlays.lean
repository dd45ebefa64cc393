/-
  Any calls of a queue do what they should: each answer, and all that wait behind each.
  Its conditions: none beside those of the row itself.
-/
import Derived.Test.YteofjcmpelcmaaaJPlq3
import Derived.Test.YteofjcmpelcmaaaJPlq4
import Derived.Test.YteofjcmpelcmaaaJPlq5
import Derived.Test.YteofjcmpelcmaaaJPlq6
import Derived.Test.YteofjcmpelcmaaaJPlq13
import Derived.ProofKit
import Derived.Deep.RegionHeld3
import Derived.Deep.CutRange
import Derived.Deep.CutBlock
import Derived.OpenShut
import Derived.ShutString
import Derived.ChangeOld
namespace Go.Proofs.Yteofjcmpelcmaaa.queuePlays
open Go.ChangeShapes Go.WideShapes Go.ChangeAt Go.RowKit
open Go.ChangeMaps (open_string shut_string)
set_option linter.unusedVariables false

theorem own : ownKnob Try.prog.godebug = none := by kernel_rfl
theorem laidOut : laidOutB Try.prog = true := by kernel_rfl

set_option maxRecDepth 100000 in
set_option maxHeartbeats 8000000 in
theorem walk (a0 : Int) (w0 : (Lit.int .i64 a0).wf = true) (v1 : Value) (zs : List Ac) (w : World) (hz : QActsIn w v1 zs) :
    Calls Try.prog 8 #[.int .i64 a0, v1] w fun e w' => e = .returned (.bool true) ∧ Below w.heap.size w w' := by
  clear w0
  obtain ⟨A, cap, rfl, hzl, hcell⟩ := hz
  have HCELL := Lib.hid hcell
  have hlm : zs.length ≤ 9223372036854775807 := by unfold maxLen at hzl; omega
  clear hcell hzl
  go_enter Try.func8, Try.ntmps8
  go_wp2_with fail
  refine (qNew_calls w a0).mono ?_
  rintro e w2 ⟨p, rfl, q2, hp2, b2⟩
  have hb3 := below_one w2 (.cells #[] 77)
  have HP := Lib.hid (show Ply w p a0 [] p w2.heap.size 0 0 [] 0 (w2.alloc (.cells #[] 77)) from
    ⟨q2.below hb3, rowS_nil _ _ _ (by simp), rfl, by simp, (fun m hm => by cases hm), hp2, hp2, by have := q2.lt; omega, by have := q2.lt; omega, (fun e he => by cases he), Below.next b2 hb3⟩)
  clear q2 hp2 b2 hb3
  go_wp2_with fail
  generalize w2.alloc (.cells #[] 77) = w3 at *
  refine (awake16_calls _).mono ?_
  rintro e w4 ⟨rfl, b4⟩
  have HP4 := Lib.hid (HP.out.below b4)
  clear b4
  go_wp2_with fail
  go_loopw [6, 7] (fun l i wr => ∃ (k : Nat) (X : List Ms) (b bl ol cl : Nat) (Y : List (Ms × Value)), k ≤ 40 ∧ k ≤ zs.length ∧ i = .int .i64 k ∧ l = .slice (some ⟨bl, ol, none⟩) Y.length cl ∧ Ply w p a0 X b bl ol cl Y k wr) (fun _ i _ => zs.length - (intOf i).toNat)
  case atStart => exact ⟨0, [], p, _, _, _, [], by omega, by omega, rfl, rfl, HP4.out⟩
  case round =>
    obtain ⟨k, X, b, bl, ol, cl, Y, hk40, hkz, rfl, rfl, hply⟩ := hrel
    have HP5 := Lib.hid hply
    clear hply
    by_cases hlt : k < zs.length ∧ k < 40
    · obtain ⟨hlt, hlt40⟩ := hlt
      obtain ⟨⟨kd, nw, m, v⟩, hx⟩ : ∃ x, zs[k]? = some x := ⟨_, List.getElem?_eq_getElem hlt⟩
      obtain ⟨hmin, bb, off, hA, hbl, ck, cn, hc⟩ := HCELL.out k _ hx
      subst hA
      dsimp only at hmin ck cn hc
      obtain ⟨Am, cm, hv, -⟩ := hmin.ps.at_
      subst hv
      have a0' := hc 0 (by omega)
      have a1 := hc 1 (by omega)
      have a2 := hc 2 (by omega)
      have a3 := hc 3 (by omega)
      have a4 := hc 4 (by omega)
      have a5 := hc 5 (by omega)
      have a6 := hc 6 (by omega)
      rw [Nat.add_zero] at a0'
      simp only [List.getElem?_cons_zero, List.getElem?_cons_succ, Nat.add_assoc, Nat.reduceAdd] at a0' a1 a2 a3 a4 a5 a6 cn
      simp only [← Nat.add_assoc] at a0' a1 a2 a3 a4 a5 a6 cn
      have bel := HP5.out.bel
      rw [← bel.cell (p := ⟨bb, _, none⟩) hbl] at ck cn a0' a1 a2 a3 a4 a5 a6
      have HIN := Lib.hid (show MsIn wr m (.slice Am m.ps.length cm) from ⟨⟨hmin.ps.at_.keep (fun g _ hl => bel.block g hl) bel.size, hmin.ps.len, hmin.ps.num⟩, hmin.s0, hmin.s1, hmin.s2, hmin.t0, hmin.q0⟩)
      have hkl : (k : Int) < zs.length := by omega
      have hk4 : (k : Int) < 40 := by omega
      have hb1 := below_one wr (.cells #[.int .i64 kd, .int .i64 nw, .string m.src, .int .i64 m.tick, .int .u8 m.q, .bool m.rt, .slice Am m.ps.length cm, .string m.tp, .string m.pl] 71)
      have HX1 := Lib.hid (heap_alloc_new wr (.cells #[.int .i64 kd, .int .i64 nw, .string m.src, .int .i64 m.tick, .int .u8 m.q, .bool m.rt, .slice Am m.ps.length cm, .string m.tp, .string m.pl] 71))
      have HP6 := Lib.hid (HP5.out.below hb1)
      have HIN6 := Lib.hid (show MsIn (wr.alloc (.cells #[.int .i64 kd, .int .i64 nw, .string m.src, .int .i64 m.tick, .int .u8 m.q, .bool m.rt, .slice Am m.ps.length cm, .string m.tp, .string m.pl] 71)) m (.slice Am m.ps.length cm) from ⟨⟨HIN.out.ps.at_.keep (fun g _ hl => hb1.block g hl) hb1.size, hmin.ps.len, hmin.ps.num⟩, hmin.s0, hmin.s1, hmin.s2, hmin.t0, hmin.q0⟩)
      obtain ⟨dk, dn, d0, d1, d2, d3, d4, d5, d6⟩ := cells9 HX1.out
      have HLT := Lib.hid hlt
      have HQ5 := Lib.hid HP5.out.q.lt
      clear hx hmin hc bel hb1 HIN HP5
      generalize hnm : m.ps.length = nm at *
      have HNM := Lib.hid hnm
      clear hnm
      go_upto_block 2 with fail
      have hXl := HP6.out.len
      have HYL := Lib.hid HP6.out.lenY
      go_cut [6] from 45 to 147 (fun l wx => ∃ (X : List Ms) (b bl ol cl : Nat) (Y : List (Ms × Value)), l = .slice (some ⟨bl, ol, none⟩) Y.length cl ∧ Ply w p a0 X b bl ol cl Y (k + 1) wx)
      case first =>
        generalize wr.alloc (.cells #[.int .i64 kd, .int .i64 nw, .string m.src, .int .i64 m.tick, .int .u8 m.q, .bool m.rt, .slice Am nm cm, .string m.tp, .string m.pl] 71) = w5 at *
        by_cases h1 : kd = 1
        ·
          subst h1
          have hqlt := HP6.out.q.lt
          go_wp2_with fail
          refine (few12_calls w5 m _ HIN6.out).mono ?_
          rintro e w6 ⟨v6, rfl, hm6, hf6, hb6⟩
          obtain ⟨A4, c4, rfl⟩ := hm6.ps.form
          have HNU := Lib.hid (fewM_num HIN6.out)
          generalize fewM m = f at *
          generalize hnf : f.ps.length = nf at *
          have hp6 := HP6.out.below hb6
          have hb7 := below_one w6 (.cells #[.string f.src, .int .i64 f.tick, .int .u8 f.q, .bool f.rt, .slice A4 nf c4, .string f.tp, .string f.pl] 50)
          have HX7 := Lib.hid (heap_alloc_new w6 (.cells #[.string f.src, .int .i64 f.tick, .int .u8 f.q, .bool f.rt, .slice A4 nf c4, .string f.tp, .string f.pl] 50))
          have HP7 := Lib.hid (hp6.below hb7)
          have HM7 := Lib.hid (hm6.below hb7)
          have HFR := Lib.hid (show ∀ g, (Value.slice A4 nf c4).ownBlock = some g → g ≠ p ∧ g ≠ b from fun g hg => by have := hf6 g hg; omega)
          obtain ⟨d0, d1, d2, d3, d4, d5, d6, df⟩ := cells7 HX7.out
          have HNF := Lib.hid hnf
          have hz6 := hb6.size
          clear hm6 hf6 hb6 hp6 hb7 hnf dk dn
          go_wp2_with fail
          generalize w6.alloc (.cells #[.string f.src, .int .i64 f.tick, .int .u8 f.q, .bool f.rt, .slice A4 nf c4, .string f.tp, .string f.pl] 50) = w7 at *
          refine (qPush_calls w7 p b a0 X f _ HP7.out.q HM7.out HFR.out (by omega)).mono ?_
          intro e w8 h8
          obtain ⟨X', b', xm, xv, ok, rfl, hs⟩ := push_q h8
          obtain ⟨Ax, cx, rfl⟩ := hs.told.ps.form
          have hx8 := (hs.mv.block _ (lt_of_block HX7.out) (fun e => by omega)).trans HX7.out
          have hm8 := HM7.out.keep (fun g hg hl => hs.mv.block g hl (fun e => by have := HFR.out g hg; omega)) hs.mv.size
          have HS := Lib.hid hs
          clear h8 hs d0 d1 d2 d3 d4 d5 d6 df
          generalize hnx : xm.ps.length = nx at *
          have HNX := Lib.hid hnx
          clear hnx
          have hb9 := below_one w8 (.cells #[.string xm.src, .int .i64 xm.tick, .int .u8 xm.q, .bool xm.rt, .slice Ax nx cx, .string xm.tp, .string xm.pl] 50)
          have HXX := Lib.hid (heap_alloc_new w8 (.cells #[.string xm.src, .int .i64 xm.tick, .int .u8 xm.q, .bool xm.rt, .slice Ax nx cx, .string xm.tp, .string xm.pl] 50))
          have HB9 := Lib.hid hb9
          have HM9 := Lib.hid (hm8.below hb9)
          obtain ⟨d0, d1, d2, d3, d4, d5, d6, df⟩ := cells7 ((hb9.block _ (lt_of_block hx8)).trans hx8)
          have hl8 := lt_of_block hx8
          clear hb9 hx8 hm8
          go_wp2_with fail
          generalize w8.alloc (.cells #[.string xm.src, .int .i64 xm.tick, .int .u8 xm.q, .bool xm.rt, .slice Ax nx cx, .string xm.tp, .string xm.pl] 50) = w9 at *
          refine (told12_own w9 f _ HM9.out).mono ?_
          rintro e w10 ⟨ta, tn, tc, rfl, hta, hto, hb10⟩
          obtain ⟨ta', tc', hte⟩ := hta.form
          injection hte with e1 e2 e3
          subst e1 e2 e3
          have HMT := Lib.hid (show MsAt w10 f (.slice ta f.ps.length tc) from ⟨hta, HM9.out.len⟩)
          have HB10 := Lib.hid (Below.next HB9.out hb10)
          obtain ⟨t1, -, -, -, -⟩ := HP7.out.turn HS.out.mv HS.out.new
          have HY10 := Lib.hid (t1.below HB10.out)
          have HTO := Lib.hid (show ∀ g, (Value.slice ta f.ps.length tc).ownBlock = some g → w8.heap.size ≤ g ∧ g < w10.heap.size from fun g hg => by have := hto g hg; have := HB9.out.size; omega)
          have HX10 := Lib.hid ((hb10.block _ (lt_of_block HXX.out)).trans HXX.out)
          have hYn : Y.length ≤ 40 := by have := HYL.out; omega
          clear hta hto hb10 t1 d0 d1 d2 d3 d4 d5 d6 df
          go_wp2_with fail
          all_goals
            refine (rPush_calls w10 bl ol cl Y Y.length f _ _ HY10.out rfl (by omega) HMT.out).mono ?_
            intro e w11 h11
            obtain ⟨b2, o2, c2, Y', xm', xv', ok', rfl, hr⟩ := push_r h11 HY10.out.each HMT.out
            obtain ⟨e1, e2, hply⟩ := HP7.out.pushed HS.out HB10.out HTO.out HMT.out HNU.out hr (by omega)
            subst e1 e2
            obtain ⟨Ay, cy, rfl⟩ := hr.told.ps.form
            have hyt := hr.told
            rw [HNX.out] at hyt ⊢
            have hb12 := below_one w11 (.cells #[.string xm.src, .int .i64 xm.tick, .int .u8 xm.q, .bool xm.rt, .slice Ay nx cy, .string xm.tp, .string xm.pl] 77)
            have hy12 := heap_alloc_new w11 (.cells #[.string xm.src, .int .i64 xm.tick, .int .u8 xm.q, .bool xm.rt, .slice Ay nx cy, .string xm.tp, .string xm.pl] 77)
            have hx11 := (hr.bel.block _ (lt_of_block HX10.out)).trans HX10.out
            have hx12 := (hb12.block _ (lt_of_block hx11)).trans hx11
            have HPL := Lib.hid (hply.below hb12)
            have HYT := Lib.hid (hyt.below hb12)
            have HXM := Lib.hid (((HS.out.told.below HB10.out).below hr.bel).below hb12)
            have HY12 := Lib.hid (drew_heap hy12)
            obtain ⟨d0, d1, d2, d3, d4, d5, d6, df⟩ := cells7 hx12
            obtain ⟨g0, g1, g2, g3, g4, g5, g6, gf⟩ := cells7 hy12
            clear h11 hr hply hyt hb12 hy12 hx11 hx12
            go_wp2_with fail
            generalize w11.alloc (.cells #[.string xm.src, .int .i64 xm.tick, .int .u8 xm.q, .bool xm.rt, .slice Ay nx cy, .string xm.tp, .string xm.pl] 77) = w12 at *
            have HXD := Lib.hid (show MsAt w12.drew xm (.slice Ax nx cx) from HXM.out.below (Below.refl _ _).drew)
            have HYD := Lib.hid (show MsAt w12.drew xm (.slice Ay nx cy) from HYT.out.below (Below.refl _ _).drew)
            go_region_law (first
              | (go_simp; go_at_call 32; (with_reducible refine (told12_calls w12.drew xm (.slice Ax nx cx) HXD.out).mono ?_); rintro e V1 ⟨ta, tn, tc, rfl, hta, hb1⟩; have TA := Lib.hid hta; have B1 := Lib.hid hb1; have TB := Lib.hid (HYD.out.below hb1); obtain ⟨e0, e1, e2, e3, e4, e5, e6, ef⟩ := cells7 ((hb1.block _ (lt_of_block HY12.out)).trans HY12.out); clear hta hb1)
              | (go_simp; go_at_call 33; refine (same12_calls V1 xm _ _ TA.out TB.out.ps HXD.out.len).mono ?_; rintro e V3 ⟨rfl, hb3⟩; have B3 := Lib.hid (Below.next B1.out hb3); clear hb3))
            all_goals
              have HF := Lib.hid (HPL.out.below (Below.trans ((Below.refl _ _).drew) B3.out))
              clear e0 e1 e2 e3 e4 e5 e6 d0 d1 d2 d3 d4 d5 d6 df g0 g1 g2 g3 g4 g5 g6 gf
              go_wp2
              go_meet
              exact ⟨_, _, _, _, _, _, rfl, HF.out⟩
        by_cases h2 : kd = 2
        ·
          subst h2
          have hqlt := HP6.out.q.lt
          have hyl := HP6.out.y.lt
          go_wp2_with fail
          refine (qFirst_calls w5 p b a0 X HP6.out.q (by omega)).mono ?_
          rintro e w6 ⟨m1, v1, rfl, hm1, -, hb6⟩
          obtain ⟨Ax, cx, rfl⟩ := hm1.ps.form
          have hp6 := HP6.out.below hb6
          generalize hnx : m1.ps.length = nx1 at *
          have hb7 := below_one w6 (.cells #[.string m1.src, .int .i64 m1.tick, .int .u8 m1.q, .bool m1.rt, .slice Ax nx1 cx, .string m1.tp, .string m1.pl] 50)
          have hx7 := heap_alloc_new w6 (.cells #[.string m1.src, .int .i64 m1.tick, .int .u8 m1.q, .bool m1.rt, .slice Ax nx1 cx, .string m1.tp, .string m1.pl] 50)
          have HP7 := Lib.hid (hp6.below hb7)
          have hk6 := (hb6.block _ (lt_of_block HX1.out)).trans HX1.out
          have hk7 := (hb7.block _ (lt_of_block hk6)).trans hk6
          obtain ⟨dk, dn, d0, d1, d2, d3, d4, d5, d6⟩ := cells9 hk7
          have HK7 := Lib.hid hk7
          have HX7 := Lib.hid hx7
          have hz6 := hb6.size
          have hlk := lt_of_block HX1.out
          generalize decide (0 < X.length) = okf at *
          clear hm1 hp6 hnx hb6 hb7 hx7 hk6 hk7
          go_wp2_with fail
          generalize w6.alloc (.cells #[.string m1.src, .int .i64 m1.tick, .int .u8 m1.q, .bool m1.rt, .slice Ax nx1 cx, .string m1.tp, .string m1.pl] 50) = w7 at *
          refine (qPop_calls w7 p b a0 X HP7.out.q (by omega)).mono ?_
          intro e w8 h8
          rcases h8 with ⟨rfl, rfl, hq8, hb8⟩ | ⟨x, X2, v2, rfl, rfl, hm8, hq8, hmv⟩
          · have hyn : Y.length = 0 := by have := HYL.out; simpa using this
            have hyy : Y = [] := List.eq_nil_of_length_eq_zero hyn
            subst hyy
            have hx8 := (hb8.block _ (lt_of_block HX7.out)).trans HX7.out
            have hk8 := (hb8.block _ (lt_of_block HK7.out)).trans HK7.out
            have hp8 := HP7.out.below hb8
            have HX8 := Lib.hid hx8
            have HF := Lib.hid (((hp8.later.box (o := 0) (a0 := .string ⟨#[]⟩) (a1 := .int .i64 0) (a2 := .int .u8 0) (a3 := .bool false) (a4 := .slice none 0 0) (a5 := .string ⟨#[]⟩) (a6 := .string ⟨#[]⟩) ⟨_, _, _, _, _, _, _, _, hx8⟩ (by omega) (by omega) (by omega) (by have := HP6.out.bel.size; omega))).below (Below.refl _ _).drew)
            have HK9 := Lib.hid (show (put7 w8 w6.heap.size 0 (.string ⟨#[]⟩) (.int .i64 0) (.int .u8 0) (.bool false) (.slice none 0 0) (.string ⟨#[]⟩) (.string ⟨#[]⟩)).heap[wr.heap.size]? = _ from (put7_other (by omega)).trans hk8)
            obtain ⟨g0, g1, g2, g3, g4, g5, g6, gf⟩ := cells7 hx8
            clear hyn hx8 hk8 hp8 hq8 hb8 dk dn d0 d1 d2 d3 d4 d5 d6
            go_wp2_with fail
            change Code.wp _ _ _ _ (put7 w8 w6.heap.size 0 _ _ _ _ _ _ _)
            generalize put7 w8 w6.heap.size 0 (.string ⟨#[]⟩) (.int .i64 0) (.int .u8 0) (.bool false) (.slice none 0 0) (.string ⟨#[]⟩) (.string ⟨#[]⟩) = w9 at *
            obtain ⟨dk, dn, d0, d1, d2, d3, d4, d5, d6⟩ := cells9 HK9.out
            clear g0 g1 g2 g3 g4 g5 g6 gf
            go_region
            all_goals
              go_wp2
              go_meet
              exact ⟨_, _, _, _, _, _, rfl, HF.out⟩
          · have hq5 := HQ5.out
            obtain ⟨Ax2, cx2, rfl⟩ := hm8.ps.form
            have hx8 := (hmv.block _ (lt_of_block HX7.out) (fun e => by omega)).trans HX7.out
            have hk8 := (hmv.block _ (lt_of_block HK7.out) (fun e => by omega)).trans HK7.out
            have hbx : BoxM w8 w6.heap.size := ⟨_, _, _, _, _, _, _, _, hx8⟩
            obtain ⟨⟨x', vy⟩, hy⟩ : ∃ x, Y[0]? = some x := ⟨_, List.getElem?_eq_getElem (by rw [HYL.out]; simp)⟩
            have hxx : x = x' := by
              have h1 : (Y.map Prod.fst)[0]? = some x' := by rw [List.getElem?_map, hy]; rfl
              rw [HP7.out.eq] at h1
              simpa using h1
            subst hxx
            obtain ⟨t1, t2, t3, t4, t5⟩ := HP7.out.turn hmv (.inl rfl)
            have hym := t1.each _ (List.mem_of_getElem? hy)
            dsimp only at hym
            obtain ⟨Ay, cy, rfl⟩ := hym.ps.form
            have hposn : 0 < Y.length := by rw [HYL.out]; simp
            have hfit := t1.row.fit
            rw [cellsQ_len] at hfit
            obtain ⟨od, hod, hod1⟩ : ∃ od, (if cl = 1 then some (⟨bl, ol, none⟩ : Addr) else some ⟨bl, ol + 7, none⟩) = some ⟨bl, od, none⟩ ∧ (1 < cl → od = ol + 7) := by
              by_cases hc : cl = 1
              · exact ⟨ol, by rw [if_pos hc], fun h => by omega⟩
              · exact ⟨ol + 7, by rw [if_neg hc], fun h => rfl⟩
            generalize hnx2 : x.ps.length = nx at *
            have hT := HP7.out.tail hq8 hmv od hod1
            have hsz := HP6.out.bel.size
            have HF := Lib.hid (hT.box (o := 0) (a0 := .string x.src) (a1 := .int .i64 x.tick) (a2 := .int .u8 x.q) (a3 := .bool x.rt) (a4 := .slice Ax2 nx cx2) (a5 := .string x.tp) (a6 := .string x.pl) hbx (by omega) (by omega) (by omega) (by omega))
            have hR9 := t1.box (o := 0) (a0 := .string x.src) (a1 := .int .i64 x.tick) (a2 := .int .u8 x.q) (a3 := .bool x.rt) (a4 := .slice Ax2 nx cx2) (a5 := .string x.tp) (a6 := .string x.pl) hbx (by omega)
            have HK9 := Lib.hid (show (put7 w8 w6.heap.size 0 (.string x.src) (.int .i64 x.tick) (.int .u8 x.q) (.bool x.rt) (.slice Ax2 nx cx2) (.string x.tp) (.string x.pl)).heap[wr.heap.size]? = _ from (put7_other (by omega)).trans hk8)
            have HG9 := Lib.hid (put7_block (a0 := .string x.src) (a1 := .int .i64 x.tick) (a2 := .int .u8 x.q) (a3 := .bool x.rt) (a4 := .slice Ax2 nx cx2) (a5 := .string x.tp) (a6 := .string x.pl) hx8)
            have HM9 := Lib.hid (hm8.box (w' := put7 w8 w6.heap.size 0 (.string x.src) (.int .i64 x.tick) (.int .u8 x.q) (.bool x.rt) (.slice Ax2 nx cx2) (.string x.tp) (.string x.pl)) hbx put7_size (fun _ hk => put7_other hk))
            have HYM := Lib.hid (hym.box (w' := put7 w8 w6.heap.size 0 (.string x.src) (.int .i64 x.tick) (.int .u8 x.q) (.bool x.rt) (.slice Ax2 nx cx2) (.string x.tp) (.string x.pl)) hbx put7_size (fun _ hk => put7_other hk))
            have HR := Lib.hid (fun V hV => (hR9.below (w' := V) hV).first hy)
            have HOD := Lib.hid hod
            obtain ⟨g0, g1, g2, g3, g4, g5, g6, gf⟩ := cells7 hx8
            generalize hNY : Y.length = NY at *
            have HNY := Lib.hid hNY
            clear hx8 hk8 hbx t1 t2 t3 t4 t5 hym hm8 hq8 hmv hnx2 hT hR9 hod1 hNY hy hod dk dn d0 d1 d2 d3 d4 d5 d6
            go_wp2_with fail
            change Code.wp _ _ _ _ (put7 w8 w6.heap.size 0 _ _ _ _ _ _ _)
            generalize put7 w8 w6.heap.size 0 (.string x.src) (.int .i64 x.tick) (.int .u8 x.q) (.bool x.rt) (.slice Ax2 nx cx2) (.string x.tp) (.string x.pl) = w9 at *
            have hpos : (0 : Int) < (NY : Int) := by omega
            obtain ⟨dk, dn, d0, d1, d2, d3, d4, d5, d6⟩ := cells9 HK9.out
            clear g0 g1 g2 g3 g4 g5 g6 gf
            have HXD := Lib.hid (show MsAt w9.drew x (.slice Ax2 nx cx2) from HM9.out.below (Below.refl _ _).drew)
            have HYD := Lib.hid (show MsAt w9.drew x (.slice Ay nx cy) from HYM.out.below (Below.refl _ _).drew)
            have HG9d := Lib.hid (drew_heap HG9.out)
            have HKA := Lib.hid (show (fun V : World => (V.cell? ⟨w6.heap.size, 0, none⟩ = some (.string x.src) ∧ V.cell? ⟨w6.heap.size, 1, none⟩ = some (.int .i64 x.tick) ∧ V.cell? ⟨w6.heap.size, 2, none⟩ = some (.int .u8 x.q) ∧ V.cell? ⟨w6.heap.size, 3, none⟩ = some (.bool x.rt) ∧ V.cell? ⟨w6.heap.size, 4, none⟩ = some (.slice Ax2 nx cx2) ∧ V.cell? ⟨w6.heap.size, 5, none⟩ = some (.string x.tp) ∧ V.cell? ⟨w6.heap.size, 6, none⟩ = some (.string x.pl)) ∧ (V.cell? ⟨bl, ol, none⟩ = some (.string x.src) ∧ V.cell? ⟨bl, ol + 1, none⟩ = some (.int .i64 x.tick) ∧ V.cell? ⟨bl, ol + 2, none⟩ = some (.int .u8 x.q) ∧ V.cell? ⟨bl, ol + 3, none⟩ = some (.bool x.rt) ∧ V.cell? ⟨bl, ol + 4, none⟩ = some (.slice Ay nx cy) ∧ V.cell? ⟨bl, ol + 5, none⟩ = some (.string x.tp) ∧ V.cell? ⟨bl, ol + 6, none⟩ = some (.string x.pl))) w9.drew from by obtain ⟨p0, p1, p2, p3, p4, p5, p6, pf⟩ := cells7 HG9d.out; exact ⟨⟨p0, p1, p2, p3, p4, p5, p6⟩, HR.out w9.drew (Below.refl _ _).drew⟩)
            go_region_held3 (fun V => (V.cell? ⟨w6.heap.size, 0, none⟩ = some (.string x.src) ∧ V.cell? ⟨w6.heap.size, 1, none⟩ = some (.int .i64 x.tick) ∧ V.cell? ⟨w6.heap.size, 2, none⟩ = some (.int .u8 x.q) ∧ V.cell? ⟨w6.heap.size, 3, none⟩ = some (.bool x.rt) ∧ V.cell? ⟨w6.heap.size, 4, none⟩ = some (.slice Ax2 nx cx2) ∧ V.cell? ⟨w6.heap.size, 5, none⟩ = some (.string x.tp) ∧ V.cell? ⟨w6.heap.size, 6, none⟩ = some (.string x.pl)) ∧ (V.cell? ⟨bl, ol, none⟩ = some (.string x.src) ∧ V.cell? ⟨bl, ol + 1, none⟩ = some (.int .i64 x.tick) ∧ V.cell? ⟨bl, ol + 2, none⟩ = some (.int .u8 x.q) ∧ V.cell? ⟨bl, ol + 3, none⟩ = some (.bool x.rt) ∧ V.cell? ⟨bl, ol + 4, none⟩ = some (.slice Ay nx cy) ∧ V.cell? ⟨bl, ol + 5, none⟩ = some (.string x.tp) ∧ V.cell? ⟨bl, ol + 6, none⟩ = some (.string x.pl)))
              (first | (with_reducible exact HKA.out) | (with_reducible exact HKB.out) | (with_reducible exact HKC.out) | fail)
              (first
                | (go_at_call 32; (with_reducible refine (told12_calls w9.drew x (.slice Ax2 nx cx2) HXD.out).mono ?_); rintro e V1 ⟨ta, tn, tc, rfl, hta, hb1⟩; have TA := Lib.hid hta; have B1 := Lib.hid hb1; have TB := Lib.hid (HYD.out.below hb1); have HKB := Lib.hid (show (fun V : World => (V.cell? ⟨w6.heap.size, 0, none⟩ = some (.string x.src) ∧ V.cell? ⟨w6.heap.size, 1, none⟩ = some (.int .i64 x.tick) ∧ V.cell? ⟨w6.heap.size, 2, none⟩ = some (.int .u8 x.q) ∧ V.cell? ⟨w6.heap.size, 3, none⟩ = some (.bool x.rt) ∧ V.cell? ⟨w6.heap.size, 4, none⟩ = some (.slice Ax2 nx cx2) ∧ V.cell? ⟨w6.heap.size, 5, none⟩ = some (.string x.tp) ∧ V.cell? ⟨w6.heap.size, 6, none⟩ = some (.string x.pl)) ∧ (V.cell? ⟨bl, ol, none⟩ = some (.string x.src) ∧ V.cell? ⟨bl, ol + 1, none⟩ = some (.int .i64 x.tick) ∧ V.cell? ⟨bl, ol + 2, none⟩ = some (.int .u8 x.q) ∧ V.cell? ⟨bl, ol + 3, none⟩ = some (.bool x.rt) ∧ V.cell? ⟨bl, ol + 4, none⟩ = some (.slice Ay nx cy) ∧ V.cell? ⟨bl, ol + 5, none⟩ = some (.string x.tp) ∧ V.cell? ⟨bl, ol + 6, none⟩ = some (.string x.pl))) V1 from by obtain ⟨p0, p1, p2, p3, p4, p5, p6, pf⟩ := cells7 ((hb1.block _ (lt_of_block HG9d.out)).trans HG9d.out); exact ⟨⟨p0, p1, p2, p3, p4, p5, p6⟩, HR.out V1 (Below.trans (Below.refl _ _).drew hb1)⟩); clear hta hb1)
                | (go_at_call 33; refine (same12_calls V1 x _ _ TA.out TB.out.ps HXD.out.len).mono ?_; rintro e V3 ⟨rfl, hb3⟩; have B3 := Lib.hid (Below.next B1.out hb3); have HKC := Lib.hid (show (fun V : World => (V.cell? ⟨w6.heap.size, 0, none⟩ = some (.string x.src) ∧ V.cell? ⟨w6.heap.size, 1, none⟩ = some (.int .i64 x.tick) ∧ V.cell? ⟨w6.heap.size, 2, none⟩ = some (.int .u8 x.q) ∧ V.cell? ⟨w6.heap.size, 3, none⟩ = some (.bool x.rt) ∧ V.cell? ⟨w6.heap.size, 4, none⟩ = some (.slice Ax2 nx cx2) ∧ V.cell? ⟨w6.heap.size, 5, none⟩ = some (.string x.tp) ∧ V.cell? ⟨w6.heap.size, 6, none⟩ = some (.string x.pl)) ∧ (V.cell? ⟨bl, ol, none⟩ = some (.string x.src) ∧ V.cell? ⟨bl, ol + 1, none⟩ = some (.int .i64 x.tick) ∧ V.cell? ⟨bl, ol + 2, none⟩ = some (.int .u8 x.q) ∧ V.cell? ⟨bl, ol + 3, none⟩ = some (.bool x.rt) ∧ V.cell? ⟨bl, ol + 4, none⟩ = some (.slice Ay nx cy) ∧ V.cell? ⟨bl, ol + 5, none⟩ = some (.string x.tp) ∧ V.cell? ⟨bl, ol + 6, none⟩ = some (.string x.pl))) V3 from by obtain ⟨p0, p1, p2, p3, p4, p5, p6, pf⟩ := cells7 ((B3.out.block _ (lt_of_block HG9d.out)).trans HG9d.out); exact ⟨⟨p0, p1, p2, p3, p4, p5, p6⟩, HR.out V3 (Below.trans (Below.refl _ _).drew B3.out)⟩); clear hb3))
            rename_i hHeld
            clear hHeld HKA HKB HKC
            have HF2 := Lib.hid (HF.out.below (Below.trans ((Below.refl _ _).drew) B3.out))
            have hkf := (B3.out.block _ (lt_of_block (drew_heap HK9.out))).trans (drew_heap HK9.out)
            clear dk dn d0 d1 d2 d3 d4 d5 d6
            obtain ⟨dk, dn, d0, d1, d2, d3, d4, d5, d6⟩ := cells9 hkf
            have hod := HOD.out
            have h1n : (1 : Int) ≤ (NY : Int) := by omega
            have hnc : (NY : Int) ≤ (cl : Int) := by omega
            go_wp2
            go_meet
            exact ⟨X2, b, bl, od, cl - 1, Y.tail, by rw [List.length_tail, HNY.out], HF2.out⟩
        by_cases h4 : kd = 4
        ·
          subst h4
          have hqlt := HP6.out.q.lt
          have hyl := HP6.out.y.lt
          go_wp2_with fail
          refine (qFirst_calls w5 p b a0 X HP6.out.q (by omega)).mono ?_
          rintro e w6 ⟨m1, v1, rfl, hm1, hsel, hb6⟩
          obtain ⟨Ax, cx, rfl⟩ := hm1.ps.form
          have hp6 := HP6.out.below hb6
          generalize hnx : m1.ps.length = nx at *
          have HNX := Lib.hid hnx
          have hb7 := below_one w6 (.cells #[.string m1.src, .int .i64 m1.tick, .int .u8 m1.q, .bool m1.rt, .slice Ax nx cx, .string m1.tp, .string m1.pl] 50)
          have hx7 := heap_alloc_new w6 (.cells #[.string m1.src, .int .i64 m1.tick, .int .u8 m1.q, .bool m1.rt, .slice Ax nx cx, .string m1.tp, .string m1.pl] 50)
          have HP7 := Lib.hid (hp6.below hb7)
          have HM7 := Lib.hid (hm1.below hb7)
          have hk6 := (hb6.block _ (lt_of_block HX1.out)).trans HX1.out
          have hk7 := (hb7.block _ (lt_of_block hk6)).trans hk6
          obtain ⟨dk, dn, d0, d1, d2, d3, d4, d5, d6⟩ := cells9 hk7
          obtain ⟨g0, g1, g2, g3, g4, g5, g6, gf⟩ := cells7 hx7
          have HSEL := Lib.hid hsel
          have HG7 := Lib.hid (drew_heap hx7)
          have HK7 := Lib.hid hk7
          clear hm1 hp6 hnx hb6 hb7 hx7 hk6 hk7 hsel
          by_cases hX0 : 0 < X.length
          · have hdec : decide (0 < X.length) = true := by simpa using hX0
            rw [hdec]
            obtain ⟨⟨x, vy⟩, hy⟩ : ∃ x, Y[0]? = some x := ⟨_, List.getElem?_eq_getElem (by have := HYL.out; omega)⟩
            have hxx : m1 = x := HSEL.out x (by rw [← HP7.out.eq, List.getElem?_map, hy]; rfl)
            subst hxx
            have hym := HP7.out.y.each _ (List.mem_of_getElem? hy)
            dsimp only at hym
            obtain ⟨Ay, cy, rfl⟩ := hym.ps.form
            rw [HNX.out] at hym hy
            have HR := Lib.hid (fun V hV => (HP7.out.y.below (w' := V) hV).first hy)
            obtain ⟨q0, q1, q2, q3, q4, q5, q6⟩ := HP7.out.y.first hy
            have HYM := Lib.hid hym
            have hposn : 0 < Y.length := by have := HYL.out; omega
            generalize hNY : Y.length = NY at *
            have hpos : (0 : Int) < (NY : Int) := by omega
            have HNY := Lib.hid hNY
            clear hdec hy hym hX0 hNY
            go_wp2_with fail
            generalize w6.alloc (.cells #[.string m1.src, .int .i64 m1.tick, .int .u8 m1.q, .bool m1.rt, .slice Ax nx cx, .string m1.tp, .string m1.pl] 50) = w7 at *
            have HXD := Lib.hid (show MsAt w7.drew m1 (.slice Ax nx cx) from HM7.out.below (Below.refl _ _).drew)
            have HYD := Lib.hid (show MsAt w7.drew m1 (.slice Ay nx cy) from HYM.out.below (Below.refl _ _).drew)
            have HKA := Lib.hid (show (fun V : World => (V.cell? ⟨w6.heap.size, 0, none⟩ = some (.string m1.src) ∧ V.cell? ⟨w6.heap.size, 1, none⟩ = some (.int .i64 m1.tick) ∧ V.cell? ⟨w6.heap.size, 2, none⟩ = some (.int .u8 m1.q) ∧ V.cell? ⟨w6.heap.size, 3, none⟩ = some (.bool m1.rt) ∧ V.cell? ⟨w6.heap.size, 4, none⟩ = some (.slice Ax nx cx) ∧ V.cell? ⟨w6.heap.size, 5, none⟩ = some (.string m1.tp) ∧ V.cell? ⟨w6.heap.size, 6, none⟩ = some (.string m1.pl)) ∧ (V.cell? ⟨bl, ol, none⟩ = some (.string m1.src) ∧ V.cell? ⟨bl, ol + 1, none⟩ = some (.int .i64 m1.tick) ∧ V.cell? ⟨bl, ol + 2, none⟩ = some (.int .u8 m1.q) ∧ V.cell? ⟨bl, ol + 3, none⟩ = some (.bool m1.rt) ∧ V.cell? ⟨bl, ol + 4, none⟩ = some (.slice Ay nx cy) ∧ V.cell? ⟨bl, ol + 5, none⟩ = some (.string m1.tp) ∧ V.cell? ⟨bl, ol + 6, none⟩ = some (.string m1.pl))) w7.drew from ⟨⟨g0, g1, g2, g3, g4, g5, g6⟩, q0, q1, q2, q3, q4, q5, q6⟩)
            go_region_held3 (fun V => (V.cell? ⟨w6.heap.size, 0, none⟩ = some (.string m1.src) ∧ V.cell? ⟨w6.heap.size, 1, none⟩ = some (.int .i64 m1.tick) ∧ V.cell? ⟨w6.heap.size, 2, none⟩ = some (.int .u8 m1.q) ∧ V.cell? ⟨w6.heap.size, 3, none⟩ = some (.bool m1.rt) ∧ V.cell? ⟨w6.heap.size, 4, none⟩ = some (.slice Ax nx cx) ∧ V.cell? ⟨w6.heap.size, 5, none⟩ = some (.string m1.tp) ∧ V.cell? ⟨w6.heap.size, 6, none⟩ = some (.string m1.pl)) ∧ (V.cell? ⟨bl, ol, none⟩ = some (.string m1.src) ∧ V.cell? ⟨bl, ol + 1, none⟩ = some (.int .i64 m1.tick) ∧ V.cell? ⟨bl, ol + 2, none⟩ = some (.int .u8 m1.q) ∧ V.cell? ⟨bl, ol + 3, none⟩ = some (.bool m1.rt) ∧ V.cell? ⟨bl, ol + 4, none⟩ = some (.slice Ay nx cy) ∧ V.cell? ⟨bl, ol + 5, none⟩ = some (.string m1.tp) ∧ V.cell? ⟨bl, ol + 6, none⟩ = some (.string m1.pl)))
              (first | (with_reducible exact HKA.out) | (with_reducible exact HKB.out) | (with_reducible exact HKC.out) | fail)
              (first
                | (go_at_call 32; (with_reducible refine (told12_calls w7.drew m1 (.slice Ax nx cx) HXD.out).mono ?_); rintro e V1 ⟨ta, tn, tc, rfl, hta, hb1⟩; have TA := Lib.hid hta; have B1 := Lib.hid hb1; have TB := Lib.hid (HYD.out.below hb1); have HKB := Lib.hid (show (fun V : World => (V.cell? ⟨w6.heap.size, 0, none⟩ = some (.string m1.src) ∧ V.cell? ⟨w6.heap.size, 1, none⟩ = some (.int .i64 m1.tick) ∧ V.cell? ⟨w6.heap.size, 2, none⟩ = some (.int .u8 m1.q) ∧ V.cell? ⟨w6.heap.size, 3, none⟩ = some (.bool m1.rt) ∧ V.cell? ⟨w6.heap.size, 4, none⟩ = some (.slice Ax nx cx) ∧ V.cell? ⟨w6.heap.size, 5, none⟩ = some (.string m1.tp) ∧ V.cell? ⟨w6.heap.size, 6, none⟩ = some (.string m1.pl)) ∧ (V.cell? ⟨bl, ol, none⟩ = some (.string m1.src) ∧ V.cell? ⟨bl, ol + 1, none⟩ = some (.int .i64 m1.tick) ∧ V.cell? ⟨bl, ol + 2, none⟩ = some (.int .u8 m1.q) ∧ V.cell? ⟨bl, ol + 3, none⟩ = some (.bool m1.rt) ∧ V.cell? ⟨bl, ol + 4, none⟩ = some (.slice Ay nx cy) ∧ V.cell? ⟨bl, ol + 5, none⟩ = some (.string m1.tp) ∧ V.cell? ⟨bl, ol + 6, none⟩ = some (.string m1.pl))) V1 from by obtain ⟨p0, p1, p2, p3, p4, p5, p6, pf⟩ := cells7 ((hb1.block _ (lt_of_block HG7.out)).trans HG7.out); exact ⟨⟨p0, p1, p2, p3, p4, p5, p6⟩, HR.out V1 (Below.trans (Below.refl _ _).drew hb1)⟩); clear hta hb1)
                | (go_at_call 33; refine (same12_calls V1 m1 _ _ TA.out TB.out.ps HXD.out.len).mono ?_; rintro e V3 ⟨rfl, hb3⟩; have B3 := Lib.hid (Below.next B1.out hb3); have HKC := Lib.hid (show (fun V : World => (V.cell? ⟨w6.heap.size, 0, none⟩ = some (.string m1.src) ∧ V.cell? ⟨w6.heap.size, 1, none⟩ = some (.int .i64 m1.tick) ∧ V.cell? ⟨w6.heap.size, 2, none⟩ = some (.int .u8 m1.q) ∧ V.cell? ⟨w6.heap.size, 3, none⟩ = some (.bool m1.rt) ∧ V.cell? ⟨w6.heap.size, 4, none⟩ = some (.slice Ax nx cx) ∧ V.cell? ⟨w6.heap.size, 5, none⟩ = some (.string m1.tp) ∧ V.cell? ⟨w6.heap.size, 6, none⟩ = some (.string m1.pl)) ∧ (V.cell? ⟨bl, ol, none⟩ = some (.string m1.src) ∧ V.cell? ⟨bl, ol + 1, none⟩ = some (.int .i64 m1.tick) ∧ V.cell? ⟨bl, ol + 2, none⟩ = some (.int .u8 m1.q) ∧ V.cell? ⟨bl, ol + 3, none⟩ = some (.bool m1.rt) ∧ V.cell? ⟨bl, ol + 4, none⟩ = some (.slice Ay nx cy) ∧ V.cell? ⟨bl, ol + 5, none⟩ = some (.string m1.tp) ∧ V.cell? ⟨bl, ol + 6, none⟩ = some (.string m1.pl))) V3 from by obtain ⟨p0, p1, p2, p3, p4, p5, p6, pf⟩ := cells7 ((B3.out.block _ (lt_of_block HG7.out)).trans HG7.out); exact ⟨⟨p0, p1, p2, p3, p4, p5, p6⟩, HR.out V3 (Below.trans (Below.refl _ _).drew B3.out)⟩); clear hb3))
            rename_i hHeld
            clear hHeld HKA HKB HKC
            have HF := Lib.hid ((HP7.out.below (Below.trans ((Below.refl _ _).drew) B3.out)).later)
            have hkf := (B3.out.block _ (lt_of_block HK7.out)).trans HK7.out
            clear dk dn d0 d1 d2 d3 d4 d5 d6 q0 q1 q2 q3 q4 q5 q6 g0 g1 g2 g3 g4 g5 g6 gf
            obtain ⟨dk, dn, d0, d1, d2, d3, d4, d5, d6⟩ := cells9 hkf
            go_wp2
            go_meet
            exact ⟨X, b, bl, ol, cl, Y, by rw [HNY.out], HF.out⟩
          · have hdec : decide (0 < X.length) = false := by simpa using hX0
            rw [hdec]
            have hpos : (Y.length : Int) = 0 := by have := HYL.out; omega
            have hyn : Y.length = 0 := by have := HYL.out; omega
            have hyy : Y = [] := List.eq_nil_of_length_eq_zero hyn
            subst hyy
            clear hdec hX0 hpos hyn
            go_wp2_with fail
            generalize w6.alloc (.cells #[.string m1.src, .int .i64 m1.tick, .int .u8 m1.q, .bool m1.rt, .slice Ax nx cx, .string m1.tp, .string m1.pl] 50) = w7 at *
            have HF := Lib.hid ((HP7.out.below (Below.refl _ _).drew).later)
            go_region
            all_goals
              go_wp2
              go_meet
              exact ⟨_, _, _, _, _, _, rfl, HF.out⟩
        have h1b : (kd == 1) = false := by simpa using h1
        have h2b : (kd == 2) = false := by simpa using h2
        have h4b : (kd == 4) = false := by simpa using h4
        by_cases h3 : kd = 3
        ·
          subst h3
          clear h1 h2 h4 h1b h2b h4b
          have ht := tickN_range nw
          have hYn : Y.length ≤ 40 := by have := HYL.out; omega
          go_wp2_with fail
          refine (tick_calls w5 nw).mono ?_
          rintro e w6 ⟨rfl, rfl⟩
          generalize tickN nw = now at *
          go_wp2_with fail
          refine (rParts_calls w5 bl ol cl Y Y.length now HP6.out.y rfl (by omega) (fun e he => HP6.out.num _ (by rw [← HP6.out.eq]; exact List.mem_map.2 ⟨e, he, rfl⟩)) (by omega) (by omega)).mono ?_
          rintro e w7 ⟨b1, o1, c1, b2, o2, c2, rfl, hs1, hg1, hb7⟩
          have HP7 := Lib.hid (HP6.out.below hb7)
          have hpl := HP6.out.q.lt
          have HS1 := Lib.hid hs1
          have HG1 := Lib.hid hg1
          have HE7 := Lib.hid (show ∀ e ∈ Y, MsAt w7 e.1 e.2 from fun e he => HP7.out.y.each e he)
          have hzw := HP6.out.bel.size
          clear hs1 hg1 hb7
          go_wp2_with fail
          refine (qExpire_calls w7 p b a0 now X HP7.out.q (by omega) HP7.out.num (by omega) (by omega)).mono ?_
          rintro e w8 ⟨A', b', off', cap', G, rfl, hG, hGX, hGE, hq, hmv⟩
          have hGY : G.map Prod.fst = (Y.filter (fun e => goneM e.1 now)).map Prod.fst := by rw [hGX, ← HP7.out.eq, List.filter_map]; rfl
          have hGl : G.length = (Y.filter (fun e => goneM e.1 now)).length := by have := congrArg List.length hGY; simpa using this
          obtain ⟨t1, t2, t3, t4, t5⟩ := HP7.out.turn hmv (.inl rfl)
          have hs2 := HS1.out.row.keep (w' := w8) (fun _ => hmv.block b1 HS1.out.lt (by have := HS1.out.new; omega))
          have hg2 := HG1.out.row.keep (w' := w8) (fun _ => hmv.block b2 HG1.out.lt (by have := HG1.out.new; omega))
          have HGS := Lib.hid (show RowS w8 b2 o2 c2 (Y.filter (fun e => goneM e.1 now)) from ⟨hg2, Nat.lt_of_lt_of_le HG1.out.lt hmv.size, fun e he => t1.each e (List.mem_filter.1 he).1⟩)
          have HFIN := Lib.hid (show Ply w p a0 (X.filter (fun m => !goneM m now)) b b1 o1 c1 (Y.filter (fun e => !goneM e.1 now)) (k + 1) w8 from
            ⟨hq, ⟨hs2, Nat.lt_of_lt_of_le HS1.out.lt hmv.size, fun e he => t1.each e (List.mem_filter.1 he).1⟩, by rw [← HP7.out.eq, List.filter_map]; rfl, by have := List.length_filter_le (fun m => !goneM m now) X; omega, fun m hm => HP7.out.num m (List.mem_filter.1 hm).1, HP7.out.hp, HP7.out.hb, by have := HS1.out.new; omega, by have := HS1.out.new; omega, fun e he => t3 e (List.mem_filter.1 he).1, t5⟩)
          have HIS := Lib.hid (l12is_calls w8 A' b' off' cap' G b2 o2 c2 _ _ hG.row hG.lt (fun e he => (hGE e he).1) HGS.out hGl rfl hGY (by have := List.length_filter_le (fun e : Ms × Value => goneM e.1 now) Y; omega))
          rw [hGl]
          clear hG hGX hGE hq hmv hGY hGl t1 t2 t3 t4 t5 hs2 hg2
          generalize (Y.filter (fun e => goneM e.1 now)).length = ng at *
          generalize Y.filter (fun e => !goneM e.1 now) = YS at *
          go_wp2_with fail
          refine HIS.out.mono ?_
          rintro e w9 ⟨rfl, hb9⟩
          have HF9 := Lib.hid (HFIN.out.below hb9)
          clear hb9
          go_wp2
          go_meet
          exact ⟨_, _, _, _, _, _, rfl, HF9.out⟩
        ·
          have h3b : (kd == 3) = false := by simpa using h3
          have HP7 := Lib.hid (show Ply w p a0 X b bl ol cl Y (k + 1) w5 from ⟨HP6.out.q, HP6.out.y, HP6.out.eq, by omega, HP6.out.num, HP6.out.hp, HP6.out.hb, HP6.out.bp, HP6.out.bb, HP6.out.far, HP6.out.bel⟩)
          go_wp2
          go_meet
          exact ⟨_, _, _, _, _, _, rfl, HP7.out⟩
      case rest =>
        obtain ⟨X, b, bl, ol, cl, Y, rfl, hp⟩ := hcut
        have hYX := hp.lenY
        have hXl := hp.len
        have HP7 := Lib.hid hp
        rw [hYX]
        clear hp
        go_wp2_with fail
        refine (qLen_calls wc p b a0 X HP7.out.q).mono ?_
        rintro e w7 ⟨rfl, rfl⟩
        go_wp2_with fail
        refine (qList_calls wc p b a0 X HP7.out.q (by omega)).mono ?_
        rintro e w8 ⟨AL, bL, oL, cL, L, rfl, hLX, hLM, hb8⟩
        have HP8 := Lib.hid (HP7.out.below hb8)
        have HIS := Lib.hid (l12is_calls w8 AL bL oL cL L bl ol cl Y X.length hLM.row hLM.lt hLM.each HP8.out.y (by rw [← hLX]; simp) hYX (by rw [hLX, HP8.out.eq]) (by omega))
        clear hLX hLM hb8
        go_wp2_with fail
        refine HIS.out.mono ?_
        rintro e w9 ⟨rfl, hb9⟩
        have HP9 := Lib.hid (HP8.out.below hb9)
        clear hb9
        go_wp2
        go_roundw
        case rel => exact ⟨k + 1, X, b, bl, ol, cl, Y, by omega, by omega, by go_num, by rw [hYX], HP9.out⟩
        case measure => simp [intOf]; omega
    · have hor : k = zs.length ∨ k = 40 := by omega
      have hcase : ¬ ((k : Int) < zs.length) ∨ ¬ ((k : Int) < 40) := by omega
      have HB := Lib.hid HP5.out.bel
      clear hlt
      by_cases h1 : (k : Int) < zs.length
      · have h2 : ¬ ((k : Int) < 40) := by omega
        go_wp2
        go_ret
        exact ⟨rfl, HB.out⟩
      · go_wp2
        go_ret
        exact ⟨rfl, HB.out⟩

set_option maxRecDepth 100000 in
theorem lifted (os : Os) (started : os.Started) (H : Type) (enc : TypeId × Value → H) :
    ReturnsInHanded {} Try.checked os 8 .any (Rows.queuePlaysSpec.pre6 enc Try.prog Try.f8 Rows.queuePlaysRow.domain false) (Rows.queuePlaysSpec.post enc Try.prog Try.f8 false true false false) := by
  refine returnsInHanded_of_change (C := Try.checked) own started (by kernel_rfl) Try.func8
    (ChangeSpec.witness6 (enc := enc) (C := Try.checked) false ⟨#[], #[.int .i64 0, .slice none 0 0], []⟩ 8 (by kernel_rfl) (by kernel_rfl) (by kernel_rfl) (by kernel_rfl)) ?_
  intro W base args ds gs before hval0 hW hcnd _
  have hval : ∀ (j : Nat) t v, Try.f8.params[j]? = some t → args[j]? = some v → Value.okWide Try.prog W .any base t v := hval0
  have hW' := hW
  obtain ⟨p, q, hA0, hV, rfl, hfz, hnd⟩ := hW
  have hA : DataW.TrodAll enc Try.prog W 0 (fun _ => true) true Try.f8.params.toList args.toList ds p := hA0
  rw [Try.params8] at hA hval
  obtain ⟨v0, vs0, d0, ds0, p0, q0, hargs, rfl, rfl, h0, r0⟩ := trodAll_cons hA
  obtain ⟨v1, vs1, d1, ds1, p1, q1, rfl, rfl, rfl, h1, r1⟩ := trodAll_cons r0
  obtain ⟨rfl, rfl, rfl⟩ := trodAll_nil r1
  obtain rfl : args = #[v0, v1] := by cases args; simp_all
  obtain ⟨rfl, rfl⟩ := trodVars_none hV
  obtain ⟨a0, rfl, rfl, rfl, w0⟩ := open_int Try.underlying3 (hval 0 3 v0 rfl rfl) h0
  have k1 := h1
  have lt1 : ∀ x ∈ p1, x.block < W.heap.size := by obtain ⟨m, hm⟩ := k1; exact DataW.trod_lt m _ _ _ hm
  obtain ⟨a1, w1⟩ := open_qactsIn (hval 1 66 v1 rfl rfl) h1
  clear hA0 hval0
  refine (walk a0 w0 v1 a1 W w1).mono fun e W' ⟨he, bel⟩ => ?_
  subst he
  exact ⟨_, rfl, _, _, _, [], _, [], hW', trodAll_mk1 (shut_bool Try.underlying4 _), (trodAll_cons_mk (shut_int Try.underlying3 w0) (trodAll_cons_mk (Below.trod laidOut (by kernel_rfl) (of_decide_eq_true (by kernel_rfl)) k1 bel lt1) trodAll_mk0)), rfl, bel.frame _, fun h => by cases h⟩

theorem over : Rows.queuePlaysRow.holds Try.pinned (OpenSpec.ofChange Rows.queuePlaysSpec) :=
  OpenClaim.holds_of_wide 8 Try.f8 rfl rfl rfl rfl rfl rfl rfl ⟨rfl, rfl, rfl, rfl, rfl⟩ rfl rfl rfl rfl rfl (by kernel_rfl) Try.func8 (by kernel_rfl)
    (of_decide_eq_true (by kernel_rfl)) (by unfold Func.isWrapper; first | (rw [if_pos (by decide +kernel)]; kernel_rfl) | (rw [if_neg (by decide +kernel)]; exact ⟨rfl, rfl⟩))
    (fun os started H enc _ => lifted os started H enc)

end Go.Proofs.Yteofjcmpelcmaaa.queuePlays
namespace Go.Proofs.Yteofjcmpelcmaaa
/-- The statement. -/
theorem queuePlays_holds : Rows.QueuePlaysSaid := queuePlays.over
#print axioms queuePlays_holds
end Go.Proofs.Yteofjcmpelcmaaa
