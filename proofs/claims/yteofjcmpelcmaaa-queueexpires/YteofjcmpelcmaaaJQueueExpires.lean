/-
  Behind Expire none that waits is gone, what is told as gone is, a later one tells only what went since: the statement QueueExpires of layer 16 is true.
  Its conditions: none beside those of the row itself.
-/
import Derived.Test.YteofjcmpelcmaaaJQue14
import Derived.ProofKit
import Derived.Deep.RegionHeld3
import Derived.Deep.CutRange
import Derived.OpenShut
import Derived.ShutString
import Derived.ChangeOld
namespace Go.Proofs.Yteofjcmpelcmaaa.queueExpires
open Go.ChangeShapes Go.WideShapes Go.ChangeAt Go.RowKit
open Go.ChangeMaps (open_string shut_string)
set_option linter.unusedVariables false

theorem own : ownKnob Try.prog.godebug = none := by kernel_rfl
theorem laidOut : laidOutB Try.prog = true := by kernel_rfl

set_option maxRecDepth 100000 in
set_option maxHeartbeats 8000000 in
theorem walk (v1 : Value) (zs : List (Ms × Value)) (a1 : Int) (w1 : (Lit.int .i64 a1).wf = true) (a2 : Int) (w2 : (Lit.int .i64 a2).wf = true) (w : World) (hz : MsgsIn w v1 zs) :
    Calls Try.prog 11 #[v1, .int .i64 a1, .int .i64 a2] w fun e w' => e = .returned (.bool true) ∧ Below w.heap.size w w' := by
  clear w1 w2
  obtain ⟨A, cap, rfl, hzl, hcell⟩ := hz
  have HCELL := Lib.hid hcell
  have hlm : zs.length ≤ 9223372036854775807 := by unfold maxLen at hzl; omega
  clear hcell hzl
  go_enter Try.func11, Try.ntmps11
  go_wp2_with fail
  refine (awake16_calls _).mono ?_
  rintro e w2 ⟨rfl, b2⟩
  have HB2 := Lib.hid b2
  clear b2
  go_wp2_with fail
  refine (qNew_calls w2 50).mono ?_
  rintro e w3 ⟨p, rfl, q3, hp3, b3⟩
  have hpw : w.heap.size ≤ p := Nat.le_trans HB2.out.size hp3
  have R3 := Lib.hid (show RunQ w p 50 [] p w3 from ⟨q3, by simp, hpw, hpw, Below.next HB2.out b3⟩)
  clear q3 hp3 b3 HB2
  go_wp2
  go_loopw [8] (fun i wr => ∃ (k : Nat) (X : List Ms) (b : Nat), k ≤ 40 ∧ i = .int .i64 k ∧ (∀ m ∈ X, m.num) ∧ RunQ w p 50 X b wr) (fun i _ => 40 - (intOf i).toNat)
  case atStart => exact ⟨0, [], p, by omega, rfl, (fun m hm => by cases hm), R3.out⟩
  case round =>
    obtain ⟨k, X, b, hk, rfl, hnm, hr⟩ := hrel
    have HR := Lib.hid hr
    have HNU := Lib.hid hnm
    clear hr hnm
    by_cases hlt : k < zs.length ∧ k < 40
    · obtain ⟨l1, l2⟩ := hlt
      obtain ⟨⟨m, v⟩, hx⟩ : ∃ x, zs[k]? = some x := ⟨_, List.getElem?_eq_getElem l1⟩
      obtain ⟨hmin, bb, off, hA, hbl, hc⟩ := HCELL.out k _ hx
      subst hA
      dsimp only at hmin hc
      obtain ⟨Am, cm, hv, -⟩ := hmin.ps.at_
      subst hv
      have a0' := hc 0 (by omega)
      have b1 := hc 1 (by omega)
      have b2 := hc 2 (by omega)
      have b3 := hc 3 (by omega)
      have b4 := hc 4 (by omega)
      have b5 := hc 5 (by omega)
      have b6 := hc 6 (by omega)
      rw [Nat.add_zero] at a0'
      simp only [List.getElem?_cons_zero, List.getElem?_cons_succ] at a0' b1 b2 b3 b4 b5 b6
      have bel := HR.out.bel
      rw [← bel.cell (p := ⟨bb, _, none⟩) hbl] at a0' b1 b2 b3 b4 b5 b6
      have hin : MsIn wr m (.slice Am m.ps.length cm) := ⟨⟨hmin.ps.at_.keep (fun g _ hl => bel.block g hl) bel.size, hmin.ps.len, hmin.ps.num⟩, hmin.s0, hmin.s1, hmin.s2, hmin.t0, hmin.q0⟩
      have HIN := Lib.hid hin
      have HFN := Lib.hid (fewM_num hin)
      have hkl : (k : Int) < zs.length := by omega
      have hk40 : (k : Int) < 40 := by omega
      clear hx hmin hc bel hin
      generalize m.ps.length = nm at *
      go_wp2_with fail
      refine (few12_calls wr m _ HIN.out).mono ?_
      rintro e w4 ⟨v4, rfl, hm4, hf4, hb4⟩
      obtain ⟨A4, c4, rfl⟩ := hm4.ps.form
      have HR4 := Lib.hid (HR.out.below hb4)
      have HM4 := Lib.hid hm4
      have HFR := Lib.hid (show ∀ g, (Value.slice A4 (fewM m).ps.length c4).ownBlock = some g → g ≠ p ∧ g ≠ b from fun g hg => by have := hf4 g hg; have h1 := HR.out.q.lt; omega)
      have hXl := HR4.out.len
      clear hm4 hf4 hb4 a0' b1 b2 b3 b4 b5 b6 HIN
      go_wp2_with fail
      refine (qPush_calls w4 p b 50 X (fewM m) _ HR4.out.q HM4.out HFR.out (by omega)).mono ?_
      intro e w7 h7
      obtain ⟨X', b', ok, xm, xv, rfl, hs⟩ := push_s h7 hXl
      obtain ⟨Ax, nx, cx, rfl⟩ := hs.xv
      have HR7 := Lib.hid (HR4.out.push hs)
      have HN7 := Lib.hid (show ∀ x ∈ X', x.num from fun x hx => by
        rcases List.mem_append.1 (hs.sub.subset hx) with h | h
        · exact HNU.out x h
        · obtain rfl : x = fewM m := by simpa using h
          exact HFN.out)
      clear h7 hs
      go_wp2
      go_roundw
      case rel => exact ⟨k + 1, X', b', by omega, by go_num, HN7.out, HR7.out⟩
      case measure => simp [intOf]; omega
    · have hXl := HR.out.len
      have hexit : ((k : Int) < zs.length ∧ k = 40) ∨ ¬ ((k : Int) < zs.length) := by omega
      have hXl5 : X.length ≤ 50 := by omega
      have ta := tickN_range a1
      have tb := tickN_range a2
      rcases hexit with ⟨hl, rfl⟩ | hkl
      all_goals
        clear hlt
        go_wp2_with fail
        refine (tick_calls wr a1).mono ?_
        rintro e w5 ⟨rfl, rfl⟩
        go_wp2_with fail
        refine (tick_calls wr a2).mono ?_
        rintro e w5 ⟨rfl, rfl⟩
        generalize tickN a1 = ta' at *
        generalize tickN a2 = tb' at *
        have hab : IntKind.i64.wrap (ta' + tb') = ta' + tb' := by rw [IntKind.wrap_i64]; omega
        go_wp2_with fail
        refine (qLen_calls wr p b 50 X HR.out.q).mono ?_
        rintro e w5 ⟨rfl, rfl⟩
        go_wp2_with fail
        refine (qExpire_calls wr p b 50 ta' X HR.out.q (by omega) HNU.out (by omega) (by omega)).mono ?_
        rintro e w6 ⟨A1, b1, o1, c1, G1, rfl, hg1, hG1, hE1, hq1, hmv1⟩
        have hS1 : (X.filter (fun m => !goneM m ta')).length ≤ X.length := List.length_filter_le _ _
        have HN1 := Lib.hid (show ∀ m ∈ X.filter (fun m => !goneM m ta'), m.num from fun m hm => HNU.out m (List.mem_filter.1 hm).1)
        have hpb := HR.out.q.lt
        have HR6 := Lib.hid (HR.out.moved hq1 hS1 hmv1)
        have hg1n : ∀ x ∈ G1, x.1.num ∧ goneM x.1 ta' = true := fun x hx => by
          have : x.1 ∈ X.filter (fun m => goneM m ta') := by rw [← hG1]; exact List.mem_map.2 ⟨x, hx, rfl⟩
          exact ⟨HNU.out _ (List.mem_filter.1 this).1, (List.mem_filter.1 this).2⟩
        have hl1 : G1.length = (X.filter (fun m => goneM m ta')).length := by rw [← hG1]; simp
        have HG1 := Lib.hid hg1
        have HE1 := Lib.hid hE1
        have HGN1 := Lib.hid hg1n
        have HL1 := Lib.hid hl1
        have HF1 := Lib.hid (filter_two (fun m => goneM m ta') X)
        have HX1e := Lib.hid (show ∀ m ∈ X.filter (fun m => !goneM m ta'), goneM m ta' = false from fun m hm => by have := (List.mem_filter.1 hm).2; simpa using this)
        clear hg1 hG1 hE1 hq1 hmv1 hg1n hl1
        generalize X.filter (fun m => !goneM m ta') = X1 at *
        have hzw := HR6.out.bel.size
        go_wp2_with fail
        refine (qExpire_calls w6 p b 50 (ta' + tb') X1 HR6.out.q (by omega) HN1.out (by omega) (by omega)).mono ?_
        rintro e w7 ⟨A2, b2, o2, c2, G2, rfl, hg2, hG2, hE2, hq2, hmv2⟩
        have hS2 : (X1.filter (fun m => !goneM m (ta' + tb'))).length ≤ X1.length := List.length_filter_le _ _
        have HN2 := Lib.hid (show ∀ m ∈ X1.filter (fun m => !goneM m (ta' + tb')), m.num ∧ goneM m (ta' + tb') = false from fun m hm => ⟨HN1.out m (List.mem_filter.1 hm).1, by have := (List.mem_filter.1 hm).2; simpa using this⟩)
        have HR7 := Lib.hid (HR6.out.moved hq2 hS2 hmv2)
        have hg2n : ∀ x ∈ G2, x.1.num ∧ goneM x.1 ta' = false ∧ goneM x.1 (ta' + tb') = true := fun x hx => by
          have : x.1 ∈ X1.filter (fun m => goneM m (ta' + tb')) := by rw [← hG2]; exact List.mem_map.2 ⟨x, hx, rfl⟩
          exact ⟨HN1.out _ (List.mem_filter.1 this).1, HX1e.out _ (List.mem_filter.1 this).1, (List.mem_filter.1 this).2⟩
        have hl2 : G2.length = (X1.filter (fun m => goneM m (ta' + tb'))).length := by rw [← hG2]; simp
        have HG1' := Lib.hid (HG1.out.moved hmv2 (fun q e => by omega))
        have HE1' := Lib.hid (show ∀ x ∈ G1, MsAt w7 x.1 x.2 from fun x hx => (HE1.out x hx).1.keep (fun g hg hl => hmv2.block g hl (fun e => by have := (HE1.out x hx).2 g hg; omega)) hmv2.size)
        have HG2 := Lib.hid hg2
        have HE2 := Lib.hid (show ∀ x ∈ G2, MsAt w7 x.1 x.2 from fun x hx => (hE2 x hx).1)
        have HGN2 := Lib.hid hg2n
        have HL2 := Lib.hid hl2
        have HF2 := Lib.hid (filter_two (fun m => goneM m (ta' + tb')) X1)
        clear hg2 hG2 hE2 hq2 hmv2 hg2n hl2 HG1 HE1 HR6
        generalize X1.filter (fun m => !goneM m (ta' + tb')) = X2 at *
        have hgb1 : G1.length ≤ 50 := by have h1 := HL1.out; have h2 := HF1.out; omega
        have hgb2 : G2.length ≤ 50 := by have h1 := HL2.out; have h2 := HF2.out; have h3 := HF1.out; omega
        go_wp2
        go_loopw [54] (fun i wr => ∃ k : Nat, k ≤ G1.length ∧ i = .int .i64 k ∧ Below w7.heap.size w7 wr) (fun i _ => G1.length - (intOf i).toNat)
        case atStart => exact ⟨0, by omega, rfl, Below.refl _ _⟩
        case round =>
          obtain ⟨k, hk, rfl, hbe⟩ := hrel
          by_cases hlt : k < G1.length
          · have hzz := hbe.size
            have HLT := Lib.hid hlt
            obtain ⟨⟨m, v⟩, hx⟩ : ∃ x, G1[k]? = some x := ⟨_, List.getElem?_eq_getElem hlt⟩
            have hxm : (m, v) ∈ G1 := List.mem_of_getElem? hx
            obtain ⟨hA, hrow⟩ := row_get HG1'.out.row hx
            have hmw := HE1'.out _ hxm
            have hg := HGN1.out _ hxm
            dsimp only at hmw hg hrow
            obtain ⟨Am, cm, rfl⟩ := hmw.ps.form
            have hbl0 := HG1'.out.lt
            subst hA
            have a0 := (hbe.cell (p := ⟨_, _, none⟩) hbl0).trans (hrow 0 (by omega))
            have a1 := (hbe.cell (p := ⟨_, _, none⟩) hbl0).trans (hrow 1 (by omega))
            have a2 := (hbe.cell (p := ⟨_, _, none⟩) hbl0).trans (hrow 2 (by omega))
            have a3 := (hbe.cell (p := ⟨_, _, none⟩) hbl0).trans (hrow 3 (by omega))
            have a4 := (hbe.cell (p := ⟨_, _, none⟩) hbl0).trans (hrow 4 (by omega))
            have a5 := (hbe.cell (p := ⟨_, _, none⟩) hbl0).trans (hrow 5 (by omega))
            have a6 := (hbe.cell (p := ⟨_, _, none⟩) hbl0).trans (hrow 6 (by omega))
            rw [Nat.add_zero] at a0
            simp only [List.getElem?_cons_zero, List.getElem?_cons_succ] at a0 a1 a2 a3 a4 a5 a6
            have hkl : (k : Int) < G1.length := by omega
            have hb1 := below_one wr (.cells #[.string m.src, .int .i64 m.tick, .int .u8 m.q, .bool m.rt, .slice Am m.ps.length cm, .string m.tp, .string m.pl] 50)
            have hx1 := heap_alloc_new wr (.cells #[.string m.src, .int .i64 m.tick, .int .u8 m.q, .bool m.rt, .slice Am m.ps.length cm, .string m.tp, .string m.pl] 50)
            obtain ⟨d0, d1, d2, d3, d4, d5, d6, df⟩ := cells7 hx1
            have HM1 := Lib.hid ((hmw.below hbe).below hb1)
            have HBE := Lib.hid (Below.next hbe hb1)
            have HX1 := Lib.hid hx1
            have HG := Lib.hid hg
            clear hrow hmw hx hxm hb1 hx1 hg hbe
            generalize m.ps.length = nm at *
            go_wp2_with fail
            generalize wr.alloc (.cells #[.string m.src, .int .i64 m.tick, .int .u8 m.q, .bool m.rt, .slice Am nm cm, .string m.tp, .string m.pl] 50) = w1 at *
            refine (mGone_calls w1 m _ ta' HM1.out HG.out.1 (by omega) (by omega)).mono ?_
            rw [HG.out.2]
            rintro e w8 ⟨rfl, hb8⟩
            have HB8 := Lib.hid (Below.next HBE.out hb8)
            clear hb8
            go_wp2
            go_roundw
            case rel => exact ⟨k + 1, by have := HLT.out; omega, by go_num, HB8.out⟩
            case measure => have := HLT.out; simp [intOf]; omega
          · obtain rfl : k = G1.length := by omega
            have hkk : ¬ ((G1.length : Int) < G1.length) := by omega
            have HBA := Lib.hid hbe
            clear hbe hlt
            go_wp2
            go_loopw [65] (fun i wr => ∃ k : Nat, k ≤ G2.length ∧ i = .int .i64 k ∧ Below w7.heap.size w7 wr) (fun i _ => G2.length - (intOf i).toNat)
            case atStart => exact ⟨0, by omega, rfl, HBA.out⟩
            case round =>
              obtain ⟨k, hk, rfl, hbe⟩ := hrel
              by_cases hlt : k < G2.length
              · have hzz := hbe.size
                have HLT := Lib.hid hlt
                obtain ⟨⟨m, v⟩, hx⟩ : ∃ x, G2[k]? = some x := ⟨_, List.getElem?_eq_getElem hlt⟩
                have hxm : (m, v) ∈ G2 := List.mem_of_getElem? hx
                obtain ⟨hA, hrow⟩ := row_get HG2.out.row hx
                have hmw := HE2.out _ hxm
                have hg := HGN2.out _ hxm
                dsimp only at hmw hg hrow
                obtain ⟨Am, cm, rfl⟩ := hmw.ps.form
                have hbl0 := HG2.out.lt
                subst hA
                have a0 := (hbe.cell (p := ⟨_, _, none⟩) hbl0).trans (hrow 0 (by omega))
                have a1 := (hbe.cell (p := ⟨_, _, none⟩) hbl0).trans (hrow 1 (by omega))
                have a2 := (hbe.cell (p := ⟨_, _, none⟩) hbl0).trans (hrow 2 (by omega))
                have a3 := (hbe.cell (p := ⟨_, _, none⟩) hbl0).trans (hrow 3 (by omega))
                have a4 := (hbe.cell (p := ⟨_, _, none⟩) hbl0).trans (hrow 4 (by omega))
                have a5 := (hbe.cell (p := ⟨_, _, none⟩) hbl0).trans (hrow 5 (by omega))
                have a6 := (hbe.cell (p := ⟨_, _, none⟩) hbl0).trans (hrow 6 (by omega))
                rw [Nat.add_zero] at a0
                simp only [List.getElem?_cons_zero, List.getElem?_cons_succ] at a0 a1 a2 a3 a4 a5 a6
                have hkl : (k : Int) < G2.length := by omega
                have hb1 := below_one wr (.cells #[.string m.src, .int .i64 m.tick, .int .u8 m.q, .bool m.rt, .slice Am m.ps.length cm, .string m.tp, .string m.pl] 50)
                have hx1 := heap_alloc_new wr (.cells #[.string m.src, .int .i64 m.tick, .int .u8 m.q, .bool m.rt, .slice Am m.ps.length cm, .string m.tp, .string m.pl] 50)
                obtain ⟨d0, d1, d2, d3, d4, d5, d6, df⟩ := cells7 hx1
                have HM1 := Lib.hid ((hmw.below hbe).below hb1)
                have HBE := Lib.hid (Below.next hbe hb1)
                have HX1 := Lib.hid hx1
                have HG := Lib.hid hg
                clear hrow hmw hx hxm hb1 hx1 hg hbe
                generalize m.ps.length = nm at *
                go_wp2_with fail
                generalize wr.alloc (.cells #[.string m.src, .int .i64 m.tick, .int .u8 m.q, .bool m.rt, .slice Am nm cm, .string m.tp, .string m.pl] 50) = w1 at *
                refine (mGone_calls w1 m _ ta' HM1.out HG.out.1 (by omega) (by omega)).mono ?_
                rw [HG.out.2.1]
                rintro e w8 ⟨rfl, hb8⟩
                have HB8 := Lib.hid (Below.next HBE.out hb8)
                have HM8 := Lib.hid (HM1.out.below hb8)
                obtain ⟨e0, e1, e2, e3, e4, e5, e6, ef⟩ := cells7 ((hb8.block _ (lt_of_block HX1.out)).trans HX1.out)
                clear hb8
                go_wp2_with fail
                refine (mGone_calls w8 m _ (ta' + tb') HM8.out HG.out.1 (by omega) (by omega)).mono ?_
                rw [HG.out.2.2]
                rintro e w9 ⟨rfl, hb9⟩
                have HB9 := Lib.hid (Below.next HB8.out hb9)
                clear hb9
                go_wp2
                go_roundw
                case rel => exact ⟨k + 1, by have := HLT.out; omega, by go_num, HB9.out⟩
                case measure => have := HLT.out; simp [intOf]; omega
              · obtain rfl : k = G2.length := by omega
                have hkk2 : ¬ ((G2.length : Int) < G2.length) := by omega
                have HR8 := Lib.hid (HR7.out.below hbe)
                have HL8 := HR8.out.len
                clear hbe hlt
                go_wp2_with fail
                refine (qList_calls wr p b 50 X2 HR8.out.q (by omega)).mono ?_
                rintro e w9 ⟨A3, b3, o3, c3, L3, rfl, hL3, hLM, hb9⟩
                have HR9 := Lib.hid (HR8.out.below hb9)
                have hl3 : X2.length = L3.length := by rw [← hL3]; simp
                have HN3 := Lib.hid (show ∀ x ∈ L3, x.1.num ∧ goneM x.1 (ta' + tb') = false from fun x hx => HN2.out _ (by rw [← hL3]; exact List.mem_map.2 ⟨x, hx, rfl⟩))
                have HLM := Lib.hid hLM
                have hgb3 : L3.length ≤ 50 := by omega
                rw [hl3]
                clear hb9 hL3 hLM
                go_wp2
                go_loopw [82] (fun i wr => ∃ k : Nat, k ≤ L3.length ∧ i = .int .i64 k ∧ Below w9.heap.size w9 wr) (fun i _ => L3.length - (intOf i).toNat)
                case atStart => exact ⟨0, by omega, rfl, Below.refl _ _⟩
                case round =>
                  obtain ⟨k, hk, rfl, hbe⟩ := hrel
                  by_cases hlt : k < L3.length
                  · have hzz := hbe.size
                    have HLT := Lib.hid hlt
                    obtain ⟨⟨m, v⟩, hx⟩ : ∃ x, L3[k]? = some x := ⟨_, List.getElem?_eq_getElem hlt⟩
                    have hxm : (m, v) ∈ L3 := List.mem_of_getElem? hx
                    obtain ⟨hA, hrow⟩ := row_get HLM.out.row hx
                    have hmw := HLM.out.each _ hxm
                    have hg := HN3.out _ hxm
                    dsimp only at hmw hg hrow
                    obtain ⟨Am, cm, rfl⟩ := hmw.ps.form
                    have hbl0 := HLM.out.lt
                    subst hA
                    have a0 := (hbe.cell (p := ⟨_, _, none⟩) hbl0).trans (hrow 0 (by omega))
                    have a1 := (hbe.cell (p := ⟨_, _, none⟩) hbl0).trans (hrow 1 (by omega))
                    have a2 := (hbe.cell (p := ⟨_, _, none⟩) hbl0).trans (hrow 2 (by omega))
                    have a3 := (hbe.cell (p := ⟨_, _, none⟩) hbl0).trans (hrow 3 (by omega))
                    have a4 := (hbe.cell (p := ⟨_, _, none⟩) hbl0).trans (hrow 4 (by omega))
                    have a5 := (hbe.cell (p := ⟨_, _, none⟩) hbl0).trans (hrow 5 (by omega))
                    have a6 := (hbe.cell (p := ⟨_, _, none⟩) hbl0).trans (hrow 6 (by omega))
                    rw [Nat.add_zero] at a0
                    simp only [List.getElem?_cons_zero, List.getElem?_cons_succ] at a0 a1 a2 a3 a4 a5 a6
                    have hkl : (k : Int) < L3.length := by omega
                    have hb1 := below_one wr (.cells #[.string m.src, .int .i64 m.tick, .int .u8 m.q, .bool m.rt, .slice Am m.ps.length cm, .string m.tp, .string m.pl] 50)
                    have hx1 := heap_alloc_new wr (.cells #[.string m.src, .int .i64 m.tick, .int .u8 m.q, .bool m.rt, .slice Am m.ps.length cm, .string m.tp, .string m.pl] 50)
                    obtain ⟨d0, d1, d2, d3, d4, d5, d6, df⟩ := cells7 hx1
                    have HM1 := Lib.hid ((hmw.below hbe).below hb1)
                    have HBE := Lib.hid (Below.next hbe hb1)
                    have HX1 := Lib.hid hx1
                    have HG := Lib.hid hg
                    clear hrow hmw hx hxm hb1 hx1 hg hbe
                    generalize m.ps.length = nm at *
                    go_wp2_with fail
                    generalize wr.alloc (.cells #[.string m.src, .int .i64 m.tick, .int .u8 m.q, .bool m.rt, .slice Am nm cm, .string m.tp, .string m.pl] 50) = w1 at *
                    refine (mGone_calls w1 m _ (ta' + tb') HM1.out HG.out.1 (by omega) (by omega)).mono ?_
                    rw [HG.out.2]
                    rintro e w8 ⟨rfl, hb8⟩
                    have HB8 := Lib.hid (Below.next HBE.out hb8)
                    clear hb8
                    go_wp2
                    go_roundw
                    case rel => exact ⟨k + 1, by have := HLT.out; omega, by go_num, HB8.out⟩
                    case measure => have := HLT.out; simp [intOf]; omega
                  · obtain rfl : k = L3.length := by omega
                    have hkk3 : ¬ ((L3.length : Int) < L3.length) := by omega
                    have HR10 := Lib.hid (HR9.out.below hbe)
                    have hsum : (G1.length : Int) + G2.length + X2.length = X.length := by
                      have h1 := HL1.out
                      have h2 := HL2.out
                      have h3 := HF1.out
                      have h4 := HF2.out
                      omega
                    have hXl0 : X.length ≤ 50 := by omega
                    have w1' : IntKind.i64.wrap ((G1.length : Int) + G2.length) = (G1.length : Int) + G2.length := by rw [IntKind.wrap_i64]; omega
                    have w2' : IntKind.i64.wrap ((G1.length : Int) + G2.length + X2.length) = X.length := by rw [IntKind.wrap_i64]; omega
                    clear hbe hlt
                    go_wp2_with fail
                    refine (qLen_calls wr p b 50 X2 HR10.out.q).mono ?_
                    rintro e w10 ⟨rfl, rfl⟩
                    have HB := Lib.hid HR10.out.bel
                    rw [← hl3] at *
                    go_wp2
                    go_ret
                    exact ⟨rfl, HB.out⟩

set_option maxRecDepth 100000 in
theorem lifted (os : Os) (started : os.Started) (H : Type) (enc : TypeId × Value → H) :
    ReturnsInHanded {} Try.checked os 11 .any (Rows.queueExpiresSpec.pre6 enc Try.prog Try.f11 Rows.queueExpiresRow.domain false) (Rows.queueExpiresSpec.post enc Try.prog Try.f11 false true false false) := by
  refine returnsInHanded_of_change (C := Try.checked) own started (by kernel_rfl) Try.func11
    (ChangeSpec.witness6 (enc := enc) (C := Try.checked) false ⟨#[], #[.slice none 0 0, .int .i64 0, .int .i64 0], []⟩ 8 (by kernel_rfl) (by kernel_rfl) (by kernel_rfl) (by kernel_rfl)) ?_
  intro W base args ds gs before hval0 hW hcnd _
  have hval : ∀ (j : Nat) t v, Try.f11.params[j]? = some t → args[j]? = some v → Value.okWide Try.prog W .any base t v := hval0
  have hW' := hW
  obtain ⟨p, q, hA0, hV, rfl, hfz, hnd⟩ := hW
  have hA : DataW.TrodAll enc Try.prog W 0 (fun _ => true) true Try.f11.params.toList args.toList ds p := hA0
  rw [Try.params11] at hA hval
  obtain ⟨v0, vs0, d0, ds0, p0, q0, hargs, rfl, rfl, h0, r0⟩ := trodAll_cons hA
  obtain ⟨v1, vs1, d1, ds1, p1, q1, rfl, rfl, rfl, h1, r1⟩ := trodAll_cons r0
  obtain ⟨v2, vs2, d2, ds2, p2, q2, rfl, rfl, rfl, h2, r2⟩ := trodAll_cons r1
  obtain ⟨rfl, rfl, rfl⟩ := trodAll_nil r2
  obtain rfl : args = #[v0, v1, v2] := by cases args; simp_all
  obtain ⟨rfl, rfl⟩ := trodVars_none hV
  have k0 := h0
  have lt0 : ∀ x ∈ p0, x.block < W.heap.size := by obtain ⟨m, hm⟩ := k0; exact DataW.trod_lt m _ _ _ hm
  obtain ⟨a0, w0⟩ := open_msgsIn (hval 0 87 v0 rfl rfl) h0
  obtain ⟨a1, rfl, rfl, rfl, w1⟩ := open_int Try.underlying3 (hval 1 3 v1 rfl rfl) h1
  obtain ⟨a2, rfl, rfl, rfl, w2⟩ := open_int Try.underlying3 (hval 2 3 v2 rfl rfl) h2
  clear hA0 hval0
  refine (walk v0 a0 a1 w1 a2 w2 W w0).mono fun e W' ⟨he, bel⟩ => ?_
  subst he
  exact ⟨_, rfl, _, _, _, [], _, [], hW', trodAll_mk1 (shut_bool Try.underlying4 _), (trodAll_cons_mk (Below.trod laidOut (by kernel_rfl) (of_decide_eq_true (by kernel_rfl)) k0 bel lt0) (trodAll_cons_mk (shut_int Try.underlying3 w1) (trodAll_cons_mk (shut_int Try.underlying3 w2) trodAll_mk0))), rfl, bel.frame _, fun h => by cases h⟩

theorem over : Rows.queueExpiresRow.holds Try.pinned (OpenSpec.ofChange Rows.queueExpiresSpec) :=
  OpenClaim.holds_of_wide 11 Try.f11 rfl rfl rfl rfl rfl rfl rfl ⟨rfl, rfl, rfl, rfl, rfl⟩ rfl rfl rfl rfl rfl (by kernel_rfl) Try.func11 (by kernel_rfl)
    (of_decide_eq_true (by kernel_rfl)) (by unfold Func.isWrapper; first | (rw [if_pos (by decide +kernel)]; kernel_rfl) | (rw [if_neg (by decide +kernel)]; exact ⟨rfl, rfl⟩))
    (fun os started H enc _ => lifted os started H enc)

end Go.Proofs.Yteofjcmpelcmaaa.queueExpires
namespace Go.Proofs.Yteofjcmpelcmaaa
/-- The statement. -/
theorem queueExpires_holds : Rows.QueueExpiresSaid := queueExpires.over
#print axioms queueExpires_holds
end Go.Proofs.Yteofjcmpelcmaaa
