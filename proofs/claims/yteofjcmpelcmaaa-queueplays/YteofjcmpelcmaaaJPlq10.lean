/-
  The document's Push on a queue that is full, of a message that is heavy. (No statement: contracts that the proofs of the statements use.)
-/
import Derived.Test.YteofjcmpelcmaaaJPlq9
namespace Go.Proofs.Yteofjcmpelcmaaa
open Go.RowKit

set_option maxRecDepth 100000 in
set_option maxHeartbeats 8000000 in
theorem rPush_loop (w : World) (b off cap : Nat) (Y : List (Ms × Value)) (n : Nat) (m : Ms) (v : Value) (most : Int) (hs : RowS w b off cap Y) (hY : Y.length = n) (hn : n ≤ 1000) (hm : MsAt w m v) (hr : ¬ (n : Int) < most) (hq : m.q ≠ 0) :
    Calls Try.prog 31 #[.slice (some ⟨b, off, none⟩) n cap, msV m v, .int .i64 most] w (RPush w b off cap Y m v most) := by
  obtain ⟨Am, cm, rfl⟩ := hm.ps.form
  have hb0 := (below_one w (mC m (.slice Am m.ps.length cm))).alloc (by simp) zC
  have hx0 := (Below.heap_alloc (w.alloc (mC m (.slice Am m.ps.length cm))) zC w.heap.size (by simp)).trans (heap_alloc_new w (mC m (.slice Am m.ps.length cm)))
  have hx1 : ((w.alloc (mC m (.slice Am m.ps.length cm))).alloc zC).heap[w.heap.size + 1]? = some zC := by
    have := heap_alloc_new (w.alloc (mC m (.slice Am m.ps.length cm))) zC
    rwa [World.size_alloc] at this
  have HS := Lib.hid hs
  have hs1 := hs.one
  have HMS := Lib.hid hs.each
  have HY := Lib.hid hY
  have HQ := Lib.hid hq
  have hbl := hs.lt
  have hs0 := hs.below hb0
  have HB0 := Lib.hid hb0
  have HX0 := Lib.hid hx0
  have HX1 := Lib.hid hx1
  have HS0 := Lib.hid hs0
  have HSZ := Lib.hid (show ((w.alloc (mC m (.slice Am m.ps.length cm))).alloc zC).heap.size = w.heap.size + 2 by simp)
  have hqb : (m.q == 0) = false := by simpa using hq
  have hcap : n ≤ cap := by have := hs.row.fit; rw [cellsQ_len] at this; omega
  obtain ⟨d0, d1, d2, d3, d4, d5, d6, df⟩ := cells7 hx0
  clear hs hY hm hb0 hx0 hx1 hs0 hq
  generalize hnm : m.ps.length = nm at *
  have HNM := Lib.hid hnm
  clear hnm
  go_enter Try.func31, Try.ntmps31
  go_wp2_with fail
  generalize (w.alloc (mC m (.slice Am nm cm))).alloc zC = W0 at *
  go_wp2_with fail
  go_loopw [30] (fun i wr => ∃ k : Nat, k ≤ n ∧ i = .int .i64 k ∧ (∀ x ∈ Y.take k, x.1.q ≠ 0) ∧ Below W0.heap.size W0 wr) (fun i _ => n - (intOf i).toNat)
  case atStart => exact ⟨0, by omega, rfl, by simp, Below.refl _ _⟩
  case round =>
    obtain ⟨k, hk, rfl, hno, hbe⟩ := hrel
    have HNO := Lib.hid hno
    have hl0 : w.heap.size < W0.heap.size := by have := HSZ.out; omega
    have hl1 : w.heap.size + 1 < W0.heap.size := by have := HSZ.out; omega
    have hzr := hbe.size
    clear hno d0 d1 d2 d3 d4 d5 d6 df
    by_cases hlt : k < n
    · obtain ⟨⟨y, vy⟩, hx⟩ : ∃ x, Y[k]? = some x := ⟨_, List.getElem?_eq_getElem (by have := HY.out; omega)⟩
      have hym := (HS0.out.each _ (List.mem_of_getElem? hx)).below hbe
      dsimp only at hym
      obtain ⟨Ay, cy, rfl⟩ := hym.ps.form
      obtain ⟨-, hrow⟩ := row_get HS0.out.row hx
      have hbl0 := HS0.out.lt
      have a0 := (hbe.cell (p := ⟨_, _, none⟩) hbl0).trans (hrow 0 (by omega))
      have a1 := (hbe.cell (p := ⟨_, _, none⟩) hbl0).trans (hrow 1 (by omega))
      have a2 := (hbe.cell (p := ⟨_, _, none⟩) hbl0).trans (hrow 2 (by omega))
      have a3 := (hbe.cell (p := ⟨_, _, none⟩) hbl0).trans (hrow 3 (by omega))
      have a4 := (hbe.cell (p := ⟨_, _, none⟩) hbl0).trans (hrow 4 (by omega))
      have a5 := (hbe.cell (p := ⟨_, _, none⟩) hbl0).trans (hrow 5 (by omega))
      have a6 := (hbe.cell (p := ⟨_, _, none⟩) hbl0).trans (hrow 6 (by omega))
      rw [Nat.add_zero] at a0
      simp only [List.getElem?_cons_zero, List.getElem?_cons_succ] at a0 a1 a2 a3 a4 a5 a6
      have hkl : (k : Int) < n := by omega
      have hb1 := below_one wr (mC y (.slice Ay y.ps.length cy))
      have hx1 := heap_alloc_new wr (mC y (.slice Ay y.ps.length cy))
      obtain ⟨d0, d1, d2, d3, d4, d5, d6, df⟩ := cells7 hx1
      have hbw := Below.next hbe hb1
      have HBW := Lib.hid hbw
      have HX := Lib.hid hx
      have HY1 := Lib.hid hx1
      have HLT := Lib.hid hlt
      clear hrow hym hx hbe hb1 hx1 hlt hbw
      generalize hny : y.ps.length = ny at *
      have HNY := Lib.hid hny
      clear hny
      by_cases hyq : y.q = 0
      · have hyb : (y.q == 0) = true := by rw [hyq]; rfl
        have HYQ := Lib.hid hyq
        obtain ⟨Y1, Y2, hYe, hY1⟩ : ∃ Y1 Y2, Y = Y1 ++ (y, .slice Ay ny cy) :: Y2 ∧ Y1.length = k := by
          refine ⟨Y.take k, Y.drop (k + 1), ?_, by rw [List.length_take]; have := HLT.out; have := HY.out; omega⟩
          rw [← drop_at Y k _ HX.out, List.take_append_drop]
        have HYE := Lib.hid hYe
        have HY1L := Lib.hid hY1
        have HNO1 := Lib.hid (show ∀ x ∈ Y1, x.1.q ≠ 0 from fun x hx => HNO.out x (by rw [hYe, List.take_left' hY1]; exact hx))
        clear hyq hYe hY1
        have hl2 : w.heap.size < wr.heap.size := by omega
        have hl3 : w.heap.size + 1 < wr.heap.size := by omega
        have hbw := Below.next HB0.out HBW.out
        have hy1 := HS0.out.below HBW.out
        have HJ := Lib.hid (show PusJ w m (.slice Am nm cm) b off cap Y (wr.heap.size + 1) 0 0 [] ((wr.alloc (mC y (.slice Ay ny cy))).alloc (.cells #[] 77)) from by
          have := pusJ_new (V := wr.alloc (mC y (.slice Ay ny cy))) hbw ((HBW.out.block _ (lt_of_block HX0.out)).trans HX0.out) ((HBW.out.block _ (lt_of_block HX1.out)).trans HX1.out) hy1
          rwa [World.size_alloc] at this)
        have HXB := Lib.hid (show XBox wr.heap.size y (.slice Ay ny cy) (wr.heap.size + 1) ((wr.alloc (mC y (.slice Ay ny cy))).alloc (.cells #[] 77)) from ⟨((below_one _ (.cells #[] 77)).block _ (lt_of_block HY1.out)).trans HY1.out, by omega⟩)
        have hL2 : Y2.length = n - (k + 1) := by have h1 := HYE.out; have h2 := HY.out; have h3 := HY1L.out; rw [h1] at h2; simp at h2; omega
        have HL2 := Lib.hid hL2
        have HRW := Lib.hid (show ∀ V, RowS V b off cap Y → RowQ V (some ⟨b, off, none⟩) b off cap (cellsQ (Y1 ++ ((y, .slice Ay ny cy) :: Y2))) from fun V h => by have := h.row; rwa [HYE.out] at this)
        have HRW2 := Lib.hid (show ∀ V, RowS V b off cap Y → RowQ V (some ⟨b, off, none⟩) b off cap (cellsQ ((Y1 ++ [(y, .slice Ay ny cy)]) ++ Y2)) from fun V h => by have := h.row; rw [HYE.out] at this; simpa using this)
        have HO1 := Lib.hid (show ∀ e ∈ Y1, e.2.oneCell' = true from fun e he => hs1 e (by rw [HYE.out]; simp [he]))
        have HO2 := Lib.hid (show ∀ e ∈ Y2, e.2.oneCell' = true from fun e he => hs1 e (by rw [HYE.out]; simp [he]))
        have hw1 : IntKind.i64.wrap ((k : Int) + 1) = (k : Int) + 1 := by rw [IntKind.wrap_i64]; omega
        have htn : ((k : Int) + 1).toNat = k + 1 := by omega
        have hle : (k : Int) + 1 ≤ n := by omega
        have hge : (0 : Int) ≤ (k : Int) + 1 := by omega
        have hnc : (n : Int) ≤ cap := by omega
        obtain ⟨od, hod, hod1⟩ : ∃ od, (if cap = k + 1 then some (⟨b, off, none⟩ : Addr) else some ⟨b, off + (k + 1) * 7, none⟩) = some ⟨b, od, none⟩ ∧ (0 < n - (k + 1) → od = off + (k + 1) * 7) := by
          by_cases hc : cap = k + 1
          · exact ⟨off, by rw [if_pos hc], fun h => by omega⟩
          · exact ⟨off + (k + 1) * 7, by rw [if_neg hc], fun h => rfl⟩
        have HOD := Lib.hid hod1
        have HSRC2 := Lib.hid (show ∀ V, RowS V b off cap Y → ∀ j u, (cellsQ Y2)[j]? = some u → V.cell? ⟨b, od + j, none⟩ = some u from fun V hV j u hj => by
          have hjl := (List.getElem?_eq_some_iff.1 hj).1
          rw [cellsQ_len, hL2] at hjl
          rw [hod1 (by omega)]
          have := row_right (HRW2.out V hV) j u hj
          rwa [show (Y1 ++ [(y, Value.slice Ay ny cy)]).length = k + 1 by simp [HY1L.out]] at this)
        clear hbw hy1 hL2 hod1
        go_wp2_with (at_builtin; refine wpList_append_rs _ rfl _ _ rfl (wr.heap.size + 1) 0 0 [] Y1 0 k k rfl HY1L.out (Nat.zero_add k) (by simp [Act.eval]) HJ.out.z.row HJ.out.z.lt b off cap (by simp [Act.eval]) (row_left (HRW.out _ HJ.out.y)) HO1.out (by omega) ?_)
        intro b1 o1 c1 w5 happ
        have HJ5 := Lib.hid (HJ.out.app (Z' := Y1) hbl HMS.out happ)
        have HXB5 := Lib.hid (HXB.out.app happ)
        clear happ
        go_wp2_with (at_builtin; refine wpList_append_rs w5 rfl _ _ rfl b1 o1 c1 Y1 Y2 k (n - (k + 1)) (n - 1) HY1L.out HL2.out (by omega) (by simp [Act.eval]) HJ5.out.z.row HJ5.out.z.lt b od (cap - (k + 1)) (by simp [Act.eval]) (HSRC2.out _ HJ5.out.y) HO2.out (by omega) ?_)
        intro b2 o2 c2 w6 happ
        have HJ6 := Lib.hid (HJ5.out.app hbl HMS.out happ)
        have HXB6 := Lib.hid (HXB5.out.app happ)
        clear happ d0 d1 d2 d3 d4 d5 d6 df a0 a1 a2 a3 a4 a5 a6 hod hw1 htn
        obtain ⟨d0, d1, d2, d3, d4, d5, d6, df⟩ := cells7 HJ6.out.box
        obtain ⟨g0, g1, g2, g3, g4, g5, g6, gf⟩ := cells7 HXB6.out.box
        have hl4 := lt_of_block HJ6.out.box
        have hl5 := lt_of_block HXB6.out.box
        have hl6 := lt_of_block HJ6.out.out
        have HM6 := Lib.hid (one_at (e := (m, .slice Am nm cm)) (drew_heap (heap_alloc_new w6 (mC m (.slice Am nm cm)))))
        have HJA := Lib.hid ((HJ6.out.alloc (mC m (.slice Am nm cm))).below (Below.refl _ _).drew)
        have HXA := Lib.hid ((HXB6.out.below (below_one w6 (mC m (.slice Am nm cm)))).below (Below.refl _ _).drew)
        have HLL := Lib.hid (show (Y1 ++ Y2).length = n - 1 from by rw [List.length_append, HY1L.out, HL2.out]; omega)
        have hn1 : n - 1 + 1 = n := by omega
        have HN1 := Lib.hid hn1
        clear hn1
        go_wp2_with fail
        go_region_law (first
          | ((with_reducible refine step_append_rs (w6.alloc (mC m (.slice Am nm cm))).drew rfl (.tmp 49) (.tmp 51) rfl b2 o2 c2 (Y1 ++ Y2) [(m, .slice Am nm cm)] (n - 1) 1 n HLL.out rfl HN1.out (by simp [Act.eval]) HJA.out.z.row HJA.out.z.lt w6.heap.size 0 1 (by simp [Act.eval]) HM6.out (one_one _ _ _ _) (by omega) ?_); intro b3 o3 c3 w7 happ; have HJ7 := Lib.hid (HJA.out.app hbl HMS.out happ); have HXB7 := Lib.hid (HXA.out.app happ); obtain ⟨y0, y1, y2, y3, y4, y5, y6, yf⟩ := cells7 HJ7.out.out; obtain ⟨x0, x1, x2, x3, x4, x5, x6, xf⟩ := cells7 HXB7.out.box; clear happ))
        all_goals
          have HF := Lib.hid (show RPush w b off cap Y m (.slice Am nm cm) most (.returned (.tuple #[.slice (some ⟨b3, o3, none⟩) n c3, msV y (.slice Ay ny cy), .bool true])) (put7 w7 (w.heap.size + 1) 0 (.string y.src) (.int .i64 y.tick) (.int .u8 y.q) (.bool y.rt) (.slice Ay ny cy) (.string y.tp) (.string y.pl)) from
            .inr (.inr ⟨by rw [HY.out]; omega, HQ.out, Y1, (y, .slice Ay ny cy), Y2, b3, o3, c3, HYE.out, HYQ.out, HNO1.out, by rw [HY.out], HJ7.out.z.put7 (by have := HJ7.out.ne; omega), put7_below HJ7.out.bel (by omega)⟩))
          go_wp2
          change bodyPost _ _ _ _ _ (put7 w7 (w.heap.size + 1) 0 _ _ _ _ _ _ _)
          have hfin := put7_block (a0 := .string y.src) (a1 := .int .i64 y.tick) (a2 := .int .u8 y.q) (a3 := .bool y.rt) (a4 := .slice Ay ny cy) (a5 := .string y.tp) (a6 := .string y.pl) HJ7.out.out
          obtain ⟨t0, t1, t2, t3, t4, t5, t6, tf⟩ := cells7 hfin
          refine bodyPost_ret (v := .tuple #[.slice (some ⟨b3, o3, none⟩) n c3, msV y (.slice Ay ny cy), .bool true]) ?_ rfl HF.out
          simp [results, Try.results31, go_sem, t0, t1, t2, t3, t4, t5, t6]
      · have hyb : (y.q == 0) = false := by simpa using hyq
        have HN2 := Lib.hid (show ∀ x ∈ Y.take (k + 1), x.1.q ≠ 0 from by
          rw [take_snocM Y k _ HX.out]
          intro x hx
          rcases List.mem_append.1 hx with hx | hx
          · exact HNO.out x hx
          · obtain rfl : x = (y, .slice Ay ny cy) := by simpa using hx
            exact hyq)
        clear hyq
        go_wp2
        go_roundw
        case rel => exact ⟨k + 1, by have := HLT.out; omega, by go_num, HN2.out, HBW.out⟩
        case measure => have := HLT.out; simp [intOf]; omega
    · obtain rfl : k = n := by omega
      have hkk : ¬ ((k : Int) < k) := by omega
      have hx0 := (hbe.block _ (lt_of_block HX0.out)).trans HX0.out
      have hx1 := (hbe.block _ (lt_of_block HX1.out)).trans HX1.out
      have HX1' := Lib.hid hx1
      obtain ⟨d0, d1, d2, d3, d4, d5, d6, df⟩ := cells7 hx0
      obtain ⟨z0, z1, z2, z3, z4, z5, z6, zf⟩ := cells7 hx1
      have HF := Lib.hid (show RPush w b off cap Y m (.slice Am nm cm) most (.returned (.tuple #[.slice (some ⟨b, off, none⟩) k cap, msV m (.slice Am nm cm), .bool true])) (put7 wr (w.heap.size + 1) 0 (.string m.src) (.int .i64 m.tick) (.int .u8 m.q) (.bool m.rt) (.slice Am nm cm) (.string m.tp) (.string m.pl)).drew from
          .inr (.inl ⟨by rw [HY.out]; omega, .inr (by have := HNO.out; rwa [List.take_of_length_le (by have := HY.out; omega)] at this), by rw [HY.out], (put7_below (Below.next HB0.out hbe) (by omega)).drew⟩))
      clear hx0 hx1 hbe hlt
      go_wp2_with fail
      go_region
      all_goals
        go_wp2
        change bodyPost _ _ _ _ _ (put7 wr (w.heap.size + 1) 0 _ _ _ _ _ _ _).drew
        have hfin := put7_block (W := wr) (a0 := .string m.src) (a1 := .int .i64 m.tick) (a2 := .int .u8 m.q) (a3 := .bool m.rt) (a4 := .slice Am nm cm) (a5 := .string m.tp) (a6 := .string m.pl) HX1'.out
        obtain ⟨t0, t1, t2, t3, t4, t5, t6, tf⟩ := cells7 (drew_heap hfin)
        refine bodyPost_ret (v := .tuple #[.slice (some ⟨b, off, none⟩) k cap, msV m (.slice Am nm cm), .bool true]) ?_ rfl HF.out
        simp [results, Try.results31, go_sem, t0, t1, t2, t3, t4, t5, t6]

#print axioms rPush_loop
end Go.Proofs.Yteofjcmpelcmaaa
