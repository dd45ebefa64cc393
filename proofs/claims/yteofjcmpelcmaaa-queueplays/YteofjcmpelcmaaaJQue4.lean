/-
  The calls of queue.Queue: take. (No statement: contracts that the proofs of the statements use.)
-/
import Derived.Test.YteofjcmpelcmaaaJQue3
namespace Go.Proofs.Yteofjcmpelcmaaa
open Go.RowKit

theorem run_copy_msgs (w : World) (ty : TypeId) (b o off dCap sLen sCap : Nat) (cs : List Value) (k : Nat) (hk : k ≤ sLen) (hl : cs.length = k * 7)
    (hsrc : ∀ j u, cs[j]? = some u → w.cell? ⟨b, off + j, none⟩ = some u) (hfr : ∀ j, j < k * 7 → (w.cell? ⟨b, o + j, none⟩).isSome = true ∧ w.frozen? ⟨b, o + j, none⟩ = false) (h1 : ∀ u ∈ cs, u.oneCell' = true) :
    (Builtin.copy_ #[87, 87] ty #[.slice (some ⟨b, o, none⟩) k dCap, .slice (some ⟨b, off, none⟩) sLen sCap]).run Try.prog w = .ok (.int .i64 k) (w.setCells b o cs) := by
  obtain ⟨i0, hi, hz0, hz1, hz2⟩ := info_parts Try.infoMsg
  have hf := run_firstCells_some (P := Try.prog) w 7 k ⟨b, off, none⟩ sLen sCap cs hl (fun j u hj => by rw [Addr.add_lit]; exact hsrc j u hj)
  have hst := run_storeCells_cells (P := Try.prog) b o cs 0 w (fun j hj => by rw [hl] at hj; rw [Nat.add_zero]; exact (hfr j hj).1) (fun j hj => by rw [hl] at hj; rw [Nat.add_zero]; exact (hfr j hj).2) h1
  simp only [Nat.add_zero] at hst
  have hmin : Nat.min sLen k = k := Nat.min_eq_right hk
  simp [Builtin.copy_, run_underlying Try.underlying87, Builtin.lenOf, sizeOf, typeInfo, hi, hz1, hmin, hf, hst, goInt]

/-- At a step of a region that draws its order. -/
theorem step_copy_msgs (w : World) {ops : Array Oper} {o : Oper} {a : Act} {K : Act → World → Prop} {Q : Exit → Act → World → Prop} {E : Prop} (hgd : o.guard = none) (d s : Operand)
    (ho : o.op = .call { callee := .builtin .copy, args := #[d, s], argTypes := #[87, 87] })
    (b od off dCap sLen sCap : Nat) (cs : List Value) (k : Nat) (hd : a.eval d = .slice (some ⟨b, od, none⟩) k dCap) (hs : a.eval s = .slice (some ⟨b, off, none⟩) sLen sCap) (hk : k ≤ sLen) (hl : cs.length = k * 7)
    (hsrc : ∀ j u, cs[j]? = some u → w.cell? ⟨b, off + j, none⟩ = some u) (hfr : ∀ j, j < k * 7 → (w.cell? ⟨b, od + j, none⟩).isSome = true ∧ w.frozen? ⟨b, od + j, none⟩ = false) (h1 : ∀ u ∈ cs, u.oneCell' = true)
    (h : ∀ w', Hid (w' = w.setCells b od cs) → K (a.put o.dst (.int .i64 k)) w') :
    if Region.wanted o (yielded ops a.tmps) = true then Oper.wp Try.prog o a w K Q else E := by
  have hw : Region.wanted o (yielded ops a.tmps) = true := by simp [Region.wanted, hgd]
  rw [if_pos hw]
  have hrun := run_copy_msgs w o.type b od off dCap sLen sCap cs k hk hl hsrc hfr h1
  unfold Oper.wp execOp
  simp only [ho, resolve, invoke, builtin, Sem.run_bind, Sem.run_pure, Result.andThen_ok, List.map_toArray, List.map_cons, List.map_nil, hd, hs, hrun]
  exact h _ rfl

theorem put7_cell {W : World} {b o q : Nat} {a0 a1 a2 a3 a4 a5 a6 : Value} (h : o + 7 ≤ q) : (put7 W b o a0 a1 a2 a3 a4 a5 a6).cell? ⟨b, q, none⟩ = W.cell? ⟨b, q, none⟩ := by
  have key : ∀ (V : World) (i : Nat) (u : Value), i < 7 → (V.setCell ⟨b, o + i, none⟩ u).cell? ⟨b, q, none⟩ = V.cell? ⟨b, q, none⟩ := fun V i u hi =>
    World.cell?_setCell_other V ⟨b, o + i, none⟩ ⟨b, q, none⟩ u (fun e => by injection e with _ e; omega)
  unfold put7
  exact (key _ 6 _ (by omega)).trans ((key _ 5 _ (by omega)).trans ((key _ 4 _ (by omega)).trans ((key _ 3 _ (by omega)).trans ((key _ 2 _ (by omega)).trans ((key _ 1 _ (by omega)).trans (key _ 0 _ (by omega)))))))

/-- Where the row lies when one is taken out of it: those ahead of it move, the first place is cleared. -/
theorem take_row {w : World} {A : Option Addr} {b off cap : Nat} {L1 L2 : List (Ms × Value)} {e : Ms × Value} {z0 z1 z2 z3 z4 z5 z6 : Value} {A' : Option Addr} (h : RowQ w A b off cap (cellsQ (L1 ++ e :: L2))) (hA : 0 < cap - 1 → A' = some ⟨b, off + 7, none⟩) :
    RowQ (put7 (w.setCells b (off + 7) (cellsQ L1)) b off z0 z1 z2 z3 z4 z5 z6) A' b (off + 7) (cap - 1) (cellsQ (L1 ++ L2)) := by
  have hfit := h.fit
  rw [cellsQ_len] at hfit
  simp at hfit
  have hl1 := cellsQ_len L1
  have hhave : ∀ j, j < (cellsQ L1).length → (w.cell? ⟨b, off + 7 + j, none⟩).isSome = true := fun j hj => by
    have := (h.free (7 + j) (by omega)).1
    rwa [← Nat.add_assoc] at this
  have hcell : ∀ j, (put7 (w.setCells b (off + 7) (cellsQ L1)) b off z0 z1 z2 z3 z4 z5 z6).cell? ⟨b, off + 7 + j, none⟩ = (w.setCells b (off + 7) (cellsQ L1)).cell? ⟨b, off + 7 + j, none⟩ := fun j => by
    exact put7_cell (by omega)
  have hfz : ∀ x, (put7 (w.setCells b (off + 7) (cellsQ L1)) b off z0 z1 z2 z3 z4 z5 z6).frozen? x = w.frozen? x := fun x => by
    unfold put7
    iterate 7 rw [World.frozen?_setCell]
    rw [World.frozen?_setCells]
  refine ⟨hA, fun j u hj => ?_, fun j hj => ⟨?_, ?_⟩, by rw [cellsQ_len]; simp; omega, by have := h.max; omega⟩
  · rw [hcell]
    rw [cellsQ_app] at hj
    by_cases hj1 : j < (cellsQ L1).length
    · rw [List.getElem?_append_left hj1] at hj
      rw [World.cell?_setCells_in b (cellsQ L1) (off + 7) w hhave j hj1]
      rw [List.getElem?_eq_getElem hj1] at hj
      exact hj
    · rw [List.getElem?_append_right (by omega)] at hj
      rw [World.cell?_setCells_out b _ _ _ _ (fun _ _ => Or.inr (by show off + 7 + (cellsQ L1).length ≤ off + 7 + j; omega))]
      have := h.holds (7 + j) u (by
        rw [cellsQ_app, show e :: L2 = [e] ++ L2 from rfl, cellsQ_app, List.getElem?_append_right (by omega), List.getElem?_append_right (by rw [cellsQ_len]; simp; omega)]
        rw [← hj, show (cellsQ [e]).length = 7 by rw [cellsQ_len]; rfl]
        congr 1
        omega)
      rwa [← Nat.add_assoc] at this
  · rw [hcell]
    have h0 := (h.free (7 + j) (by omega)).1
    rw [← Nat.add_assoc] at h0
    by_cases hj1 : j < (cellsQ L1).length
    · rw [World.cell?_setCells_in b (cellsQ L1) (off + 7) w hhave j hj1]; rfl
    · rw [World.cell?_setCells_out b _ _ _ _ (fun _ _ => Or.inr (by show off + 7 + (cellsQ L1).length ≤ off + 7 + j; omega))]
      exact h0
  · rw [hfz]
    have h0 := (h.free (7 + j) (by omega)).2
    rwa [← Nat.add_assoc] at h0

/-- Cells of the element at a place. -/
theorem row_at {w : World} {A : Option Addr} {b off cap : Nat} {L1 L2 : List (Ms × Value)} {e : Ms × Value} (h : RowQ w A b off cap (cellsQ (L1 ++ e :: L2))) :
    A = some ⟨b, off, none⟩ ∧ ∀ i, i < 7 → w.cell? ⟨b, off + L1.length * 7 + i, none⟩ = (msC e.1 e.2)[i]? := by
  have hfit := h.fit
  rw [cellsQ_len] at hfit
  simp at hfit
  refine ⟨h.addr (by omega), fun i hi => ?_⟩
  have h1 := cellsQ_at (L1 ++ e :: L2) L1.length i hi
  rw [List.getElem?_append_right (Nat.le_refl _), Nat.sub_self] at h1
  obtain ⟨u, hu⟩ : ∃ u, (msC e.1 e.2)[i]? = some u := ⟨_, List.getElem?_eq_getElem (by simpa using hi)⟩
  have h2 : (cellsQ (L1 ++ e :: L2))[L1.length * 7 + i]? = some u := h1.trans hu
  rw [hu, Nat.add_assoc]
  exact h.holds _ _ h2

/-- What take answers, and leaves. -/
def QTook (w : World) (p b : Nat) (most : Int) (X1 X2 : List Ms) (m : Ms) (e : Ending) (w' : World) : Prop :=
  ∃ v, e = .returned (msV m v) ∧ MsAt w' m v ∧ (∀ g, v.ownBlock = some g → g < w.heap.size ∧ g ≠ p ∧ g ≠ b) ∧ QAt w' p b most (X1 ++ X2) ∧ Mv (fun k => k = p ∨ k = b) w w'

/-- Behind all that take does. -/
theorem take_done {w W0 w5 : World} {p b : Nat} {most : Int} {L1 L2 : List (Ms × Value)} {m : Ms} {v : Value} {A : Option Addr} {off cap od : Nat} {z0 z1 z2 z3 z4 z5 z6 : Value} {c0 c1 c2 c3 c4 c5 c6 : Value} (h : QLst w p b most (L1 ++ (m, v) :: L2) A off cap)
    (hb : Below w.heap.size w W0) (hod : 0 < cap - 1 → od = off + 7)
    (h5 : Below ((put7 (W0.drew.setCells b (off + 7) (cellsQ L1)) b off z0 z1 z2 z3 z4 z5 z6).setCell ⟨p, 1, none⟩ (.slice (some ⟨b, od, none⟩) (L1.length + L2.length) (cap - 1))).heap.size
      ((put7 (W0.drew.setCells b (off + 7) (cellsQ L1)) b off z0 z1 z2 z3 z4 z5 z6).setCell ⟨p, 1, none⟩ (.slice (some ⟨b, od, none⟩) (L1.length + L2.length) (cap - 1))) w5) :
    QTook w p b most (L1.map Prod.fst) (L2.map Prod.fst) m (.returned (msV m v)) (put7 (w5.setCell ⟨p, 2, none⟩ (wV (lightL (L1.map Prod.fst ++ L2.map Prod.fst)) (heavyL (L1.map Prod.fst ++ L2.map Prod.fst)))) w.heap.size 0 c0 c1 c2 c3 c4 c5 c6) := by
  have hpl := lt_of_block h.cells
  have hbl := h.lt
  have hcap : 0 < cap := by have := h.row.fit; rw [cellsQ_len] at this; simp at this; omega
  have hbp := h.ne hcap
  have hm : (m, v) ∈ L1 ++ (m, v) :: L2 := by simp
  have hk0 := h.keep (hb.trans ((Below.refl _ _).drew))
  have hrow := take_row (z0 := z0) (z1 := z1) (z2 := z2) (z3 := z3) (z4 := z4) (z5 := z5) (z6 := z6) (A' := some ⟨b, od, none⟩) hk0.row (fun hc => by rw [hod hc])
  have hm3 : Mv (fun k => k = p ∨ k = b) w (put7 (W0.drew.setCells b (off + 7) (cellsQ L1)) b off z0 z1 z2 z3 z4 z5 z6) :=
    (((Mv.of_below hb).drew).trans (Mv.setCells (.inr rfl) _ _ _)).put7 (.inl (.inr rfl))
  have hc3 : (put7 (W0.drew.setCells b (off + 7) (cellsQ L1)) b off z0 z1 z2 z3 z4 z5 z6).heap[p]? = some (.cells #[.int .i64 most, .slice A (L1 ++ (m, v) :: L2).length cap, wV (lightL ((L1 ++ (m, v) :: L2).map Prod.fst)) (heavyL ((L1 ++ (m, v) :: L2).map Prod.fst))] 131 (0, 0)) :=
    (put7_other (Ne.symm hbp)).trans (((Mv.setCells (S := fun k => k = b) rfl (cellsQ L1) (off + 7) W0.drew).block p (lt_of_block hk0.cells) (Ne.symm hbp)).trans hk0.cells)
  have hb3 : b < (put7 (W0.drew.setCells b (off + 7) (cellsQ L1)) b off z0 z1 z2 z3 z4 z5 z6).heap.size := Nat.lt_of_lt_of_le hbl hm3.size
  generalize put7 (W0.drew.setCells b (off + 7) (cellsQ L1)) b off z0 z1 z2 z3 z4 z5 z6 = W3 at *
  have hp3 := lt_of_block hc3
  have hc5 := (h5.block p (by simpa [World.setCell] using hp3)).trans (set_cells hc3 1 (.slice (some ⟨b, od, none⟩) (L1.length + L2.length) (cap - 1)))
  have hc6 := set_cells hc5 2 (wV (lightL (L1.map Prod.fst ++ L2.map Prod.fst)) (heavyL (L1.map Prod.fst ++ L2.map Prod.fst)))
  have hps : p ≠ w.heap.size := Nat.ne_of_lt hpl
  have hbs : b ≠ w.heap.size := Nat.ne_of_lt hbl
  have hmv : Mv (fun k => k = p ∨ k = b) w (put7 (w5.setCell ⟨p, 2, none⟩ (wV (lightL (L1.map Prod.fst ++ L2.map Prod.fst)) (heavyL (L1.map Prod.fst ++ L2.map Prod.fst)))) w.heap.size 0 c0 c1 c2 c3 c4 c5 c6) :=
    (((hm3.trans (Mv.setCell (.inl rfl) _)).trans (Mv.of_below h5)).trans (Mv.setCell (.inl rfl) _)).put7 (.inr (Nat.le_refl _))
  have hfar : ∀ e ∈ L1 ++ (m, v) :: L2, ∀ g, e.2.ownBlock = some g → g < w.heap.size ∧ g ≠ p ∧ g ≠ b := fun e he g hg => by
    obtain ⟨a1, a2, a3⟩ := h.far e he g hg
    exact ⟨a1, a2, a3 hcap⟩
  have hkeep : ∀ e ∈ L1 ++ (m, v) :: L2, MsAt (put7 (w5.setCell ⟨p, 2, none⟩ (wV (lightL (L1.map Prod.fst ++ L2.map Prod.fst)) (heavyL (L1.map Prod.fst ++ L2.map Prod.fst)))) w.heap.size 0 c0 c1 c2 c3 c4 c5 c6) e.1 e.2 := fun e he =>
    (h.each e he).keep (fun g hg hl => hmv.block g hl (fun hk => by
      obtain ⟨a1, a2, a3⟩ := hfar e he g hg
      exact hk.elim a2 a3)) hmv.size
  have hsub : ∀ e ∈ L1 ++ L2, e ∈ L1 ++ (m, v) :: L2 := fun e he => by
    rcases List.mem_append.1 he with h | h
    · exact List.mem_append.2 (.inl h)
    · exact List.mem_append.2 (.inr (List.mem_cons_of_mem _ h))
  refine ⟨v, rfl, hkeep _ hm, hfar _ hm, ⟨L1 ++ L2, some ⟨b, od, none⟩, off + 7, cap - 1, by simp, ⟨?_, ?_, fun _ => hbp, Nat.lt_of_lt_of_le hbl hmv.size, fun e he => hkeep e (hsub e he), fun e he g hg => ?_⟩⟩, hmv⟩
  · rw [put7_other hps, hc6]
    simp
  · refine hrow.keep (fun _ => ?_)
    exact (put7_other hbs).trans ((Below.heap_setCell _ _ _ _ hbp).trans ((h5.block b (by simpa [World.setCell] using hb3)).trans (Below.heap_setCell _ _ _ _ hbp)))
  · obtain ⟨a1, a2, a3⟩ := hfar e (hsub e he) g hg
    exact ⟨Nat.lt_of_lt_of_le a1 hmv.size, a2, fun _ => a3⟩

set_option maxRecDepth 100000 in
set_option maxHeartbeats 4000000 in
theorem qTake_calls (w : World) (p b : Nat) (most : Int) (X1 X2 : List Ms) (m : Ms) (h : QAt w p b most (X1 ++ m :: X2)) (hX : (X1 ++ X2).length ≤ 60) :
    Calls Try.prog 64 #[.pointer (some ⟨p, 0, none⟩), .int .i64 X1.length] w (QTook w p b most X1 X2 m) := by
  obtain ⟨L, A, off, cap, hLX, h⟩ := h
  obtain ⟨L1, L', rfl, rfl, hL'⟩ := List.map_eq_append_iff.1 hLX
  obtain ⟨⟨m', v⟩, L2, rfl, hm', rfl⟩ := List.map_eq_cons_iff.1 hL'
  dsimp only at hm'
  subst hm'
  clear hLX hL'
  rw [List.length_map]
  have hme := h.each (m', v) (by simp)
  obtain ⟨A1, cap1, hv⟩ := hme.ps.form
  dsimp only at hv hme
  subst hv
  obtain ⟨hA, hat⟩ := row_at h.row
  subst hA
  generalize hk : L1.length = k at *
  have hn : (L1 ++ (m', Value.slice A1 m'.ps.length cap1) :: L2).length = k + 1 + L2.length := by simp [hk]; omega
  have hpl := lt_of_block h.cells
  have hbl := h.lt
  have hcap : k + 1 + L2.length ≤ cap := by have := h.row.fit; rw [cellsQ_len, hn] at this; omega
  have hbp : b ≠ p := h.ne (by omega)
  have hk60 : k + L2.length ≤ 60 := by simp at hX; omega
  have HW := Lib.hid (fun w => run_sub_w w (L1.map Prod.fst) (L2.map Prod.fst) m' (by simp; omega) 37)
  have hmap : ((L1 ++ (m', Value.slice A1 m'.ps.length cap1) :: L2).map Prod.fst) = L1.map Prod.fst ++ m' :: L2.map Prod.fst := by simp
  obtain ⟨⟨c0, c1, c2⟩, f0, f1, f2⟩ := three_c h.cells
  have HMAP := Lib.hid hmap
  rw [hn] at c1
  rw [hmap] at c2
  have HQ := Lib.hid h
  have HME := Lib.hid hme
  have a0 := hat 0 (by omega)
  have a1 := hat 1 (by omega)
  have a2 := hat 2 (by omega)
  have a3 := hat 3 (by omega)
  have a4 := hat 4 (by omega)
  have a5 := hat 5 (by omega)
  have a6 := hat 6 (by omega)
  rw [Nat.add_zero] at a0
  simp only [List.getElem?_cons_zero, List.getElem?_cons_succ] at a0 a1 a2 a3 a4 a5 a6
  have HK := Lib.hid hk
  clear h hme hat hmap hn hX hk
  generalize hn1 : m'.ps.length = n1 at *
  have HN1 := Lib.hid hn1
  clear hn1
  go_enter Try.func64, Try.ntmps64
  go_wp2_with fail
  have hB0 := (below_one w (.cells #[.string ⟨#[]⟩, .int .i64 0, .int .u8 0, .bool false, .slice none 0 0, .string ⟨#[]⟩, .string ⟨#[]⟩] 50)).alloc (by simp) (.cells #[.string m'.src, .int .i64 m'.tick, .int .u8 m'.q, .bool m'.rt, .slice A1 n1 cap1, .string m'.tp, .string m'.pl] 50)
  have hX1 := seven_new (w.alloc (.cells #[.string ⟨#[]⟩, .int .i64 0, .int .u8 0, .bool false, .slice none 0 0, .string ⟨#[]⟩, .string ⟨#[]⟩] 50)) (.string m'.src) (.int .i64 m'.tick) (.int .u8 m'.q) (.bool m'.rt) (.slice A1 n1 cap1) (.string m'.tp) (.string m'.pl) 50 (w.heap.size + 1) (by simp)
  have hX0 := (Below.heap_alloc (w.alloc (.cells #[.string ⟨#[]⟩, .int .i64 0, .int .u8 0, .bool false, .slice none 0 0, .string ⟨#[]⟩, .string ⟨#[]⟩] 50)) (.cells #[.string m'.src, .int .i64 m'.tick, .int .u8 m'.q, .bool m'.rt, .slice A1 n1 cap1, .string m'.tp, .string m'.pl] 50) w.heap.size (by simp)).trans (heap_alloc_new w (.cells #[.string ⟨#[]⟩, .int .i64 0, .int .u8 0, .bool false, .slice none 0 0, .string ⟨#[]⟩, .string ⟨#[]⟩] 50))
  generalize (w.alloc (.cells #[.string ⟨#[]⟩, .int .i64 0, .int .u8 0, .bool false, .slice none 0 0, .string ⟨#[]⟩, .string ⟨#[]⟩] 50)).alloc (.cells #[.string m'.src, .int .i64 m'.tick, .int .u8 m'.q, .bool m'.rt, .slice A1 n1 cap1, .string m'.tp, .string m'.pl] 50) = W0 at *
  have hk0 := HQ.out.keep hB0
  have hk0d : QLst W0.drew p b most (L1 ++ (m', Value.slice A1 n1 cap1) :: L2) (some ⟨b, off, none⟩) off cap := hk0.keep ((Below.refl _ _).drew)
  have HB0 := Lib.hid hB0
  have HX1 := Lib.hid hX1
  have HX0 := Lib.hid hX0
  have HK0 := Lib.hid hk0
  have HK0D := Lib.hid hk0d
  have hpl0 := lt_of_block hk0.cells
  have hbl0 := hk0.lt
  have hsz0 := lt_of_block hX1
  have HSRC := Lib.hid (show ∀ j u, (cellsQ L1)[j]? = some u → W0.drew.cell? ⟨b, off + j, none⟩ = some u from fun j u hj => hk0d.row.holds j u (by rw [cellsQ_app, List.getElem?_append_left (List.getElem?_eq_some_iff.1 hj).1]; exact hj))
  have HFR := Lib.hid (show ∀ j, j < k * 7 → (W0.drew.cell? ⟨b, off + 7 + j, none⟩).isSome = true ∧ W0.drew.frozen? ⟨b, off + 7 + j, none⟩ = false from fun j hj => by
    have := hk0d.row.free (7 + j) (by omega)
    rwa [← Nat.add_assoc] at this)
  have HONE := Lib.hid (cellsQ_one L1 (fun e he => by obtain ⟨A, c, h⟩ := (HQ.out.each e (by simp [he])).ps.form; rw [h]; rfl))
  have HCL := Lib.hid (show (cellsQ L1).length = k * 7 by rw [cellsQ_len, HK.out])
  clear c0 c1 c2 f0 f1 f2 a0 a1 a2 a3 a4 a5 a6 hB0 hX1 hX0 hk0d
  obtain ⟨⟨c0, c1, c2⟩, f0, f1, f2⟩ := three_c hk0.cells
  rw [show (L1 ++ (m', Value.slice A1 n1 cap1) :: L2).length = k + 1 + L2.length by simp [HK.out]; omega] at c1
  rw [show ((L1 ++ (m', Value.slice A1 n1 cap1) :: L2).map Prod.fst) = L1.map Prod.fst ++ m' :: L2.map Prod.fst by simp] at c2
  clear hk0
  have hw1 : IntKind.i64.wrap ((k : Int) + 1) = (k : Int) + 1 := by rw [IntKind.wrap_i64]; omega
  have hmx : max ((k : Int) + 1) 0 = (k : Int) + 1 := by omega
  have htn : ((k : Int) + 1).toNat = k + 1 := by omega
  have hle : (k : Int) + 1 ≤ cap := by omega
  have h1k : (1 : Int) ≤ (k : Int) + 1 := by omega
  have hge : (0 : Int) ≤ (k : Int) + 1 := by omega
  obtain ⟨od, hod, hod1⟩ : ∃ od, (if cap = 1 then some (⟨b, off, none⟩ : Addr) else some ⟨b, off + 7, none⟩) = some ⟨b, od, none⟩ ∧ (0 < cap - 1 → od = off + 7) := by
    by_cases hc : cap = 1
    · exact ⟨off, by rw [if_pos hc], fun h => by omega⟩
    · exact ⟨off + 7, by rw [if_neg hc], fun h => rfl⟩
  have HOD := Lib.hid hod1
  have HFO := Lib.hid (show ∀ j, j < k * 7 → (W0.drew.cell? ⟨b, od + j, none⟩).isSome = true ∧ W0.drew.frozen? ⟨b, od + j, none⟩ = false from fun j hj => by rw [hod1 (by omega)]; exact HFR.out j hj)
  clear hod1
  go_region_law (first
    | ((with_reducible refine step_copy_msgs W0.drew rfl (.tmp 19) (.tmp 23) rfl b od off (cap - 1) (k + 1 + L2.length) cap (cellsQ L1) k (by simp [Act.eval, Act.put]) (by simp [Act.eval, Act.put]) (by omega) HCL.out HSRC.out HFO.out HONE.out ?_); intro W2 HW2))
  all_goals
    have hW2 : W2 = W0.drew.setCells b (off + 7) (cellsQ L1) := by
      rw [HW2.out]
      by_cases hk : 0 < k
      · rw [HOD.out (by omega)]
      · have hnil : L1 = [] := List.eq_nil_of_length_eq_zero (by have := HK.out; omega)
        subst hnil
        rfl
    have hms : Mv (fun k => k = b) W0.drew W2 := by rw [hW2]; exact Mv.setCells (S := fun k => k = b) rfl _ _ _
    have hc2 := (hms.block p hpl0 (Ne.symm hbp)).trans HK0D.out.cells
    have hx1 := (hms.block (w.heap.size + 1) hsz0 (by omega)).trans HX1.out
    have hx0 := (hms.block w.heap.size (by show w.heap.size < W0.heap.size; omega) (by omega)).trans HX0.out
    have hcl : ∀ i, i < 7 → ∃ u, W2.cell? ⟨b, off + i, none⟩ = some u := fun i hi => by
      rw [hW2, World.cell?_setCells_out b _ _ _ _ (fun _ _ => Or.inl (by show off + i < off + 7; omega))]
      exact Option.isSome_iff_exists.1 (HK0D.out.row.free i (by omega)).1
    have hfl : ∀ i, i < 7 → W2.frozen? ⟨b, off + i, none⟩ = false := fun i hi => by
      rw [hW2, World.frozen?_setCells]
      exact (HK0D.out.row.free i (by omega)).2
    obtain ⟨u0, q0⟩ := hcl 0 (by omega)
    obtain ⟨u1, q1⟩ := hcl 1 (by omega)
    obtain ⟨u2, q2⟩ := hcl 2 (by omega)
    obtain ⟨u3, q3⟩ := hcl 3 (by omega)
    obtain ⟨u4, q4⟩ := hcl 4 (by omega)
    obtain ⟨u5, q5⟩ := hcl 5 (by omega)
    obtain ⟨u6, q6⟩ := hcl 6 (by omega)
    have r0 := hfl 0 (by omega)
    have r1 := hfl 1 (by omega)
    have r2 := hfl 2 (by omega)
    have r3 := hfl 3 (by omega)
    have r4 := hfl 4 (by omega)
    have r5 := hfl 5 (by omega)
    have r6 := hfl 6 (by omega)
    rw [Nat.add_zero] at q0 r0
    obtain ⟨⟨g0, g1, g2⟩, k0, k1, k2⟩ := three_c hc2
    rw [show (L1 ++ (m', Value.slice A1 n1 cap1) :: L2).length = k + 1 + L2.length by simp [HK.out]; omega] at g1
    rw [show ((L1 ++ (m', Value.slice A1 n1 cap1) :: L2).map Prod.fst) = L1.map Prod.fst ++ m' :: L2.map Prod.fst by simp] at g2
    have hpos : (0 : Int) < (k : Int) + 1 + L2.length := by omega
    have hpos1 : (1 : Int) ≤ (k : Int) + 1 + L2.length := by omega
    have hlen : k + 1 + L2.length - 1 = k + L2.length := by omega
    have hpb : p ≠ b := Ne.symm hbp
    have HX1' := Lib.hid hx1
    have HX0' := Lib.hid hx0
    have HC2 := Lib.hid hc2
    have HM2 := Lib.hid hms
    have HW2' := Lib.hid hW2
    clear c0 c1 c2 f0 f1 f2 hcl hfl hx1 hx0 hc2 hms hW2
    go_wp2_with fail
    have hD := fun w5 h5 => take_done (w5 := w5) (od := od) (z0 := .string ⟨#[]⟩) (z1 := .int .i64 0) (z2 := .int .u8 0) (z3 := .bool false) (z4 := .slice none 0 0) (z5 := .string ⟨#[]⟩) (z6 := .string ⟨#[]⟩) (c0 := .string m'.src) (c1 := .int .i64 m'.tick) (c2 := .int .u8 m'.q) (c3 := .bool m'.rt) (c4 := .slice A1 n1 cap1) (c5 := .string m'.tp) (c6 := .string m'.pl) HQ.out HB0.out HOD.out h5
    simp only [← HW2'.out, HK.out] at hD
    have hp4 := set_cells ((put7_other (o := off) (a0 := .string ⟨#[]⟩) (a1 := .int .i64 0) (a2 := .int .u8 0) (a3 := .bool false) (a4 := .slice none 0 0) (a5 := .string ⟨#[]⟩) (a6 := .string ⟨#[]⟩) hpb).trans HC2.out) 1 (.slice (some ⟨b, od, none⟩) (k + L2.length) (cap - 1))
    have hx1 : ((put7 W2 b off (.string ⟨#[]⟩) (.int .i64 0) (.int .u8 0) (.bool false) (.slice none 0 0) (.string ⟨#[]⟩) (.string ⟨#[]⟩)).setCell ⟨p, 1, none⟩ (.slice (some ⟨b, od, none⟩) (k + L2.length) (cap - 1))).heap[w.heap.size + 1]? = _ := (Below.heap_setCell _ _ _ _ (by show w.heap.size + 1 ≠ p; omega)).trans ((put7_other (by omega)).trans HX1'.out)
    have hx0 : ((put7 W2 b off (.string ⟨#[]⟩) (.int .i64 0) (.int .u8 0) (.bool false) (.slice none 0 0) (.string ⟨#[]⟩) (.string ⟨#[]⟩)).setCell ⟨p, 1, none⟩ (.slice (some ⟨b, od, none⟩) (k + L2.length) (cap - 1))).heap[w.heap.size]? = _ := (Below.heap_setCell _ _ _ _ (by show w.heap.size ≠ p; omega)).trans ((put7_other (by omega)).trans HX0'.out)
    rw [show ((L1 ++ (m', Value.slice A1 n1 cap1) :: L2).map Prod.fst) = L1.map Prod.fst ++ m' :: L2.map Prod.fst by simp] at hp4
    change Code.wp _ _ _ _ ((put7 W2 b off (.string ⟨#[]⟩) (.int .i64 0) (.int .u8 0) (.bool false) (.slice none 0 0) (.string ⟨#[]⟩) (.string ⟨#[]⟩)).setCell ⟨p, 1, none⟩ (.slice (some ⟨b, od, none⟩) (k + L2.length) (cap - 1)))
    generalize (put7 W2 b off (.string ⟨#[]⟩) (.int .i64 0) (.int .u8 0) (.bool false) (.slice none 0 0) (.string ⟨#[]⟩) (.string ⟨#[]⟩)).setCell ⟨p, 1, none⟩ (.slice (some ⟨b, od, none⟩) (k + L2.length) (cap - 1)) = W4 at *
    clear g0 g1 g2 k0 k1 k2 q0 q1 q2 q3 q4 q5 q6 r0 r1 r2 r3 r4 r5 r6 hod hw1 hmx htn
    obtain ⟨⟨c0, c1, c2⟩, f0, f1, f2⟩ := three_c hp4
    obtain ⟨d0, d1, d2, d3, d4, d5, d6, df⟩ := cells7 hx1
    have HP4 := Lib.hid hp4
    have HY1 := Lib.hid hx1
    have HY0 := Lib.hid hx0
    have HD := Lib.hid hD
    have hw := HW.out
    have hst := run_store_cx
    clear hp4 hx1 hx0 hD HX1' HX0' HC2 HM2 HW2 HW2' HW HQ HME
    unfold wV at *
    generalize floatOfInt .f64 (lightL (L1.map Prod.fst ++ m' :: L2.map Prod.fst)) = x1 at *
    generalize floatOfInt .f64 (heavyL (L1.map Prod.fst ++ m' :: L2.map Prod.fst)) = y1 at *
    generalize floatOfInt .f64 (lightL (L1.map Prod.fst ++ L2.map Prod.fst)) = x2 at *
    generalize floatOfInt .f64 (heavyL (L1.map Prod.fst ++ L2.map Prod.fst)) = y2 at *
    go_region_law (first
      | (go_simp; go_at_call 70; refine (weight_calls W4.drew m' _ ⟨_, _, _, rfl⟩).mono ?_; rintro e w5 ⟨rfl, hb5⟩; have HB5 := Lib.hid hb5; have hp5 := (hb5.block p (lt_of_block HP4.out)).trans HP4.out; have hz1 := (hb5.block _ (lt_of_block HY1.out)).trans HY1.out; have hz0 := (hb5.block _ (lt_of_block HY0.out)).trans HY0.out; have HZ1 := Lib.hid hz1; have HZ0 := Lib.hid hz0; obtain ⟨⟨g0, g1, g2⟩, k0, k1, k2⟩ := three_c hp5; clear hb5 hp5 hz1 hz0))
    all_goals
      have HF := Lib.hid (HD.out _ (Below.trans ((Below.refl _ _).drew) HB5.out))
      obtain ⟨s0, s1, s2, s3, s4, s5, s6, sf⟩ := cells7 HZ1.out
      obtain ⟨t0, t1, t2, t3, t4, t5, t6, tf⟩ := cells7 HZ0.out
      clear HD
      go_wp2
      change bodyPost _ _ _ _ _ (put7 (w5.setCell ⟨p, 2, none⟩ (.complex .f64 x2 y2)) w.heap.size 0 _ _ _ _ _ _ _)
      have hfin := put7_block (a0 := .string m'.src) (a1 := .int .i64 m'.tick) (a2 := .int .u8 m'.q) (a3 := .bool m'.rt) (a4 := .slice A1 n1 cap1) (a5 := .string m'.tp) (a6 := .string m'.pl) ((Below.heap_setCell w5 ⟨p, 2, none⟩ (.complex .f64 x2 y2) w.heap.size (by show w.heap.size ≠ p; omega)).trans HZ0.out)
      obtain ⟨e0, e1, e2, e3, e4, e5, e6, ef⟩ := cells7 hfin
      refine bodyPost_ret (v := msV m' (.slice A1 n1 cap1)) ?_ rfl HF.out
      simp [results, Try.results64, go_sem, e0, e1, e2, e3, e4, e5, e6]

#print axioms qTake_calls
end Go.Proofs.Yteofjcmpelcmaaa
