/-
  A row of the document's messages, and append to it. (No statement: contracts that the proofs of the statements use.)
-/
import Derived.Test.YteofjcmpelcmaaaJQue14
namespace Go.Proofs.Yteofjcmpelcmaaa
open Go.RowKit

theorem Try.infoRMsg : (Try.prog.info? 77).map (fun i => (i.zero, i.size, i.bytes)) = some (some (.agg #[.string ⟨#[]⟩, .int .i64 0, .int .u8 0, .bool false, .slice none 0 0, .string ⟨#[]⟩, .string ⟨#[]⟩]), 7, 88) := by kernel_rfl

/-- A row of the document's messages, each with its properties. -/
structure RowS (w : World) (b off cap : Nat) (Y : List (Ms × Value)) : Prop where
  row : RowQ w (some ⟨b, off, none⟩) b off cap (cellsQ Y)
  lt : b < w.heap.size
  each : ∀ e ∈ Y, MsAt w e.1 e.2
theorem RowS.below {w w' : World} {b off cap : Nat} {Y : List (Ms × Value)} (h : RowS w b off cap Y) (hb : Below w.heap.size w w') : RowS w' b off cap Y :=
  ⟨h.row.keep (fun _ => hb.block b h.lt), Nat.lt_of_lt_of_le h.lt hb.size, fun e he => (h.each e he).below hb⟩
theorem RowS.one {w : World} {b off cap : Nat} {Y : List (Ms × Value)} (h : RowS w b off cap Y) : ∀ e ∈ Y, e.2.oneCell' = true := fun e he => by
  obtain ⟨A, c, hv⟩ := (h.each e he).ps.form
  rw [hv]
  rfl
theorem rowS_nil (w : World) (b off : Nat) (hb : b < w.heap.size) : RowS w b off 0 [] :=
  ⟨⟨fun h => absurd h (by omega), fun j u hj => by simp [cellsQ] at hj, fun j hj => by omega, by simp [cellsQ], by unfold maxLen; omega⟩, hb, fun e he => by cases he⟩

/-- Where the row lies behind an append. -/
structure AppS (w w' : World) (b b' off' cap' n : Nat) (cs : List Value) : Prop where
  row : RowQ w' (some ⟨b', off', none⟩) b' off' cap' cs
  room : n ≤ cap'
  mv : Mv (fun k => k = b) w w'
  at' : b' = b ∨ b' = w.heap.size
  lt : b' < w'.heap.size

set_option maxRecDepth 100000 in
set_option maxHeartbeats 2000000 in
theorem run_append_rr (w : World) (ty : TypeId) (b off cap : Nat) (L M : List (Ms × Value)) (hr : RowQ w (some ⟨b, off, none⟩) b off cap (cellsQ L)) (hb : b < w.heap.size)
    (bm om c : Nat) (hn : ∀ j u, (cellsQ M)[j]? = some u → w.cell? ⟨bm, om + j, none⟩ = some u) (he : ∀ e ∈ M, e.2.oneCell' = true) (hL : L.length + M.length ≤ 1000000) :
    ∃ b' off' cap' w', (Builtin.append_ #[69, 69] ty #[.slice (some ⟨b, off, none⟩) L.length cap, .slice (some ⟨bm, om, none⟩) M.length c]).run Try.prog w = .ok (.slice (some ⟨b', off', none⟩) (L.length + M.length) cap') w' ∧ AppS w w' b b' off' cap' (L.length + M.length) (cellsQ (L ++ M)) := by
  obtain ⟨i0, hi, hz0, hz1, hz2⟩ := info_parts Try.infoRMsg
  have hone := cellsQ_one M he
  have hml := cellsQ_len M
  have hs : Src Try.prog i0.size 69 (.slice (some ⟨bm, om, none⟩) M.length c) M.length (cellsQ M) w := Src.ofSlice w Try.underlying69 ⟨bm, om, none⟩ M.length c (cellsQ M) (by rw [hz1]; exact hml) (fun j u hj => by rw [Addr.add_lit]; exact hn j u hj) hone
  have hcs : cellsQ (L ++ M) = cellsQ L ++ cellsQ M := cellsQ_app L M
  have hcl := cellsQ_len L
  have hfit := hr.fit
  rw [hcl] at hfit
  have hle : L.length ≤ cap := by omega
  by_cases hroom : L.length + M.length ≤ cap
  · have hfr : ∀ j, j < (cellsQ M).length → (w.cell? ⟨b, off + L.length * 7 + j, none⟩).isSome = true ∧ w.frozen? ⟨b, off + L.length * 7 + j, none⟩ = false := fun j hj => by
      rw [hml] at hj
      have := hr.free (L.length * 7 + j) (by omega)
      rwa [← Nat.add_assoc] at this
    have hrun := run_append_room_src (P := Try.prog) w 69 69 ty 77 i0 Try.underlying69 hi b off L.length cap (.slice (some ⟨bm, om, none⟩) M.length c) M.length (cellsQ M) hs hroom (fun j hj => by rw [hz1]; exact (hfr j hj).1) (fun j hj => by rw [hz1]; exact (hfr j hj).2)
    rw [hz1] at hrun
    refine ⟨b, off, cap, _, hrun, ?_, hroom, Mv.setCells (S := fun k => k = b) rfl _ _ _, .inl rfl, Nat.lt_of_lt_of_le hb (Mv.setCells (S := fun k => k = b) rfl _ _ _).size⟩
    refine ⟨fun _ => rfl, fun j u hj => ?_, fun j hj => ⟨?_, ?_⟩, by rw [cellsQ_len]; simp; omega, hr.max⟩
    · rw [hcs] at hj
      by_cases hj0 : j < L.length * 7
      · rw [List.getElem?_append_left (by omega)] at hj
        rw [World.cell?_setCells_out b _ _ _ _ (fun _ _ => Or.inl (by show off + j < off + L.length * 7; omega))]
        exact hr.holds j u hj
      · rw [List.getElem?_append_right (by omega), hcl] at hj
        have hj7 : j - L.length * 7 < (cellsQ M).length := (List.getElem?_eq_some_iff.1 hj).1
        have := World.cell?_setCells_in b (cellsQ M) (off + L.length * 7) w (fun j hj => (hfr j hj).1) (j - L.length * 7) hj7
        rw [show off + L.length * 7 + (j - L.length * 7) = off + j by omega] at this
        rw [this]
        rw [List.getElem?_eq_getElem hj7] at hj
        exact hj
    · by_cases hj0 : L.length * 7 ≤ j ∧ j < L.length * 7 + M.length * 7
      · have hj7 : j - L.length * 7 < (cellsQ M).length := by rw [hml]; omega
        have := World.cell?_setCells_in b (cellsQ M) (off + L.length * 7) w (fun j hj => (hfr j hj).1) (j - L.length * 7) hj7
        rw [show off + L.length * 7 + (j - L.length * 7) = off + j by omega] at this
        rw [this]
        rfl
      · rw [World.cell?_setCells_out b _ _ _ _ (fun _ _ => by rw [hml]; show off + j < off + L.length * 7 ∨ off + L.length * 7 + M.length * 7 ≤ off + j; omega)]
        exact (hr.free j hj).1
    · rw [World.frozen?_setCells]
      exact (hr.free j hj).2
  · have hold : (Builtin.firstCells i0.size L.length (.slice (some ⟨b, off, none⟩) L.length cap)).run Try.prog w.drew = .ok (cellsQ L).toArray w.drew :=
      run_firstCells_some w.drew i0.size L.length ⟨b, off, none⟩ L.length cap (cellsQ L) (by rw [hz1]; exact hcl) (fun j u hj => by rw [Addr.add_lit]; exact hr.holds j u hj)
    have hmx := hr.max
    have hcapn : cap ≤ 1000000 := by omega
    have hrun := run_append_grow_src (P := Try.prog) w 69 69 ty 77 i0 _ Try.underlying69 hi hz0 (some ⟨b, off, none⟩) L.length cap (cellsQ L) hold (.slice (some ⟨bm, om, none⟩) M.length c) M.length (cellsQ M) hs (by omega) (by omega) (growslice_fits (by omega) (by rw [hz2]; omega))
    have hge := grownCap_ge w (L.length + M.length) cap 77
    have hcm := grownCap_le_maxLen w (L.length + M.length) cap 77 (by unfold maxLen; omega)
    rw [← hcs] at hrun
    generalize grownCap w (L.length + M.length) cap 77 = G at *
    have hsz : ((cellsQ (L ++ M)).toArray ++ Builtin.zeroCells (Value.agg #[.string ⟨#[]⟩, .int .i64 0, .int .u8 0, .bool false, .slice none 0 0, .string ⟨#[]⟩, .string ⟨#[]⟩]).cells (G - (L.length + M.length))).size = G * 7 := by
      rw [Array.size_append, List.size_toArray, cellsQ_len, size_zeroCells, show (Value.agg #[.string ⟨#[]⟩, .int .i64 0, .int .u8 0, .bool false, .slice none 0 0, .string ⟨#[]⟩, .string ⟨#[]⟩]).cells.size = 7 from rfl]
      simp
      omega
    refine ⟨w.heap.size, 0, G, _, hrun, ?_, hge, (Mv.refl _ w).drew.alloc _, .inr rfl, by simp⟩
    refine ⟨fun _ => rfl, fun j u hj => ?_, fun j hj => ⟨?_, ?_⟩, by rw [cellsQ_len]; simp; omega, hcm⟩
    · have hjl := (List.getElem?_eq_some_iff.1 hj).1
      have e1 : (w.drew.alloc (.cells ((cellsQ (L ++ M)).toArray ++ Builtin.zeroCells (Value.agg #[.string ⟨#[]⟩, .int .i64 0, .int .u8 0, .bool false, .slice none 0 0, .string ⟨#[]⟩, .string ⟨#[]⟩]).cells (G - (L.length + M.length))) 77)).cell? ⟨w.heap.size, 0 + j, none⟩ = _ := World.cell?_alloc_new w.drew _ _ (0 + j)
      rw [e1, Nat.zero_add, Array.getElem?_append_left (by simpa using hjl), List.getElem?_toArray]
      exact hj
    · have e1 : (w.drew.alloc (.cells ((cellsQ (L ++ M)).toArray ++ Builtin.zeroCells (Value.agg #[.string ⟨#[]⟩, .int .i64 0, .int .u8 0, .bool false, .slice none 0 0, .string ⟨#[]⟩, .string ⟨#[]⟩]).cells (G - (L.length + M.length))) 77)).cell? ⟨w.heap.size, 0 + j, none⟩ = _ := World.cell?_alloc_new w.drew _ _ (0 + j)
      rw [e1, Nat.zero_add, Array.getElem?_eq_getElem (by rw [hsz]; exact hj)]
      rfl
    · exact World.frozen?_alloc_new w.drew _ _ _

/-- At a plain region's list. -/
theorem wpList_append_rr (w : World) {ops : Array Oper} {rest : List Oper} {o : Oper} {a : Act} {Q : Exit → Act → World → Prop} (hgd : o.guard = none) (s x : Operand)
    (ho : o.op = .call { callee := .builtin .append, args := #[s, x], argTypes := #[69, 69] })
    (b off cap : Nat) (L M : List (Ms × Value)) (nL nM : Nat) (hnL : L.length = nL) (hnM : M.length = nM) (hs : a.eval s = .slice (some ⟨b, off, none⟩) nL cap) (hr : RowQ w (some ⟨b, off, none⟩) b off cap (cellsQ L)) (hb : b < w.heap.size)
    (bm om c : Nat) (hx : a.eval x = .slice (some ⟨bm, om, none⟩) nM c) (hn : ∀ j u, (cellsQ M)[j]? = some u → w.cell? ⟨bm, om + j, none⟩ = some u) (he : ∀ e ∈ M, e.2.oneCell' = true) (hL : nL + nM ≤ 1000000)
    (h : ∀ b' off' cap' w', AppS w w' b b' off' cap' (nL + nM) (cellsQ (L ++ M)) → wpList Try.prog ops Q rest (a.put o.dst (.slice (some ⟨b', off', none⟩) (nL + nM) cap')) w') : wpList Try.prog ops Q (o :: rest) a w := by
  subst hnL hnM
  refine wpList_plain hgd fun K hK => ?_
  obtain ⟨b', off', cap', w', hrun, h'⟩ := run_append_rr w o.type b off cap L M hr hb bm om c hn he hL
  unfold Oper.wp execOp
  simp only [ho, resolve, invoke, builtin, Sem.run_bind, Sem.run_pure, Result.andThen_ok, List.map_toArray, List.map_cons, List.map_nil, hs, hx, hrun]
  exact hK _ _ (h _ _ _ _ h')

/-- At a step of a region that draws its order. -/
theorem step_append_rr (w : World) {ops : Array Oper} {o : Oper} {a : Act} {K : Act → World → Prop} {Q : Exit → Act → World → Prop} {E : Prop} (hgd : o.guard = none) (s x : Operand)
    (ho : o.op = .call { callee := .builtin .append, args := #[s, x], argTypes := #[69, 69] })
    (b off cap : Nat) (L M : List (Ms × Value)) (nL nM : Nat) (hnL : L.length = nL) (hnM : M.length = nM) (hs : a.eval s = .slice (some ⟨b, off, none⟩) nL cap) (hr : RowQ w (some ⟨b, off, none⟩) b off cap (cellsQ L)) (hb : b < w.heap.size)
    (bm om c : Nat) (hx : a.eval x = .slice (some ⟨bm, om, none⟩) nM c) (hn : ∀ j u, (cellsQ M)[j]? = some u → w.cell? ⟨bm, om + j, none⟩ = some u) (he : ∀ e ∈ M, e.2.oneCell' = true) (hL : nL + nM ≤ 1000000)
    (h : ∀ b' off' cap' w', AppS w w' b b' off' cap' (nL + nM) (cellsQ (L ++ M)) → K (a.put o.dst (.slice (some ⟨b', off', none⟩) (nL + nM) cap')) w') :
    if Region.wanted o (yielded ops a.tmps) = true then Oper.wp Try.prog o a w K Q else E := by
  subst hnL hnM
  have hw : Region.wanted o (yielded ops a.tmps) = true := by simp [Region.wanted, hgd]
  rw [if_pos hw]
  obtain ⟨b', off', cap', w', hrun, h'⟩ := run_append_rr w o.type b off cap L M hr hb bm om c hn he hL
  unfold Oper.wp execOp
  simp only [ho, resolve, invoke, builtin, Sem.run_bind, Sem.run_pure, Result.andThen_ok, List.map_toArray, List.map_cons, List.map_nil, hs, hx, hrun]
  exact h _ _ _ _ h'

#print axioms step_append_rr
end Go.Proofs.Yteofjcmpelcmaaa
