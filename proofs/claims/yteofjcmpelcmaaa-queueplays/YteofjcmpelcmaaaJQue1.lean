/-
  A row of messages in memory, and append to it. (No statement: contracts that the proofs of the statements use.)
-/
import Derived.Test.YteofjcmpelcmaaaJMsg1
import Derived.Deep.Upon
import Derived.Deep.RegionLaw
import Derived.Laws.IdiomCopy
namespace Go.Proofs.Yteofjcmpelcmaaa
open Go.RowKit

/-- Nothing old has turned but the blocks of S. -/
structure Mv (S : Nat → Prop) (w w' : World) : Prop where
  os : w'.os = w.os
  tape : w'.tape = w.tape
  output : w'.output = w.output
  size : w.heap.size ≤ w'.heap.size
  block : ∀ k, k < w.heap.size → ¬ S k → w'.heap[k]? = w.heap[k]?

theorem Mv.refl (S : Nat → Prop) (w : World) : Mv S w w := ⟨rfl, rfl, rfl, Nat.le_refl _, fun _ _ _ => rfl⟩
theorem Mv.of_below {S : Nat → Prop} {w w' : World} (h : Below w.heap.size w w') : Mv S w w' := ⟨h.os, h.tape, h.output, h.size, fun k hk _ => h.block k hk⟩
theorem Mv.mono {S T : Nat → Prop} {w w' : World} (h : Mv S w w') (hS : ∀ k, k < w.heap.size → S k → T k) : Mv T w w' := ⟨h.os, h.tape, h.output, h.size, fun k hk hT => h.block k hk (fun e => hT (hS k hk e))⟩
theorem Mv.trans {S : Nat → Prop} {a b c : World} (h : Mv S a b) (k : Mv S b c) : Mv S a c :=
  ⟨k.os.trans h.os, k.tape.trans h.tape, k.output.trans h.output, Nat.le_trans h.size k.size, fun i hi hS => (k.block i (Nat.lt_of_lt_of_le hi h.size) hS).trans (h.block i hi hS)⟩
theorem Mv.below {S : Nat → Prop} {w w' : World} {B : Nat} (h : Mv S w w') (hB : B ≤ w.heap.size) (hS : ∀ k, S k → B ≤ k) : Below B w w' :=
  ⟨h.os, h.tape, h.output, h.size, fun k hk => h.block k (Nat.lt_of_lt_of_le hk hB) (fun e => by have := hS k e; omega)⟩
theorem Mv.setCell {S : Nat → Prop} {w : World} {b o : Nat} (hS : S b) (v : Value) : Mv S w (w.setCell ⟨b, o, none⟩ v) :=
  ⟨rfl, rfl, rfl, by simp [World.setCell], fun k _ h => Below.heap_setCell _ _ _ _ (fun e => h (by rw [e]; exact hS))⟩
theorem Mv.setCells {S : Nat → Prop} {b : Nat} (hS : S b) : ∀ (vs : List Value) (o : Nat) (w : World), Mv S w (w.setCells b o vs)
  | [], _, w => Mv.refl S w
  | v :: vs, o, w => (Mv.setCell hS v).trans (Mv.setCells hS vs (o + 1) (w.setCell ⟨b, o, none⟩ v))
theorem Mv.drew {S : Nat → Prop} {w w' : World} (h : Mv S w w') : Mv S w w'.drew := ⟨h.os, h.tape, h.output, h.size, h.block⟩
theorem Mv.alloc {S : Nat → Prop} {w w' : World} (h : Mv S w w') (o : Obj) : Mv S w (w'.alloc o) := h.trans (Mv.of_below (below_one w' o))
theorem put7_same {W : World} {b o : Nat} {a0 a1 a2 a3 a4 a5 a6 : Value} : (put7 W b o a0 a1 a2 a3 a4 a5 a6).os = W.os ∧ (put7 W b o a0 a1 a2 a3 a4 a5 a6).tape = W.tape ∧ (put7 W b o a0 a1 a2 a3 a4 a5 a6).output = W.output := by
  have h := put7_below (o := o) (a0 := a0) (a1 := a1) (a2 := a2) (a3 := a3) (a4 := a4) (a5 := a5) (a6 := a6) (Below.refl 0 W) (Nat.zero_le b)
  exact ⟨h.os, h.tape, h.output⟩
theorem Mv.put7 {S : Nat → Prop} {w w' : World} {b o : Nat} {a0 a1 a2 a3 a4 a5 a6 : Value} (h : Mv S w w') (hb : S b ∨ w.heap.size ≤ b) : Mv S w (put7 w' b o a0 a1 a2 a3 a4 a5 a6) := by
  obtain ⟨e1, e2, e3⟩ := put7_same (W := w') (b := b) (o := o) (a0 := a0) (a1 := a1) (a2 := a2) (a3 := a3) (a4 := a4) (a5 := a5) (a6 := a6)
  refine ⟨e1.trans h.os, e2.trans h.tape, e3.trans h.output, by rw [put7_size]; exact h.size, fun k hk hS => (put7_other (fun e => ?_)).trans (h.block k hk hS)⟩
  subst e
  rcases hb with hb | hb
  · exact hS hb
  · omega

/-- The cells of messages. -/
def cellsQ (L : List (Ms × Value)) : List Value := L.flatMap fun e => msC e.1 e.2
theorem cellsQ_len (L : List (Ms × Value)) : (cellsQ L).length = L.length * 7 := by
  unfold cellsQ
  induction L with
  | nil => rfl
  | cons p L ih => rw [List.flatMap_cons, List.length_append, ih]; simp; omega
theorem cellsQ_at : ∀ (L : List (Ms × Value)) (i k : Nat), k < 7 → (cellsQ L)[i * 7 + k]? = (L[i]?).bind fun e => (msC e.1 e.2)[k]?
  | [], i, k, _ => by simp [cellsQ]
  | p :: L, 0, k, hk => by
    unfold cellsQ
    rw [List.flatMap_cons, List.getElem?_append_left (by simp; omega)]
    simp
  | p :: L, i + 1, k, hk => by
    have ih := cellsQ_at L i k hk
    unfold cellsQ at *
    rw [List.flatMap_cons, List.getElem?_append_right (by simp; omega)]
    have : (i + 1) * 7 + k - (msC p.1 p.2).length = i * 7 + k := by simp; omega
    rw [this, ih]
    simp
theorem cellsQ_app (L M : List (Ms × Value)) : cellsQ (L ++ M) = cellsQ L ++ cellsQ M := by simp [cellsQ]
theorem cellsQ_one (L : List (Ms × Value)) (h : ∀ e ∈ L, e.2.oneCell' = true) : ∀ u ∈ cellsQ L, u.oneCell' = true := by
  intro u hu
  obtain ⟨p, hp, hq⟩ := List.mem_flatMap.1 hu
  simp at hq
  rcases hq with rfl | rfl | rfl | rfl | rfl | rfl | rfl
  all_goals first | rfl | exact h p hp

/-- A row of cells, seven an element: where it begins, how many it may hold. -/
structure RowQ (w : World) (A : Option Addr) (b off cap : Nat) (cs : List Value) : Prop where
  addr : 0 < cap → A = some ⟨b, off, none⟩
  holds : ∀ j u, cs[j]? = some u → w.cell? ⟨b, off + j, none⟩ = some u
  free : ∀ j, j < cap * 7 → (w.cell? ⟨b, off + j, none⟩).isSome = true ∧ w.frozen? ⟨b, off + j, none⟩ = false
  fit : cs.length ≤ cap * 7
  max : cap ≤ maxLen

theorem RowQ.keep {w w' : World} {A : Option Addr} {b off cap : Nat} {cs : List Value} (h : RowQ w A b off cap cs) (hb : 0 < cap → w'.heap[b]? = w.heap[b]?) : RowQ w' A b off cap cs := by
  by_cases hc : 0 < cap
  · have hq := hb hc
    exact ⟨h.addr, fun j u hj => (World.cell?_of_block (a := ⟨b, _, none⟩) hq).trans (h.holds j u hj), fun j hj => ⟨by rw [World.cell?_of_block (a := ⟨b, _, none⟩) hq]; exact (h.free j hj).1, (World.frozen?_of_block (a := ⟨b, _, none⟩) hq).trans (h.free j hj).2⟩, h.fit, h.max⟩
  · obtain rfl : cap = 0 := by omega
    have hn : cs = [] := List.eq_nil_of_length_eq_zero (by have := h.fit; omega)
    subst hn
    exact ⟨fun h => absurd h (by omega), fun j u hj => by simp at hj, fun j hj => by omega, by simp, h.max⟩

theorem Try.infoMsg : (Try.prog.info? 50).map (fun i => (i.zero, i.size, i.bytes)) = some (some (.agg #[.string ⟨#[]⟩, .int .i64 0, .int .u8 0, .bool false, .slice none 0 0, .string ⟨#[]⟩, .string ⟨#[]⟩]), 7, 88) := by kernel_rfl

/-- Where the row lies behind an append. -/
structure Appd (w w' : World) (b cap : Nat) (A' : Option Addr) (b' off' cap' n : Nat) (cs : List Value) : Prop where
  row : RowQ w' A' b' off' cap' cs
  room : n ≤ cap'
  mv : Mv (fun k => k = b ∧ 0 < cap) w w'
  at' : (b' = b ∧ 0 < cap) ∨ b' = w.heap.size
  lt : b' < w'.heap.size

set_option maxRecDepth 100000 in
set_option maxHeartbeats 2000000 in
theorem run_append_row (w : World) (ty : TypeId) (A : Option Addr) (b off cap : Nat) (L : List (Ms × Value)) (e : Ms × Value) (hr : RowQ w A b off cap (cellsQ L)) (hb : b < w.heap.size)
    (ad : Addr) (c : Nat) (hn : ∀ j u, (msC e.1 e.2)[j]? = some u → w.cell? (ad.add j) = some u) (he : e.2.oneCell' = true) (hL : L.length ≤ 1000000) :
    ∃ A' b' off' cap' w', (Builtin.append_ #[87, 87] ty #[.slice A L.length cap, .slice (some ad) 1 c]).run Try.prog w = .ok (.slice A' (L.length + 1) cap') w' ∧ Appd w w' b cap A' b' off' cap' (L.length + 1) (cellsQ (L ++ [e])) := by
  obtain ⟨i0, hi, hz0, hz1, hz2⟩ := info_parts Try.infoMsg
  have hone : ∀ u ∈ msC e.1 e.2, u.oneCell' = true := by
    intro u hu
    simp at hu
    rcases hu with rfl | rfl | rfl | rfl | rfl | rfl | rfl
    all_goals first | rfl | exact he
  have hs : Src Try.prog i0.size 87 (.slice (some ad) 1 c) 1 (msC e.1 e.2) w := Src.ofSlice w Try.underlying87 ad 1 c (msC e.1 e.2) (by rw [hz1]; rfl) hn hone
  have hcs : cellsQ (L ++ [e]) = cellsQ L ++ msC e.1 e.2 := by rw [cellsQ_app]; simp [cellsQ]
  have hcl := cellsQ_len L
  have hfit := hr.fit
  rw [hcl] at hfit
  have hle : L.length ≤ cap := by omega
  by_cases hroom : L.length + 1 ≤ cap
  · have hA := hr.addr (by omega)
    subst hA
    have hfr : ∀ j, j < (msC e.1 e.2).length → (w.cell? ⟨b, off + L.length * 7 + j, none⟩).isSome = true ∧ w.frozen? ⟨b, off + L.length * 7 + j, none⟩ = false := fun j hj => by
      have hj7 : j < 7 := hj
      have := hr.free (L.length * 7 + j) (by omega)
      rwa [← Nat.add_assoc] at this
    have hrun := run_append_room_src (P := Try.prog) w 87 87 ty 50 i0 Try.underlying87 hi b off L.length cap (.slice (some ad) 1 c) 1 (msC e.1 e.2) hs hroom (fun j hj => by rw [hz1]; exact (hfr j hj).1) (fun j hj => by rw [hz1]; exact (hfr j hj).2)
    rw [hz1] at hrun
    refine ⟨some ⟨b, off, none⟩, b, off, cap, _, hrun, ?_, hroom, Mv.setCells ⟨rfl, by omega⟩ _ _ _, .inl ⟨rfl, by omega⟩, Nat.lt_of_lt_of_le hb (Mv.setCells (S := fun k => k = b) rfl _ _ _).size⟩
    refine ⟨fun _ => rfl, fun j u hj => ?_, fun j hj => ⟨?_, ?_⟩, by rw [cellsQ_len]; simp; omega, hr.max⟩
    · rw [hcs] at hj
      by_cases hj0 : j < L.length * 7
      · rw [List.getElem?_append_left (by omega)] at hj
        rw [World.cell?_setCells_out b _ _ _ _ (fun _ _ => Or.inl (by show off + j < off + L.length * 7; omega))]
        exact hr.holds j u hj
      · rw [List.getElem?_append_right (by omega), hcl] at hj
        have hj7 : j - L.length * 7 < (msC e.1 e.2).length := (List.getElem?_eq_some_iff.1 hj).1
        have := World.cell?_setCells_in b (msC e.1 e.2) (off + L.length * 7) w (fun j hj => (hfr j hj).1) (j - L.length * 7) hj7
        rw [show off + L.length * 7 + (j - L.length * 7) = off + j by omega] at this
        rw [this]
        rw [List.getElem?_eq_getElem hj7] at hj
        exact hj
    · by_cases hj0 : L.length * 7 ≤ j ∧ j < L.length * 7 + 7
      · have hj7 : j - L.length * 7 < (msC e.1 e.2).length := by show j - L.length * 7 < 7; omega
        have := World.cell?_setCells_in b (msC e.1 e.2) (off + L.length * 7) w (fun j hj => (hfr j hj).1) (j - L.length * 7) hj7
        rw [show off + L.length * 7 + (j - L.length * 7) = off + j by omega] at this
        rw [this]
        rfl
      · rw [World.cell?_setCells_out b _ _ _ _ (fun _ _ => by show off + j < off + L.length * 7 ∨ off + L.length * 7 + 7 ≤ off + j; omega)]
        exact (hr.free j hj).1
    · rw [World.frozen?_setCells]
      exact (hr.free j hj).2
  · obtain rfl : cap = L.length := by omega
    have hold : (Builtin.firstCells i0.size L.length (.slice A L.length L.length)).run Try.prog w.drew = .ok (cellsQ L).toArray w.drew := by
      by_cases h0 : 0 < L.length
      · rw [hr.addr h0]
        exact run_firstCells_some w.drew i0.size L.length ⟨b, off, none⟩ L.length L.length (cellsQ L) (by rw [hz1]; exact hcl) (fun j u hj => by rw [Addr.add_lit]; exact hr.holds j u hj)
      · have hnil : L = [] := List.eq_nil_of_length_eq_zero (by omega)
        subst hnil
        cases A with
        | none => exact run_firstCells_none w.drew i0.size 0 0 0
        | some a' => exact run_firstCells_some w.drew i0.size 0 a' 0 0 [] (by simp) (by intro _ _ h'; simp at h')
    have hrun := run_append_grow_src (P := Try.prog) w 87 87 ty 50 i0 _ Try.underlying87 hi hz0 A L.length L.length (cellsQ L) hold (.slice (some ad) 1 c) 1 (msC e.1 e.2) hs (by omega) (by omega) (growslice_fits (by omega) (by rw [hz2]; omega))
    have hge := grownCap_ge w (L.length + 1) L.length 50
    have hcm := grownCap_le_maxLen w (L.length + 1) L.length 50 (by unfold maxLen; omega)
    rw [← hcs] at hrun
    generalize grownCap w (L.length + 1) L.length 50 = G at *
    have hsz : ((cellsQ (L ++ [e])).toArray ++ Builtin.zeroCells (Value.agg #[.string ⟨#[]⟩, .int .i64 0, .int .u8 0, .bool false, .slice none 0 0, .string ⟨#[]⟩, .string ⟨#[]⟩]).cells (G - (L.length + 1))).size = G * 7 := by
      rw [Array.size_append, List.size_toArray, cellsQ_len, size_zeroCells, show (Value.agg #[.string ⟨#[]⟩, .int .i64 0, .int .u8 0, .bool false, .slice none 0 0, .string ⟨#[]⟩, .string ⟨#[]⟩]).cells.size = 7 from rfl]
      simp
      omega
    refine ⟨some ⟨w.heap.size, 0, none⟩, w.heap.size, 0, G, _, hrun, ?_, hge, (Mv.refl _ w).drew.alloc _, .inr rfl, by simp⟩
    refine ⟨fun _ => rfl, fun j u hj => ?_, fun j hj => ⟨?_, ?_⟩, by rw [cellsQ_len]; simp; omega, hcm⟩
    · have hjl := (List.getElem?_eq_some_iff.1 hj).1
      have e1 : (w.drew.alloc (.cells ((cellsQ (L ++ [e])).toArray ++ Builtin.zeroCells (Value.agg #[.string ⟨#[]⟩, .int .i64 0, .int .u8 0, .bool false, .slice none 0 0, .string ⟨#[]⟩, .string ⟨#[]⟩]).cells (G - (L.length + 1))) 50)).cell? ⟨w.heap.size, 0 + j, none⟩ = _ := World.cell?_alloc_new w.drew _ _ (0 + j)
      rw [e1, Nat.zero_add, Array.getElem?_append_left (by simpa using hjl), List.getElem?_toArray]
      exact hj
    · have e1 : (w.drew.alloc (.cells ((cellsQ (L ++ [e])).toArray ++ Builtin.zeroCells (Value.agg #[.string ⟨#[]⟩, .int .i64 0, .int .u8 0, .bool false, .slice none 0 0, .string ⟨#[]⟩, .string ⟨#[]⟩]).cells (G - (L.length + 1))) 50)).cell? ⟨w.heap.size, 0 + j, none⟩ = _ := World.cell?_alloc_new w.drew _ _ (0 + j)
      rw [e1, Nat.zero_add, Array.getElem?_eq_getElem (by rw [hsz]; exact hj)]
      rfl
    · exact World.frozen?_alloc_new w.drew _ _ _

/-- At a plain region's list. -/
theorem wpList_append_row (w : World) {ops : Array Oper} {rest : List Oper} {o : Oper} {a : Act} {Q : Exit → Act → World → Prop} (hgd : o.guard = none) (s x : Operand)
    (ho : o.op = .call { callee := .builtin .append, args := #[s, x], argTypes := #[87, 87] })
    (A : Option Addr) (b off cap : Nat) (L : List (Ms × Value)) (e : Ms × Value) (hs : a.eval s = .slice A L.length cap) (hr : RowQ w A b off cap (cellsQ L)) (hb : b < w.heap.size)
    (ad : Addr) (c : Nat) (hx : a.eval x = .slice (some ad) 1 c) (hn : ∀ j u, (msC e.1 e.2)[j]? = some u → w.cell? (ad.add j) = some u) (he : e.2.oneCell' = true) (hL : L.length ≤ 1000000)
    (h : ∀ A' b' off' cap' w', Appd w w' b cap A' b' off' cap' (L.length + 1) (cellsQ (L ++ [e])) → wpList Try.prog ops Q rest (a.put o.dst (.slice A' (L.length + 1) cap')) w') : wpList Try.prog ops Q (o :: rest) a w := by
  refine wpList_plain hgd fun K hK => ?_
  obtain ⟨A', b', off', cap', w', hrun, h'⟩ := run_append_row w o.type A b off cap L e hr hb ad c hn he hL
  unfold Oper.wp execOp
  simp only [ho, resolve, invoke, builtin, Sem.run_bind, Sem.run_pure, Result.andThen_ok, List.map_toArray, List.map_cons, List.map_nil, hs, hx, hrun]
  exact hK _ _ (h _ _ _ _ _ h')

/-- At a step of a region that draws its order. -/
theorem step_append_row (w : World) {ops : Array Oper} {o : Oper} {a : Act} {K : Act → World → Prop} {Q : Exit → Act → World → Prop} {E : Prop} (hgd : o.guard = none) (s x : Operand)
    (ho : o.op = .call { callee := .builtin .append, args := #[s, x], argTypes := #[87, 87] })
    (A : Option Addr) (b off cap : Nat) (L : List (Ms × Value)) (e : Ms × Value) (hs : a.eval s = .slice A L.length cap) (hr : RowQ w A b off cap (cellsQ L)) (hb : b < w.heap.size)
    (ad : Addr) (c : Nat) (hx : a.eval x = .slice (some ad) 1 c) (hn : ∀ j u, (msC e.1 e.2)[j]? = some u → w.cell? (ad.add j) = some u) (he : e.2.oneCell' = true) (hL : L.length ≤ 1000000)
    (h : ∀ A' b' off' cap' w', Appd w w' b cap A' b' off' cap' (L.length + 1) (cellsQ (L ++ [e])) → K (a.put o.dst (.slice A' (L.length + 1) cap')) w') :
    if Region.wanted o (yielded ops a.tmps) = true then Oper.wp Try.prog o a w K Q else E := by
  have hw : Region.wanted o (yielded ops a.tmps) = true := by simp [Region.wanted, hgd]
  rw [if_pos hw]
  obtain ⟨A', b', off', cap', w', hrun, h'⟩ := run_append_row w o.type A b off cap L e hr hb ad c hn he hL
  unfold Oper.wp execOp
  simp only [ho, resolve, invoke, builtin, Sem.run_bind, Sem.run_pure, Result.andThen_ok, List.map_toArray, List.map_cons, List.map_nil, hs, hx, hrun]
  exact h _ _ _ _ _ h'

#print axioms step_append_row
end Go.Proofs.Yteofjcmpelcmaaa
