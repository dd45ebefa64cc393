/-
  Append where there is room; clear. (No statement: contracts that the proofs of the statements use.)
-/
import Derived.Test.YteofjcmpelcmaaaJQue12
namespace Go.Proofs.Yteofjcmpelcmaaa
open Go.RowKit

theorem run_append_here (w : World) (ty : TypeId) (b off cap : Nat) (L : List (Ms × Value)) (e : Ms × Value) (hr : RowQ w (some ⟨b, off, none⟩) b off cap (cellsQ L)) (hroom : L.length < cap)
    (ad : Addr) (c : Nat) (hn : ∀ j u, (msC e.1 e.2)[j]? = some u → w.cell? (ad.add j) = some u) (he : e.2.oneCell' = true) :
    (Builtin.append_ #[87, 87] ty #[.slice (some ⟨b, off, none⟩) L.length cap, .slice (some ad) 1 c]).run Try.prog w = .ok (.slice (some ⟨b, off, none⟩) (L.length + 1) cap) (w.setCells b (off + L.length * 7) (msC e.1 e.2)) := by
  obtain ⟨i0, hi, hz0, hz1, hz2⟩ := info_parts Try.infoMsg
  have hone : ∀ u ∈ msC e.1 e.2, u.oneCell' = true := by
    intro u hu
    simp at hu
    rcases hu with rfl | rfl | rfl | rfl | rfl | rfl | rfl
    all_goals first | rfl | exact he
  have hs : Src Try.prog i0.size 87 (.slice (some ad) 1 c) 1 (msC e.1 e.2) w := Src.ofSlice w Try.underlying87 ad 1 c (msC e.1 e.2) (by rw [hz1]; rfl) hn hone
  have hfr : ∀ j, j < (msC e.1 e.2).length → (w.cell? ⟨b, off + L.length * 7 + j, none⟩).isSome = true ∧ w.frozen? ⟨b, off + L.length * 7 + j, none⟩ = false := fun j hj => by
    have hj7 : j < 7 := hj
    have := hr.free (L.length * 7 + j) (by omega)
    rwa [← Nat.add_assoc] at this
  have hrun := run_append_room_src (P := Try.prog) w 87 87 ty 50 i0 Try.underlying87 hi b off L.length cap (.slice (some ad) 1 c) 1 (msC e.1 e.2) hs (by omega) (fun j hj => by rw [hz1]; exact (hfr j hj).1) (fun j hj => by rw [hz1]; exact (hfr j hj).2)
  rw [hz1] at hrun
  exact hrun

/-- At a plain region's list. -/
theorem wpList_append_here (w : World) {ops : Array Oper} {rest : List Oper} {o : Oper} {a : Act} {Q : Exit → Act → World → Prop} (hgd : o.guard = none) (s x : Operand)
    (ho : o.op = .call { callee := .builtin .append, args := #[s, x], argTypes := #[87, 87] })
    (b off cap : Nat) (L : List (Ms × Value)) (e : Ms × Value) (hs : a.eval s = .slice (some ⟨b, off, none⟩) L.length cap) (hr : RowQ w (some ⟨b, off, none⟩) b off cap (cellsQ L)) (hroom : L.length < cap)
    (ad : Addr) (c : Nat) (hx : a.eval x = .slice (some ad) 1 c) (hn : ∀ j u, (msC e.1 e.2)[j]? = some u → w.cell? (ad.add j) = some u) (he : e.2.oneCell' = true)
    (h : ∀ w', Hid (w' = w.setCells b (off + L.length * 7) (msC e.1 e.2)) → wpList Try.prog ops Q rest (a.put o.dst (.slice (some ⟨b, off, none⟩) (L.length + 1) cap)) w') : wpList Try.prog ops Q (o :: rest) a w := by
  refine wpList_plain hgd fun K hK => ?_
  have hrun := run_append_here w o.type b off cap L e hr hroom ad c hn he
  unfold Oper.wp execOp
  simp only [ho, resolve, invoke, builtin, Sem.run_bind, Sem.run_pure, Result.andThen_ok, List.map_toArray, List.map_cons, List.map_nil, hs, hx, hrun]
  exact hK _ _ (h _ rfl)

/-- The row behind an append in its room; what lies behind the new element is as it was. -/
theorem here_row {w : World} {b off cap : Nat} {L : List (Ms × Value)} {e : Ms × Value} (hr : RowQ w (some ⟨b, off, none⟩) b off cap (cellsQ L)) (hroom : L.length < cap) :
    RowQ (w.setCells b (off + L.length * 7) (msC e.1 e.2)) (some ⟨b, off, none⟩) b off cap (cellsQ (L ++ [e])) ∧ ∀ q, off + L.length * 7 + 7 ≤ q → (w.setCells b (off + L.length * 7) (msC e.1 e.2)).cell? ⟨b, q, none⟩ = w.cell? ⟨b, q, none⟩ := by
  have hcl := cellsQ_len L
  have hfr : ∀ j, j < (msC e.1 e.2).length → (w.cell? ⟨b, off + L.length * 7 + j, none⟩).isSome = true := fun j hj => by
    have hj7 : j < 7 := hj
    have := (hr.free (L.length * 7 + j) (by omega)).1
    rwa [← Nat.add_assoc] at this
  have hcs : cellsQ (L ++ [e]) = cellsQ L ++ msC e.1 e.2 := by rw [cellsQ_app]; simp [cellsQ]
  refine ⟨⟨fun _ => rfl, fun j u hj => ?_, fun j hj => ⟨?_, ?_⟩, by rw [cellsQ_len]; simp; omega, hr.max⟩, fun q hq => ?_⟩
  · rw [hcs] at hj
    by_cases hj0 : j < L.length * 7
    · rw [List.getElem?_append_left (by omega)] at hj
      rw [World.cell?_setCells_out b _ _ _ _ (fun _ _ => Or.inl (by show off + j < off + L.length * 7; omega))]
      exact hr.holds j u hj
    · rw [List.getElem?_append_right (by omega), hcl] at hj
      have hj7 : j - L.length * 7 < (msC e.1 e.2).length := (List.getElem?_eq_some_iff.1 hj).1
      have := World.cell?_setCells_in b (msC e.1 e.2) (off + L.length * 7) w hfr (j - L.length * 7) hj7
      rw [show off + L.length * 7 + (j - L.length * 7) = off + j by omega] at this
      rw [this]
      rw [List.getElem?_eq_getElem hj7] at hj
      exact hj
  · by_cases hj0 : L.length * 7 ≤ j ∧ j < L.length * 7 + 7
    · have hj7 : j - L.length * 7 < (msC e.1 e.2).length := by show j - L.length * 7 < 7; omega
      have := World.cell?_setCells_in b (msC e.1 e.2) (off + L.length * 7) w hfr (j - L.length * 7) hj7
      rw [show off + L.length * 7 + (j - L.length * 7) = off + j by omega] at this
      rw [this]
      rfl
    · rw [World.cell?_setCells_out b _ _ _ _ (fun _ _ => by show off + j < off + L.length * 7 ∨ off + L.length * 7 + 7 ≤ off + j; omega)]
      exact (hr.free j hj).1
  · rw [World.frozen?_setCells]
    exact (hr.free j hj).2
  · rw [World.cell?_setCells_out b _ _ _ _ (fun _ _ => Or.inr (by show off + L.length * 7 + 7 ≤ q; omega))]

/-- clear of messages: nothing, or their cells. -/
theorem run_clear_msgs (w : World) (ty : TypeId) (A : Option Addr) (b o n c : Nat) (hA : 0 < n → A = some ⟨b, o, none⟩) (hfr : ∀ j, j < n * 7 → (w.cell? ⟨b, o + j, none⟩).isSome = true ∧ w.frozen? ⟨b, o + j, none⟩ = false) :
    ∃ cs : List Value, cs.length = n * 7 ∧ (Builtin.clear_ #[87] ty #[.slice A n c]).run Try.prog w = .ok (.tuple #[]) (w.setCells b o cs) := by
  rcases Nat.eq_zero_or_pos n with h0 | hpos
  · subst h0
    refine ⟨[], by simp, ?_⟩
    cases A <;> simp [Builtin.clear_, run_underlying Try.underlying87, World.setCells]
  · have hA := hA hpos
    subst hA
    obtain ⟨m, rfl⟩ : ∃ m, n = m + 1 := ⟨n - 1, by omega⟩
    have hsz : (Builtin.zeroCells (Value.agg #[.string ⟨#[]⟩, .int .i64 0, .int .u8 0, .bool false, .slice none 0 0, .string ⟨#[]⟩, .string ⟨#[]⟩]).cells (m + 1)).size = (m + 1) * 7 := by rw [size_zeroCells]; rfl
    have h1 : ∀ v ∈ (Builtin.zeroCells (Value.agg #[.string ⟨#[]⟩, .int .i64 0, .int .u8 0, .bool false, .slice none 0 0, .string ⟨#[]⟩, .string ⟨#[]⟩]).cells (m + 1)).toList, v.oneCell' = true := by
      intro v hv
      simp only [Builtin.zeroCells, Array.toList_map, List.mem_map, Array.toList_range, List.mem_range] at hv
      obtain ⟨i, _, rfl⟩ := hv
      show ((#[Value.string ⟨#[]⟩, .int .i64 0, .int .u8 0, .bool false, .slice none 0 0, .string ⟨#[]⟩, .string ⟨#[]⟩] : Array Value)[i % 7]!).oneCell' = true
      have h7 : i % 7 < 7 := Nat.mod_lt _ (by omega)
      generalize i % 7 = r at h7
      match r, h7 with
      | 0, _ => rfl
      | 1, _ => rfl
      | 2, _ => rfl
      | 3, _ => rfl
      | 4, _ => rfl
      | 5, _ => rfl
      | 6, _ => rfl
    have hst := run_storeCells_cells (P := Try.prog) b o (Builtin.zeroCells (Value.agg #[.string ⟨#[]⟩, .int .i64 0, .int .u8 0, .bool false, .slice none 0 0, .string ⟨#[]⟩, .string ⟨#[]⟩]).cells (m + 1)).toList 0 w (fun j hj => by rw [Nat.add_zero]; exact (hfr j (by simpa [hsz] using hj)).1) (fun j hj => by rw [Nat.add_zero]; exact (hfr j (by simpa [hsz] using hj)).2) h1
    simp only [Nat.add_zero] at hst
    refine ⟨_, by rw [Array.length_toList]; exact hsz, ?_⟩
    simp [Builtin.clear_, run_underlying Try.underlying87, hst]

/-- At a plain region's list. -/
theorem wpList_clear_msgs (w : World) {ops : Array Oper} {rest : List Oper} {o : Oper} {a : Act} {Q : Exit → Act → World → Prop} (hgd : o.guard = none) (x : Operand)
    (ho : o.op = .call { callee := .builtin .clear, args := #[x], argTypes := #[87] }) (A : Option Addr) (b q n c : Nat) (hx : a.eval x = .slice A n c) (hA : 0 < n → A = some ⟨b, q, none⟩)
    (hfr : ∀ j, j < n * 7 → (w.cell? ⟨b, q + j, none⟩).isSome = true ∧ w.frozen? ⟨b, q + j, none⟩ = false)
    (h : ∀ cs w', Hid (w' = w.setCells b q cs ∧ cs.length = n * 7) → wpList Try.prog ops Q rest (a.put o.dst (.tuple #[])) w') : wpList Try.prog ops Q (o :: rest) a w := by
  refine wpList_plain hgd fun K hK => ?_
  obtain ⟨cs, hl, hrun⟩ := run_clear_msgs w o.type A b q n c hA hfr
  unfold Oper.wp execOp
  simp only [ho, resolve, invoke, builtin, Sem.run_bind, Sem.run_pure, Result.andThen_ok, List.map_toArray, List.map_cons, List.map_nil, hx, hrun]
  exact hK _ _ (h cs _ ⟨rfl, hl⟩)

#print axioms run_append_here
end Go.Proofs.Yteofjcmpelcmaaa
