/-
  What QueuePlays keeps over First and Pop. (No statement: contracts that the proofs of the statements use.)
-/
import Derived.Test.YteofjcmpelcmaaaJPlq12
namespace Go.Proofs.Yteofjcmpelcmaaa
open Go.RowKit

theorem RowS.first {w : World} {b off cap : Nat} {Y : List (Ms × Value)} {x : Ms} {A : Option Addr} {n c : Nat} (h : RowS w b off cap Y) (hx : Y[0]? = some (x, .slice A n c)) :
    w.cell? ⟨b, off, none⟩ = some (.string x.src) ∧ w.cell? ⟨b, off + 1, none⟩ = some (.int .i64 x.tick) ∧ w.cell? ⟨b, off + 2, none⟩ = some (.int .u8 x.q) ∧ w.cell? ⟨b, off + 3, none⟩ = some (.bool x.rt) ∧ w.cell? ⟨b, off + 4, none⟩ = some (.slice A n c) ∧ w.cell? ⟨b, off + 5, none⟩ = some (.string x.tp) ∧ w.cell? ⟨b, off + 6, none⟩ = some (.string x.pl) := by
  obtain ⟨-, hrow⟩ := row_get h.row hx
  have a0 := hrow 0 (by omega)
  have a1 := hrow 1 (by omega)
  have a2 := hrow 2 (by omega)
  have a3 := hrow 3 (by omega)
  have a4 := hrow 4 (by omega)
  have a5 := hrow 5 (by omega)
  have a6 := hrow 6 (by omega)
  simp only [Nat.zero_mul, Nat.add_zero, List.getElem?_cons_zero, List.getElem?_cons_succ] at a0 a1 a2 a3 a4 a5 a6
  exact ⟨a0, a1, a2, a3, a4, a5, a6⟩

section
variable {w W W' : World} {p b bl ol cl i c o : Nat} {most : Int} {X X2 : List Ms} {Y : List (Ms × Value)} {x : Ms}
theorem Ply.later (h : Ply w p most X b bl ol cl Y i W) : Ply w p most X b bl ol cl Y (i + 1) W := ⟨h.q, h.y, h.eq, by have := h.len; omega, h.num, h.hp, h.hb, h.bp, h.bb, h.far, h.bel⟩
theorem RowS.box {a0 a1 a2 a3 a4 a5 a6 : Value} (h : RowS W bl ol cl Y) (hc : BoxM W c) (h3 : c ≠ bl) : RowS (put7 W c o a0 a1 a2 a3 a4 a5 a6) bl ol cl Y :=
  ⟨h.row.keep (fun _ => put7_other (Ne.symm h3)), by rw [put7_size]; exact h.lt, fun e he => (h.each e he).box hc put7_size (fun _ hk => put7_other hk)⟩
theorem Ply.box {a0 a1 a2 a3 a4 a5 a6 : Value} (h : Ply w p most X b bl ol cl Y i W) (hc : BoxM W c) (h1 : c ≠ p) (h2 : c ≠ b) (h3 : c ≠ bl) (h4 : w.heap.size ≤ c) : Ply w p most X b bl ol cl Y i (put7 W c o a0 a1 a2 a3 a4 a5 a6) :=
  ⟨h.q.box hc put7_size (fun _ hk => put7_other hk) h1 h2, h.y.box hc h3, h.eq, h.len, h.num, h.hp, h.hb, h.bp, h.bb, fun e he g hg => by rw [put7_size]; exact h.far e he g hg, put7_below h.bel h4⟩
theorem Ply.tail (h : Ply w p most (x :: X2) b bl ol cl Y i W) (hq : QAt W' p b most X2) (hm : Mv (fun k => k = p ∨ k = b) W W') (ol' : Nat) (ho : 1 < cl → ol' = ol + 7) : Ply w p most X2 b bl ol' (cl - 1) Y.tail (i + 1) W' := by
  obtain ⟨t1, t2, t3, t4, t5⟩ := h.turn hm (.inl rfl)
  have heq := h.eq
  have hlen := h.len
  have hnum := h.num
  have h1 := h.hp
  have h2 := h.bp
  clear h hm
  cases Y with
  | nil => simp at heq
  | cons e Y2 =>
    rw [List.map_cons] at heq
    injection heq with e1 e2
    have hfit := t1.row.fit
    have hmax := t1.row.max
    rw [cellsQ_len] at hfit
    have hce : cellsQ (e :: Y2) = msC e.1 e.2 ++ cellsQ Y2 := by simp [cellsQ]
    have hml : (msC e.1 e.2).length = 7 := rfl
    have hl2 := cellsQ_len Y2
    simp only [List.length_cons] at hfit
    refine ⟨hq, ⟨⟨fun _ => rfl, fun j u hj => ?_, fun j hj => ?_, by rw [List.tail_cons, hl2]; omega, by omega⟩, t1.lt, fun z hz => t1.each z (by simp at hz ⊢; exact .inr hz)⟩, e2, by simp at hlen; omega, fun z hz => hnum z (by simp [hz]), h1, t4, h2, t2, fun z hz => t3 z (by simp at hz ⊢; exact .inr hz), t5⟩
    · rw [List.tail_cons] at hj
      have hjl := (List.getElem?_eq_some_iff.1 hj).1
      rw [ho (by omega), Nat.add_assoc]
      refine t1.row.holds _ u ?_
      rw [hce, List.getElem?_append_right (by omega), hml, Nat.add_sub_cancel_left]
      exact hj
    · rw [ho (by omega), Nat.add_assoc]
      exact t1.row.free (7 + j) (by omega)
end

#print axioms Ply.tail
end Go.Proofs.Yteofjcmpelcmaaa
