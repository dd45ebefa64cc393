/-
  A thing taken of both (layer 1's statement OctetTakes), as a call. (No statement: a contract that the proof of the statement uses.)
-/
import Derived.Test.YtgdbfdmnfndojaaRef1c
namespace Go.Proofs.Ytgdbfdmnfndojaa
open Go.RowKit

/-- Block p, and what is new, may have turned. -/
abbrev Chg1 (p : Nat) (w w' : World) : Prop := w.grownBy w' (some p)
theorem Chg1.of_only {p : Nat} {w w' : World} (h : Only p w w') : Chg1 p w w' := ⟨h.os, h.tape, h.output, Nat.le_of_eq h.size.symm, fun k _ hk => h.block k (fun e => hk (by rw [e]))⟩
theorem Chg1.of_below {p : Nat} {w w' : World} (h : Below w.heap.size w w') : Chg1 p w w' := ⟨h.os, h.tape, h.output, h.size, fun k hk _ => h.block k hk⟩
theorem Chg1.below {p B : Nat} {w w' : World} (h : Chg1 p w w') (hB : B ≤ w.heap.size) (hp : B ≤ p) : Below B w w' :=
  (Below.refl B w).grown h hB (fun k hk => by injection hk with hk; omega)
theorem Chg1.set {p : Nat} {w w' : World} (h : Chg1 p w w') {a : Addr} (ha : w.heap.size ≤ a.block) (u : Value) : Chg1 p w (w'.setCell a u) :=
  ⟨h.os, h.tape, h.output, by have := h.size; simp only [World.setCell, Array.size_modify]; exact this, fun k hk hn => (Below.heap_setCell _ _ _ _ (by omega)).trans (h.block k hk hn)⟩
theorem InAt.kept {w w' : World} {p : Nat} {s : ByteArray} {x : Int} (h : InAt w p s x) (hb : Below w.heap.size w w') : InAt w' p s x := h.keep (hb.block p h.lt)

/-- What a thing taken leaves. -/
def Tookn (w : World) (p : Nat) (e : Ending) (w' : World) : Prop := ∃ (s : ByteArray) (x : Int), e = .returned (.tuple #[cur s x, .bool true]) ∧ InAt w' p s x ∧ Chg1 p w w'

/-- Three blocks that a call has laid, behind what has laid more, and a call that has turned block p alone. -/
theorem three_only {w W w1 : World} {o1 o2 o3 : Obj} {p : Nat} (hp : p < w.heap.size) (hW : Below (((w.alloc o1).alloc o2).alloc o3).heap.size (((w.alloc o1).alloc o2).alloc o3) W) (h : Only p W w1) :
    w1.heap[w.heap.size]? = some o1 ∧ w1.heap[w.heap.size + 1]? = some o2 ∧ w1.heap[w.heap.size + 1 + 1]? = some o3 ∧ w.heap.size + 1 + 1 + 1 ≤ w1.heap.size ∧ Chg1 p w w1 := by
  have hs : (((w.alloc o1).alloc o2).alloc o3).heap.size = w.heap.size + 1 + 1 + 1 := by simp
  refine ⟨?_, ?_, ?_, by rw [h.size, ← hs]; exact hW.size, ((Chg1.of_below (Below.next (below_two w o1 o2) (below_one _ o3))).trans (Chg1.of_below hW)).trans (Chg1.of_only h)⟩
  · rw [h.block _ (by omega), hW.block _ (by omega), Below.heap_alloc _ _ _ (by simp; omega), Below.heap_alloc _ _ _ (by simp)]
    exact heap_alloc_new w o1
  · rw [h.block _ (by omega), hW.block _ (by omega), Below.heap_alloc _ _ _ (by simp)]
    have := heap_alloc_new (w.alloc o1) o2
    simpa using this
  · rw [h.block _ (by omega), hW.block _ (by omega)]
    have := heap_alloc_new ((w.alloc o1).alloc o2) o3
    simpa using this

theorem three_in {w W : World} {p : Nat} {s : ByteArray} {x : Int} (h : InAt w p s x) {o1 o2 o3 : Obj} (hW : Below (((w.alloc o1).alloc o2).alloc o3).heap.size (((w.alloc o1).alloc o2).alloc o3) W) : InAt W p s x :=
  (h.kept (Below.next (below_two w o1 o2) (below_one _ o3))).kept hW

theorem fin_take {w w2 : World} {p b : Nat} {s : ByteArray} {x : Int} {u' v' u v : Value} (d0 : w2.cell? ⟨b, 0, none⟩ = some u') (d1 : w2.cell? ⟨b, 1, none⟩ = some v') (hb : w.heap.size ≤ b) (hp : p < w.heap.size) (hI : InAt w2 p s x) (hC : Chg1 p w w2) (o : Obj) :
    (((w2.setCell ⟨b, 0, none⟩ u).setCell ⟨b, 1, none⟩ v).alloc o).cell? ⟨b, 0, none⟩ = some u ∧ (((w2.setCell ⟨b, 0, none⟩ u).setCell ⟨b, 1, none⟩ v).alloc o).cell? ⟨b, 1, none⟩ = some v ∧ InAt (((w2.setCell ⟨b, 0, none⟩ u).setCell ⟨b, 1, none⟩ v).alloc o) p s x ∧ Chg1 p w (((w2.setCell ⟨b, 0, none⟩ u).setCell ⟨b, 1, none⟩ v).alloc o) := by
  have hlt : b < w2.heap.size := World.block_lt_of_cell? w2 _ d0
  have hs : ((w2.setCell ⟨b, 0, none⟩ u).setCell ⟨b, 1, none⟩ v).heap.size = w2.heap.size := by simp [World.setCell]
  have n1 : (⟨b, 0, none⟩ : Addr) ≠ ⟨b, 1, none⟩ := by simp
  have hc1 : (w2.setCell ⟨b, 0, none⟩ u).cell? ⟨b, 1, none⟩ = some v' := by rw [World.cell?_setCell_other _ _ _ _ n1]; exact d1
  refine ⟨?_, ?_, ?_, ?_⟩
  · rw [World.cell?_alloc_lt _ _ _ (by rw [hs]; exact hlt), World.cell?_setCell_other _ _ _ _ n1.symm, World.cell?_setCell_same _ _ _ d0]
  · rw [World.cell?_alloc_lt _ _ _ (by rw [hs]; exact hlt), World.cell?_setCell_same _ _ _ hc1]
  · refine (hI.keep ?_).kept (below_one _ o)
    rw [Below.heap_setCell _ _ _ _ (by show p ≠ b; omega), Below.heap_setCell _ _ _ _ (by show p ≠ b; omega)]
  · exact (Chg1.set (Chg1.set hC (a := ⟨b, 0, none⟩) hb u) (a := ⟨b, 1, none⟩) hb v).trans (Chg1.of_below (below_one _ o))

theorem triple_cells {w : World} {b : Nat} {u v z : Value} {t : TypeId} (h : w.heap[b]? = some (.cells #[u, v, z] t (0, 0))) : w.cell? ⟨b, 0, none⟩ = some u ∧ w.cell? ⟨b, 1, none⟩ = some v ∧ w.cell? ⟨b, 2, none⟩ = some z := by
  refine ⟨?_, ?_, ?_⟩ <;> simp [World.cell?, h]

theorem rawIn2_calls (w : World) (p : Nat) (s : ByteArray) (x n : Int) (t s' : ByteArray) (x' : Int) (hr : rawT s x n = (t, s', x')) (h : InAt w p s x) :
    Calls Try.prog 33 #[.pointer (some ⟨p, 0, none⟩), .int .i64 n] w fun e w' => e = .returned (.string t) ∧ Took w p s' x' w' :=
  (rawIn_calls w p s x n h).mono (fun e w1 h => by rw [hr] at h; exact h)

end Go.Proofs.Ytgdbfdmnfndojaa
