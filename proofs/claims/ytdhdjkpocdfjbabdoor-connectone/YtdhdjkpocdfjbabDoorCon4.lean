/-
  A Connect in memory. (No statement: what the proofs of the statements use.)
-/
import Derived.Test.YtdhdjkpocdfjbabDoorCon3
namespace Go.Proofs.YtdhdjkpocdfjbabDoor
open Go.RowKit

/-- A Connect. -/
structure Cn where
  cl : Bool
  keep : Int
  ps : List Pr
  id : ByteArray
  hw : Bool
  wp : List Pr
  tp : ByteArray
  py : ByteArray
  q : Int
  rt : Bool
  hu : Bool
  hp : Bool
  us : ByteArray
  pw : ByteArray

/-- Its cells, its lists lying at v and u. -/
def cnC (c : Cn) (v u : Value) : Array Value := #[.bool c.cl, .int .u32 c.keep, v, .string c.id, .bool c.hw, u, .string c.tp, .string c.py, .int .u8 c.q, .bool c.rt, .bool c.hu, .bool c.hp, .string c.us, .string c.pw]
def cnV (c : Cn) (v u : Value) : Value := .agg (cnC c v u)
/-- One without anything. -/
def cnZ : Cn := ⟨false, 0, [], ⟨#[]⟩, false, [], ⟨#[]⟩, ⟨#[]⟩, 0, false, false, false, ⟨#[]⟩, ⟨#[]⟩⟩
/-- What the flags say. -/
def cnF (f : Int) : Cn := ⟨flB f 2, 0, [], ⟨#[]⟩, flB f 4, [], ⟨#[]⟩, ⟨#[]⟩, quaN f, flB f 32, flB f 128, flB f 64, ⟨#[]⟩, ⟨#[]⟩⟩

theorem set_cells {W : World} {b : Nat} {arr : Array Value} {t : TypeId} (h : W.heap[b]? = some (.cells arr t (0, 0))) (j : Nat) (u : Value) : (W.setCell ⟨b, j, none⟩ u).heap[b]? = some (.cells (arr.setIfInBounds j u) t (0, 0)) := by
  have := lt_of_block h
  simp [World.setCell, Array.getElem?_modify, h]

theorem OwnP.chg {B p : Nat} {e : TypeId} {w w' : World} {v : Value} {P : List Pr} (h : OwnP B e w v P) (hc : Chg p w w') (hp : p < B) : OwnP B e w' v P := by
  refine ⟨h.1, ?_⟩
  rcases h.2 with h | ⟨g, cap, cur, hv, hB, hg, rest⟩
  · exact .inl h
  · exact .inr ⟨g, cap, cur, hv, hB, (hc.block g (lt_of_block hg) (fun e => by injection e; omega)).trans hg, rest⟩
theorem OwnP.set {B b j : Nat} {e : TypeId} {w : World} {v y : Value} {P : List Pr} (h : OwnP B e w v P) (hb : b < B) : OwnP B e (w.setCell ⟨b, j, none⟩ y) v P := by
  refine ⟨h.1, ?_⟩
  rcases h.2 with h | ⟨g, cap, cur, hv, hB, hg, rest⟩
  · exact .inl h
  · exact .inr ⟨g, cap, cur, hv, hB, (Below.heap_setCell _ _ _ _ (by show g ≠ b; omega)).trans hg, rest⟩

theorem below_set {B b : Nat} {w W : World} (h : Below B w W) (hb : B ≤ b) (j : Nat) (u : Value) : Below B w (W.setCell ⟨b, j, none⟩ u) := h.setCell (show B ≤ (⟨b, j, none⟩ : Addr).block from hb) u

/-- While a body is parsed: the In at p, the Connect at cb, the result at w's end. -/
structure PsC (w : World) (p cb : Nat) (c : Cn) (v u : Value) (s : ByteArray) (x : Int) (W : World) : Prop where
  inn : InAt W p s x
  res : W.heap[w.heap.size]? = some (.cells cn0 29 (0, 0))
  loc : W.heap[cb]? = some (.cells (cnC c v u) 29 (0, 0))
  bel : Below w.heap.size w W
  hp : w.heap.size < p
  hc : p < cb
  o1 : OwnP (cb + 1) 87 W v c.ps
  o2 : OwnP (cb + 1) 87 W u c.wp

section
variable {w : World} {p cb : Nat} {c : Cn} {v u : Value} {s : ByteArray} {x : Int} {W : World}
theorem PsC.took (h : PsC w p cb c v u s x W) {W' : World} {s' : ByteArray} {x' : Int} (hi : InAt W' p s' x') (hc : Chg p W W') : PsC w p cb c v u s' x' W' := by
  have h1 := h.hp
  have h2 := h.hc
  exact ⟨hi, (hc.block _ (lt_of_block h.res) (fun e => by injection e; omega)).trans h.res, (hc.block _ (lt_of_block h.loc) (fun e => by injection e; omega)).trans h.loc, h.bel.trans (hc.below h.bel.size (Nat.le_of_lt h1)), h1, h2, h.o1.chg hc (by omega), h.o2.chg hc (by omega)⟩
theorem PsC.put (h : PsC w p cb c v u s x W) {c' : Cn} {v' u' : Value} (j : Nat) (y : Value) (hcc : cnC c' v' u' = (cnC c v u).setIfInBounds j y) (h1 : OwnP (cb + 1) 87 W v' c'.ps) (h2 : OwnP (cb + 1) 87 W u' c'.wp) : PsC w p cb c' v' u' s x (W.setCell ⟨cb, j, none⟩ y) := by
  have e1 := h.hp
  have e2 := h.hc
  refine ⟨h.inn.far (Nat.ne_of_lt e2) _ _, (Below.heap_setCell _ _ _ _ (by show w.heap.size ≠ cb; omega)).trans h.res, ?_, h.bel.setCell (by show w.heap.size ≤ cb; omega) _, e1, e2, h1.set (by omega), h2.set (by omega)⟩
  rw [hcc]
  exact set_cells h.loc j y
theorem PsC.putKeep (h : PsC w p cb c v u s x W) (n : Int) : PsC w p cb { c with keep := n } v u s x (W.setCell ⟨cb, 1, none⟩ (.int .u32 n)) := h.put 1 _ rfl h.o1 h.o2
theorem PsC.putId (h : PsC w p cb c v u s x W) (n : ByteArray) : PsC w p cb { c with id := n } v u s x (W.setCell ⟨cb, 3, none⟩ (.string n)) := h.put 3 _ rfl h.o1 h.o2
theorem PsC.putTopic (h : PsC w p cb c v u s x W) (n : ByteArray) : PsC w p cb { c with tp := n } v u s x (W.setCell ⟨cb, 6, none⟩ (.string n)) := h.put 6 _ rfl h.o1 h.o2
theorem PsC.putPay (h : PsC w p cb c v u s x W) (n : ByteArray) : PsC w p cb { c with py := n } v u s x (W.setCell ⟨cb, 7, none⟩ (.string n)) := h.put 7 _ rfl h.o1 h.o2
theorem PsC.putUser (h : PsC w p cb c v u s x W) (n : ByteArray) : PsC w p cb { c with us := n } v u s x (W.setCell ⟨cb, 12, none⟩ (.string n)) := h.put 12 _ rfl h.o1 h.o2
theorem PsC.putPass (h : PsC w p cb c v u s x W) (n : ByteArray) : PsC w p cb { c with pw := n } v u s x (W.setCell ⟨cb, 13, none⟩ (.string n)) := h.put 13 _ rfl h.o1 h.o2
theorem PsC.putProps (h : PsC w p cb c v u s x W) (v' : Value) (P : List Pr) (ho : OwnP (cb + 1) 87 W v' P) : PsC w p cb { c with ps := P } v' u s x (W.setCell ⟨cb, 2, none⟩ v') := h.put 2 _ rfl ho h.o2
theorem PsC.putWill (h : PsC w p cb c v u s x W) (u' : Value) (P : List Pr) (ho : OwnP (cb + 1) 87 W u' P) : PsC w p cb { c with wp := P } v u' s x (W.setCell ⟨cb, 5, none⟩ u') := h.put 5 _ rfl h.o1 ho
/-- What can be read and written. -/
theorem PsC.cells (h : PsC w p cb c v u s x W) :
    ((W.cell? ⟨cb, 0, none⟩ = some (.bool c.cl) ∧ W.cell? ⟨cb, 1, none⟩ = some (.int .u32 c.keep) ∧ W.cell? ⟨cb, 2, none⟩ = some v ∧ W.cell? ⟨cb, 3, none⟩ = some (.string c.id) ∧ W.cell? ⟨cb, 4, none⟩ = some (.bool c.hw) ∧ W.cell? ⟨cb, 5, none⟩ = some u ∧ W.cell? ⟨cb, 6, none⟩ = some (.string c.tp)) ∧
    (W.cell? ⟨cb, 7, none⟩ = some (.string c.py) ∧ W.cell? ⟨cb, 8, none⟩ = some (.int .u8 c.q) ∧ W.cell? ⟨cb, 9, none⟩ = some (.bool c.rt) ∧ W.cell? ⟨cb, 10, none⟩ = some (.bool c.hu) ∧ W.cell? ⟨cb, 11, none⟩ = some (.bool c.hp) ∧ W.cell? ⟨cb, 12, none⟩ = some (.string c.us) ∧ W.cell? ⟨cb, 13, none⟩ = some (.string c.pw)) ∧
    ∀ j, W.frozen? ⟨cb, j, none⟩ = false) ∧ cb < W.heap.size := ⟨cells14 h.loc, lt_of_block h.loc⟩
end

/-- The error is told, or the Connect. -/
def ParseR (w : World) (c : Cn) (E : Int) (e : Ending) (w' : World) : Prop :=
  ∃ v u, e = .returned (.tuple #[cnV c v u, .int .i64 E]) ∧ OwnP w.heap.size 87 w' v c.ps ∧ OwnP w.heap.size 87 w' u c.wp ∧ Below w.heap.size w w'

#print axioms PsC.cells
end Go.Proofs.YtdhdjkpocdfjbabDoor
