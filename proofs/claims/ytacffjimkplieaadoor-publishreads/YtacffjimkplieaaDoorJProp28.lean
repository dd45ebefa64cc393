/-
  The document's take of layer 3: what lies behind its drawn region. (No statement: facts that the proofs of the statements use.)
-/
import Derived.Test.YtacffjimkplieaaDoorJPropsC
import Derived.Outline
namespace Go.Proofs.YtacffjimkplieaaDoor
open Go.RowKit

/-- Behind the region: the blocks as they were, and the cursor that Number answered in a block of its own. -/
def NumC (w : World) (s : ByteArray) (i : Int) (s2 : ByteArray) (x2 N : Int) (v7 v8 : Value) (wx : World) : Prop :=
  ∃ xb, v7 = .pointer (some ⟨xb, 0, none⟩) ∧ v8 = .int .u32 N ∧ wx.heap[xb]? = some (.cells #[.string s2, .int .i64 x2] 140 (0, 0)) ∧ w.heap.size + 1 + 1 + 1 < xb ∧ TkC w s 0 i 0 ⟨#[]⟩ ⟨#[]⟩ wx
theorem TkC.far {w : World} {s : ByteArray} {e i n : Int} {a b : ByteArray} {x : World} (h : TkC w s e i n a b x) {xb : Nat} (hx : w.heap.size + 1 + 1 + 1 < xb) (u v : Value) : TkC w s e i n a b ((x.setCell ⟨xb, 0, none⟩ u).setCell ⟨xb, 1, none⟩ v) :=
  ⟨(far_set (by omega)).trans h.c2, (far_set (by omega)).trans h.c4, (far_set (by omega)).trans h.c5, (far_set (by omega)).trans h.c6, (h.bel.setCell (by show w.heap.size ≤ xb; omega) _).setCell (by show w.heap.size ≤ xb; omega) _⟩
theorem TkC.drew {w : World} {s : ByteArray} {e i n : Int} {a b : ByteArray} {x : World} (h : TkC w s e i n a b x) : TkC w s e i n a b x.drew := ⟨h.c2, h.c4, h.c5, h.c6, h.bel.drew⟩
/-- The block is made behind the call. -/
theorem NumC.new {w : World} {s : ByteArray} {i : Int} {s2 : ByteArray} {x2 N : Int} {V : World} (h : TkC w s 0 i 0 ⟨#[]⟩ ⟨#[]⟩ V) : NumC w s i s2 x2 N (.pointer (some ⟨V.heap.size, 0, none⟩)) (.int .u32 N) (V.alloc (.cells #[.string s2, .int .i64 x2] 140)) :=
  ⟨V.heap.size, rfl, rfl, heap_alloc_new V _, lt_of_block h.c6, h.next (below_one V _)⟩
/-- The block was made ahead of the call. -/
theorem NumC.old {w : World} {s : ByteArray} {i : Int} {s2 : ByteArray} {x2 N : Int} {V : World} {xb : Nat} {u v : Value} (h : TkC w s 0 i 0 ⟨#[]⟩ ⟨#[]⟩ V) (hx : V.heap[xb]? = some (.cells #[u, v] 140 (0, 0))) (hl : w.heap.size + 1 + 1 + 1 < xb) : NumC w s i s2 x2 N (.pointer (some ⟨xb, 0, none⟩)) (.int .u32 N) ((V.setCell ⟨xb, 0, none⟩ (.string s2)).setCell ⟨xb, 1, none⟩ (.int .i64 x2)) :=
  ⟨xb, rfl, rfl, pair_set hx, hl, h.far hl _ _⟩

end Go.Proofs.YtacffjimkplieaaDoor
