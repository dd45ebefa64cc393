/-
  A publish without an identifier; what lies where while a statement is walked. (No statement: what the proofs of the statements use.)
-/
import Derived.Test.YtacffjimkplieaaDoorJPub6
namespace Go.Proofs.YtacffjimkplieaaDoor
open Go.RowKit

theorem varT_held (s : ByteArray) (x : Int) (h : x ≠ 0) : varT 3 0 0 s x = (0, s, x) := by
  unfold varT
  rw [rawT_err s x 1 h]
  simp [numL, varEnd]
theorem takeR_held (q : Int) (s : ByteArray) (x : Int) (h : x ≠ 0) : takeR q s x = ([], s, x) := by
  rw [takeR_parts q s x 0 s x ⟨#[]⟩ s x (varT_held s x h) (rawT_err s x _ h), if_pos h]

/-- A Publish whose identifier is 0 is told. -/
theorem pub_zero (c : Pb) (hz : c.tp.size ≤ 65535) (hg : goodB c.tp = true) (hq : c.q ≠ 0) (hi : c.id = 0) : ∃ n ps pl s1 x1 s2 x2 s3 x3 s4 x4, PubOf (str (pubL c)) c.q c.tp n ps pl 3 s1 x1 s2 x2 s3 x3 s4 x4 := by
  unfold pubL
  have hqb : (c.q != 0) = true := by simpa using hq
  rw [hqb, if_pos rfl, List.nil_append, List.append_assoc, List.append_assoc, hi]
  refine ⟨0, [], ⟨#[]⟩, _, _, str (propsL c.ps ++ c.pl.data.toList), 3, str (propsL c.ps ++ c.pl.data.toList), 3, str (propsL c.ps ++ c.pl.data.toList), 3, str_back c.tp _ hz hg, ?_, takeR_held _ _ _ (by decide), rawT_err _ _ _ (by decide), rfl⟩
  unfold idP
  rw [if_neg hq]
  exact id_zero _
theorem pack_zero (k : Int) : ∃ n c ps s1 x1 s2 x2 s3 x3, PackOf k ⟨#[0, 0]⟩ n c ps 3 s1 x1 s2 x2 s3 x3 := by
  have h := id_zero []
  rw [List.append_nil] at h
  have e : str (two 0) = ⟨#[0, 0]⟩ := by decide +kernel
  rw [e] at h
  exact ⟨0, 0, [], str [], 3, str [], 3, str [], 3, h, rfl, rfl, rfl⟩

theorem set7 {W : World} {b : Nat} {t : TypeId} {z0 z1 z2 z3 z4 z5 z6 : Value} (u0 u1 u2 u3 u4 u5 u6 : Value) (h : W.heap[b]? = some (.cells #[z0, z1, z2, z3, z4, z5, z6] t (0, 0))) :
    (((((((W.setCell ⟨b, 0, none⟩ u0).setCell ⟨b, 1, none⟩ u1).setCell ⟨b, 2, none⟩ u2).setCell ⟨b, 3, none⟩ u3).setCell ⟨b, 4, none⟩ u4).setCell ⟨b, 5, none⟩ u5).setCell ⟨b, 6, none⟩ u6).heap[b]? = some (.cells #[u0, u1, u2, u3, u4, u5, u6] t (0, 0)) := by
  have := lt_of_block h
  simp [World.setCell, Array.getElem?_modify, h]

/-- A block that was new when a call began is there behind it. -/
theorem zkeep {X V : World} {A : Array Value} {T : TypeId} (b : Below (X.alloc (.cells A T)).heap.size (X.alloc (.cells A T)) V) : V.heap[X.heap.size]? = some (.cells A T (0, 0)) := (b.block _ (by simp)).trans (heap_alloc_new X _)
theorem zkeepD {X V : World} {A : Array Value} {T : TypeId} (b : Below (X.alloc (.cells A T)).drew.heap.size (X.alloc (.cells A T)).drew V) : V.heap[X.heap.size]? = some (.cells A T (0, 0)) := (b.block _ (by show X.heap.size < (X.alloc _).heap.size; simp)).trans (heap_alloc_new X _)

/-- A struct at a block of the call's own, all below w as it was. -/
structure Loc (w : World) (T : TypeId) (b : Nat) (A : Array Value) (W : World) : Prop where
  loc : W.heap[b]? = some (.cells A T (0, 0))
  bel : Below w.heap.size w W
  ge : w.heap.size ≤ b
theorem Loc.below {w : World} {T : TypeId} {b : Nat} {A : Array Value} {W V : World} (h : Loc w T b A W) (hb : Below W.heap.size W V) : Loc w T b A V := ⟨(hb.block _ (lt_of_block h.loc)).trans h.loc, h.bel.trans (hb.mono h.bel.size), h.ge⟩
theorem Loc.alloc {w : World} {T : TypeId} {b : Nat} {A : Array Value} {W : World} (h : Loc w T b A W) (O : Obj) : Loc w T b A (W.alloc O) := h.below (below_one W O)
theorem Loc.drew {w : World} {T : TypeId} {b : Nat} {A : Array Value} {W : World} (h : Loc w T b A W) : Loc w T b A W.drew := ⟨h.loc, h.bel.drew, h.ge⟩
theorem Loc.set {w : World} {T : TypeId} {b : Nat} {A : Array Value} {W : World} (h : Loc w T b A W) {c : Nat} (hc : b < c) (j : Nat) (u : Value) : Loc w T b A (W.setCell ⟨c, j, none⟩ u) :=
  ⟨(Below.heap_setCell _ _ _ _ (by show b ≠ c; omega)).trans h.loc, below_set h.bel (by have := h.ge; omega) j u, h.ge⟩
theorem Loc.lt {w : World} {T : TypeId} {b : Nat} {A : Array Value} {W : World} (h : Loc w T b A W) : b < W.heap.size := lt_of_block h.loc

/-- A struct at a block of its own. -/
def LocAt (w : World) (T : TypeId) (A : Array Value) (v : Value) (W : World) : Prop := ∃ xb, v = .pointer (some ⟨xb, 0, none⟩) ∧ Loc w T xb A W
theorem LocAt.new {w V : World} {T : TypeId} {A : Array Value} (h : Below w.heap.size w V) : LocAt w T A (.pointer (some ⟨V.heap.size, 0, none⟩)) (V.alloc (.cells A T)) := ⟨_, rfl, heap_alloc_new V _, h.alloc h.size _, h.size⟩
theorem LocAt.set7 {w V : World} {T : TypeId} {b : Nat} {z0 z1 z2 z3 z4 z5 z6 u0 u1 u2 u3 u4 u5 u6 : Value} (hz : V.heap[b]? = some (.cells #[z0, z1, z2, z3, z4, z5, z6] T (0, 0))) (h : Below w.heap.size w V) (hge : w.heap.size ≤ b) :
    LocAt w T #[u0, u1, u2, u3, u4, u5, u6] (.pointer (some ⟨b, 0, none⟩)) (((((((V.setCell ⟨b, 0, none⟩ u0).setCell ⟨b, 1, none⟩ u1).setCell ⟨b, 2, none⟩ u2).setCell ⟨b, 3, none⟩ u3).setCell ⟨b, 4, none⟩ u4).setCell ⟨b, 5, none⟩ u5).setCell ⟨b, 6, none⟩ u6) := by
  refine ⟨b, rfl, Go.Proofs.YtacffjimkplieaaDoor.set7 _ _ _ _ _ _ _ hz, ?_, hge⟩
  iterate 7 (refine below_set ?_ hge _ _)
  exact h
theorem below_set7 {w V : World} {b : Nat} {u0 u1 u2 u3 u4 u5 u6 : Value} (h : Below w.heap.size w V) (hge : w.heap.size ≤ b) :
    Below w.heap.size w (((((((V.setCell ⟨b, 0, none⟩ u0).setCell ⟨b, 1, none⟩ u1).setCell ⟨b, 2, none⟩ u2).setCell ⟨b, 3, none⟩ u3).setCell ⟨b, 4, none⟩ u4).setCell ⟨b, 5, none⟩ u5).setCell ⟨b, 6, none⟩ u6) := by
  iterate 7 (refine below_set ?_ hge _ _)
  exact h

#print axioms pub_zero
end Go.Proofs.YtacffjimkplieaaDoor
