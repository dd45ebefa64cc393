/-
  PublishBack: what lies where while its messages are made; properties of one text. (No statement: facts that the proof of the statement uses.)
-/
import Derived.Test.YtacffjimkplieaaDoorJPub7
import Derived.Test.YtacffjimkplieaaDoorJSam7b
import Derived.Test.YtacffjimkplieaaDoorJLet7
import Derived.Test.YtacffjimkplieaaDoorJOpenPub
import Derived.Test.YtacffjimkplieaaDoorJFr0
import Derived.Test.YtacffjimkplieaaDoorJPropsB
import Derived.Deep.RegionHeld3
namespace Go.Proofs.YtacffjimkplieaaDoor
open Go.RowKit

/-- The boxed argument stands; all below is as it was. -/
structure Bx (w : World) (dup ret : Bool) (q : Int) (tp pl : ByteArray) (V : World) : Prop where
  bel : Below w.heap.size w V
  d0 : V.cell? ⟨w.heap.size, 0, none⟩ = some (.bool dup)
  d1 : V.cell? ⟨w.heap.size, 1, none⟩ = some (.bool ret)
  d2 : V.cell? ⟨w.heap.size, 2, none⟩ = some (.int .u8 q)
  d5 : V.cell? ⟨w.heap.size, 5, none⟩ = some (.string tp)
  d6 : V.cell? ⟨w.heap.size, 6, none⟩ = some (.string pl)

theorem Bx.lt {w V : World} {dup ret : Bool} {q : Int} {tp pl : ByteArray} (h : Bx w dup ret q tp pl V) : w.heap.size < V.heap.size := World.block_lt_of_cell? V _ h.d0
theorem Bx.below {w V V' : World} {dup ret : Bool} {q : Int} {tp pl : ByteArray} (h : Bx w dup ret q tp pl V) (hb : Below V.heap.size V V') : Bx w dup ret q tp pl V' := by
  have hl := h.lt
  exact ⟨Below.next h.bel hb, (hb.cell (p := ⟨w.heap.size, 0, none⟩) hl).trans h.d0, (hb.cell (p := ⟨w.heap.size, 1, none⟩) hl).trans h.d1, (hb.cell (p := ⟨w.heap.size, 2, none⟩) hl).trans h.d2, (hb.cell (p := ⟨w.heap.size, 5, none⟩) hl).trans h.d5, (hb.cell (p := ⟨w.heap.size, 6, none⟩) hl).trans h.d6⟩
theorem Bx.set {w V : World} {dup ret : Bool} {q : Int} {tp pl : ByteArray} (h : Bx w dup ret q tp pl V) {b : Nat} (hb : w.heap.size < b) (j : Nat) (u : Value) : Bx w dup ret q tp pl (V.setCell ⟨b, j, none⟩ u) := by
  have hk := Below.heap_setCell V ⟨b, j, none⟩ u w.heap.size (by show w.heap.size ≠ b; omega)
  exact ⟨below_set h.bel (by omega) j u, (World.cell?_of_block (w := V) hk).trans h.d0, (World.cell?_of_block (w := V) hk).trans h.d1, (World.cell?_of_block (w := V) hk).trans h.d2, (World.cell?_of_block (w := V) hk).trans h.d5, (World.cell?_of_block (w := V) hk).trans h.d6⟩

/-- The cells that the region reads. -/
def BxC (w : World) (dup ret : Bool) (q : Int) (tp pl : ByteArray) (V : World) : Prop :=
  V.cell? ⟨w.heap.size, 0, none⟩ = some (.bool dup) ∧ V.cell? ⟨w.heap.size, 1, none⟩ = some (.bool ret) ∧ V.cell? ⟨w.heap.size, 2, none⟩ = some (.int .u8 q) ∧ V.cell? ⟨w.heap.size, 5, none⟩ = some (.string tp) ∧ V.cell? ⟨w.heap.size, 6, none⟩ = some (.string pl)
theorem Bx.c {w V : World} {dup ret : Bool} {q : Int} {tp pl : ByteArray} (h : Bx w dup ret q tp pl V) : BxC w dup ret q tp pl V := ⟨h.d0, h.d1, h.d2, h.d5, h.d6⟩

/-- A block of the call's own, behind the box, holds O. -/
structure Blk (w V : World) (b : Nat) (O : Obj) : Prop where
  at_ : V.heap[b]? = some O
  ge : w.heap.size < b
theorem Blk.below {w V V' : World} {b : Nat} {O : Obj} (h : Blk w V b O) (hb : Below V.heap.size V V') : Blk w V' b O := ⟨(hb.block b (lt_of_block h.at_)).trans h.at_, h.ge⟩
theorem Blk.lt {w V : World} {b : Nat} {O : Obj} (h : Blk w V b O) : b < V.heap.size := lt_of_block h.at_
theorem Blk.made {w V : World} (h : w.heap.size < V.heap.size) (A : Array Value) (T : TypeId) : Blk w (V.alloc (.cells A T)) V.heap.size (.cells A T (0, 0)) := ⟨heap_alloc_new V _, h⟩
theorem Blk.set {w V : World} {b c j : Nat} {u : Value} {O : Obj} (h : Blk w V b O) (hne : b ≠ c) : Blk w (V.setCell ⟨c, j, none⟩ u) b O := ⟨(Below.heap_setCell _ _ _ _ hne).trans h.at_, h.ge⟩
theorem Blk.set7 {w V : World} {b c : Nat} {u0 u1 u2 u3 u4 u5 u6 : Value} {O : Obj} (h : Blk w V b O) (hne : b ≠ c) :
    Blk w (((((((V.setCell ⟨c, 0, none⟩ u0).setCell ⟨c, 1, none⟩ u1).setCell ⟨c, 2, none⟩ u2).setCell ⟨c, 3, none⟩ u3).setCell ⟨c, 4, none⟩ u4).setCell ⟨c, 5, none⟩ u5).setCell ⟨c, 6, none⟩ u6) b O := by
  iterate 7 (refine Blk.set ?_ hne)
  exact h
theorem Bx.set7 {w V : World} {dup ret : Bool} {q : Int} {tp pl : ByteArray} {c : Nat} {u0 u1 u2 u3 u4 u5 u6 : Value} (h : Bx w dup ret q tp pl V) (hc : w.heap.size < c) :
    Bx w dup ret q tp pl (((((((V.setCell ⟨c, 0, none⟩ u0).setCell ⟨c, 1, none⟩ u1).setCell ⟨c, 2, none⟩ u2).setCell ⟨c, 3, none⟩ u3).setCell ⟨c, 4, none⟩ u4).setCell ⟨c, 5, none⟩ u5).setCell ⟨c, 6, none⟩ u6) := by
  iterate 7 (refine Bx.set ?_ hc _ _)
  exact h
theorem Blk.stored {w V : World} {c : Nat} {u0 u1 u2 u3 u4 u5 u6 : Value} {T : TypeId} {z0 z1 z2 z3 z4 z5 z6 : Value} (h : Blk w V c (.cells #[z0, z1, z2, z3, z4, z5, z6] T (0, 0))) :
    Blk w (((((((V.setCell ⟨c, 0, none⟩ u0).setCell ⟨c, 1, none⟩ u1).setCell ⟨c, 2, none⟩ u2).setCell ⟨c, 3, none⟩ u3).setCell ⟨c, 4, none⟩ u4).setCell ⟨c, 5, none⟩ u5).setCell ⟨c, 6, none⟩ u6) c (.cells #[u0, u1, u2, u3, u4, u5, u6] T (0, 0)) := ⟨Go.Proofs.YtacffjimkplieaaDoor.set7 u0 u1 u2 u3 u4 u5 u6 h.at_, h.ge⟩

/-- What the first message's region leaves. -/
def X3 (w : World) (D ret : Bool) (Q : Int) (L P M : ByteArray) (v : Value) (V : World) : Prop :=
  ∃ xb g, v = .pointer (some ⟨xb, 0, none⟩) ∧ Below w.heap.size w V ∧ Blk w V xb (.cells #[.bool D, .bool ret, .int .u8 Q, .int .u32 0, .slice (some ⟨g, 0, none⟩) 1 1, .string L, .string P] 63 (0, 0)) ∧ Blk w V g (.cells #[.int .i64 3, .int .u32 0, .string M, .string ⟨#[]⟩] 85 (0, 0)) ∧ g ≠ xb

theorem end3A {w V : World} {dup ret D : Bool} {q Q : Int} {tp pl L P M : ByteArray} (h : Bx w dup ret q tp pl V) :
    BxC w dup ret q tp pl ((V.alloc (.cells #[.int .i64 3, .int .u32 0, .string M, .string ⟨#[]⟩] 85)).alloc (.cells #[.bool D, .bool ret, .int .u8 Q, .int .u32 0, .slice (some ⟨V.heap.size, 0, none⟩) 1 1, .string L, .string P] 63)) ∧
    X3 w D ret Q L P M (.pointer (some ⟨V.heap.size + 1, 0, none⟩)) ((V.alloc (.cells #[.int .i64 3, .int .u32 0, .string M, .string ⟨#[]⟩] 85)).alloc (.cells #[.bool D, .bool ret, .int .u8 Q, .int .u32 0, .slice (some ⟨V.heap.size, 0, none⟩) 1 1, .string L, .string P] 63)) := by
  have h1 := h.below (below_one V (.cells #[.int .i64 3, .int .u32 0, .string M, .string ⟨#[]⟩] 85))
  have h2 := h1.below (below_one _ (.cells #[.bool D, .bool ret, .int .u8 Q, .int .u32 0, .slice (some ⟨V.heap.size, 0, none⟩) 1 1, .string L, .string P] 63))
  have g1 := Blk.made (w := w) h.lt #[.int .i64 3, .int .u32 0, .string M, .string ⟨#[]⟩] 85
  have g2 := g1.below (below_one _ (.cells #[.bool D, .bool ret, .int .u8 Q, .int .u32 0, .slice (some ⟨V.heap.size, 0, none⟩) 1 1, .string L, .string P] 63))
  have x := Blk.made (w := w) h1.lt #[.bool D, .bool ret, .int .u8 Q, .int .u32 0, .slice (some ⟨V.heap.size, 0, none⟩) 1 1, .string L, .string P] 63
  rw [World.size_alloc] at x
  exact ⟨h2.c, _, _, rfl, h2.bel, x, g2, by omega⟩

theorem end3B {w V : World} {dup ret D : Bool} {q Q : Int} {tp pl L P M : ByteArray} (h : Bx w dup ret q tp pl V) :
    BxC w dup ret q tp pl ((V.alloc (.cells #[.bool D, .bool ret, .int .u8 Q, .int .u32 0, .slice (some ⟨V.heap.size + 1, 0, none⟩) 1 1, .string L, .string P] 63)).alloc (.cells #[.int .i64 3, .int .u32 0, .string M, .string ⟨#[]⟩] 85)) ∧
    X3 w D ret Q L P M (.pointer (some ⟨V.heap.size, 0, none⟩)) ((V.alloc (.cells #[.bool D, .bool ret, .int .u8 Q, .int .u32 0, .slice (some ⟨V.heap.size + 1, 0, none⟩) 1 1, .string L, .string P] 63)).alloc (.cells #[.int .i64 3, .int .u32 0, .string M, .string ⟨#[]⟩] 85)) := by
  have h1 := h.below (below_one V (.cells #[.bool D, .bool ret, .int .u8 Q, .int .u32 0, .slice (some ⟨V.heap.size + 1, 0, none⟩) 1 1, .string L, .string P] 63))
  have h2 := h1.below (below_one _ (.cells #[.int .i64 3, .int .u32 0, .string M, .string ⟨#[]⟩] 85))
  have x1 := Blk.made (w := w) h.lt #[.bool D, .bool ret, .int .u8 Q, .int .u32 0, .slice (some ⟨V.heap.size + 1, 0, none⟩) 1 1, .string L, .string P] 63
  have x2 := x1.below (below_one _ (.cells #[.int .i64 3, .int .u32 0, .string M, .string ⟨#[]⟩] 85))
  have g := Blk.made (w := w) h1.lt #[.int .i64 3, .int .u32 0, .string M, .string ⟨#[]⟩] 85
  rw [World.size_alloc] at g
  exact ⟨h2.c, _, _, rfl, h2.bel, x2, g, by omega⟩

theorem end3C {w V : World} {dup ret D : Bool} {q Q : Int} {tp pl L P M : ByteArray} {zb : Nat} {z0 z1 z2 z3 z4 z5 z6 : Value} (h : Bx w dup ret q tp pl V) (hz : Blk w V zb (.cells #[z0, z1, z2, z3, z4, z5, z6] 63 (0, 0))) :
    BxC w dup ret q tp pl ((((((((V.setCell ⟨zb, 0, none⟩ (.bool D)).setCell ⟨zb, 1, none⟩ (.bool ret)).setCell ⟨zb, 2, none⟩ (.int .u8 Q)).setCell ⟨zb, 3, none⟩ (.int .u32 0)).setCell ⟨zb, 4, none⟩ (.slice (some ⟨V.heap.size, 0, none⟩) 1 1)).setCell ⟨zb, 5, none⟩ (.string L)).setCell ⟨zb, 6, none⟩ (.string P)).alloc (.cells #[.int .i64 3, .int .u32 0, .string M, .string ⟨#[]⟩] 85)) ∧
    X3 w D ret Q L P M (.pointer (some ⟨zb, 0, none⟩)) ((((((((V.setCell ⟨zb, 0, none⟩ (.bool D)).setCell ⟨zb, 1, none⟩ (.bool ret)).setCell ⟨zb, 2, none⟩ (.int .u8 Q)).setCell ⟨zb, 3, none⟩ (.int .u32 0)).setCell ⟨zb, 4, none⟩ (.slice (some ⟨V.heap.size, 0, none⟩) 1 1)).setCell ⟨zb, 5, none⟩ (.string L)).setCell ⟨zb, 6, none⟩ (.string P)).alloc (.cells #[.int .i64 3, .int .u32 0, .string M, .string ⟨#[]⟩] 85)) := by
  have h1 := h.set7 hz.ge (u0 := .bool D) (u1 := .bool ret) (u2 := .int .u8 Q) (u3 := .int .u32 0) (u4 := .slice (some ⟨V.heap.size, 0, none⟩) 1 1) (u5 := .string L) (u6 := .string P)
  have z1' := hz.stored (u0 := .bool D) (u1 := .bool ret) (u2 := .int .u8 Q) (u3 := .int .u32 0) (u4 := .slice (some ⟨V.heap.size, 0, none⟩) 1 1) (u5 := .string L) (u6 := .string P)
  have hsz : (((((((V.setCell ⟨zb, 0, none⟩ (.bool D)).setCell ⟨zb, 1, none⟩ (.bool ret)).setCell ⟨zb, 2, none⟩ (.int .u8 Q)).setCell ⟨zb, 3, none⟩ (.int .u32 0)).setCell ⟨zb, 4, none⟩ (.slice (some ⟨V.heap.size, 0, none⟩) 1 1)).setCell ⟨zb, 5, none⟩ (.string L)).setCell ⟨zb, 6, none⟩ (.string P)).heap.size = V.heap.size := by simp [World.setCell]
  have hl := hz.lt
  generalize (((((((V.setCell ⟨zb, 0, none⟩ (.bool D)).setCell ⟨zb, 1, none⟩ (.bool ret)).setCell ⟨zb, 2, none⟩ (.int .u8 Q)).setCell ⟨zb, 3, none⟩ (.int .u32 0)).setCell ⟨zb, 4, none⟩ (.slice (some ⟨V.heap.size, 0, none⟩) 1 1)).setCell ⟨zb, 5, none⟩ (.string L)).setCell ⟨zb, 6, none⟩ (.string P)) = V2 at *
  have h2 := h1.below (below_one V2 (.cells #[.int .i64 3, .int .u32 0, .string M, .string ⟨#[]⟩] 85))
  have z2' := z1'.below (below_one V2 (.cells #[.int .i64 3, .int .u32 0, .string M, .string ⟨#[]⟩] 85))
  have g := Blk.made (w := w) h1.lt #[.int .i64 3, .int .u32 0, .string M, .string ⟨#[]⟩] 85
  rw [hsz] at g
  exact ⟨h2.c, _, _, rfl, h2.bel, z2', g, Nat.ne_of_gt hl⟩

theorem props_one {V : World} {g : Nat} {i : Int} {M : ByteArray} {T : TypeId} (h : V.heap[g]? = some (.cells #[.int .i64 i, .int .u32 0, .string M, .string ⟨#[]⟩] T (0, 0))) : PropsAt V (.slice (some ⟨g, 0, none⟩) 1 1) [⟨i, 0, M, ⟨#[]⟩⟩] := by
  obtain ⟨c0, c1, c2, c3, _⟩ := cells4 h
  refine ⟨some ⟨g, 0, none⟩, 1, rfl, fun j x hx => ?_⟩
  obtain ⟨hj, he⟩ := List.getElem?_eq_some_iff.1 hx
  have : j = 0 := by simp at hj; exact hj
  subst this
  simp at he
  subst he
  exact ⟨g, 0, rfl, lt_of_block h, by simpa using c0, by simpa using c1, by simpa using c2, by simpa using c3⟩

theorem text_right (q i : Int) (hk : (ruleL i).kind = 5) (hin : ¬ bits .and .i64 (ruleL i).inn q = 0) (l : List UInt8) (hl : l.length ≤ 20) : Right q ⟨i, 0, str (lets l), ⟨#[]⟩⟩ := by
  have h := fix_right q ⟨i, 0, str l, ⟨#[]⟩⟩ ⟨by show (0 : Int) ≤ 0; decide, by show (0 : Int) < 4294967296; decide, by rw [str_size]; omega, (by decide : (⟨#[]⟩ : ByteArray).size ≤ 65535)⟩ (by rw [str_size]; omega) (by decide : (⟨#[]⟩ : ByteArray).size ≤ 20) hin
  have e : fixP ⟨i, 0, str l, ⟨#[]⟩⟩ = ⟨i, 0, str (lets l), ⟨#[]⟩⟩ := by simp [fixP, hk, str_data]
  rwa [e] at h

theorem text_take (q i : Int) (hk : (ruleL i).kind = 5) (hin : ¬ bits .and .i64 (ruleL i).inn q = 0) (l : List UInt8) (hl : l.length ≤ 20) (tail : List UInt8) :
    takeR q (str (propsL [⟨i, 0, str (lets l), ⟨#[]⟩⟩] ++ tail)) 0 = ([⟨i, 0, str (lets l), ⟨#[]⟩⟩], str tail, 0) := by
  have hr := text_right q i hk hin l hl
  have hf : Fine q [] [⟨i, 0, str (lets l), ⟨#[]⟩⟩] := ⟨⟨hr, fun h => by simp [hasP] at h⟩, trivial⟩
  have hb : (bodyL [⟨i, 0, str (lets l), ⟨#[]⟩⟩]).length ≤ 268435455 := by
    have := bodyL_len [⟨i, 0, str (lets l), ⟨#[]⟩⟩] (fun x hx => by simp at hx; subst hx; exact hr.ok)
    simp at this; omega
  rw [take_back q _ tail hb, run_all q _ hf]

#print axioms text_take
end Go.Proofs.YtacffjimkplieaaDoor
