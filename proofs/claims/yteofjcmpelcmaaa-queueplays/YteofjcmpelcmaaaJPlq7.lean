/-
  The document's Push on a queue: its ways. (No statement: contracts that the proofs of the statements use.)
-/
import Derived.Test.YteofjcmpelcmaaaJPlq6
namespace Go.Proofs.Yteofjcmpelcmaaa
open Go.RowKit

/-- At a step of a region that draws its order. -/
theorem step_append_rs (w : World) {ops : Array Oper} {o : Oper} {a : Act} {K : Act → World → Prop} {Q : Exit → Act → World → Prop} {E : Prop} (hgd : o.guard = none) (s x : Operand)
    (ho : o.op = .call { callee := .builtin .append, args := #[s, x], argTypes := #[69, 69] })
    (b off cap : Nat) (L M : List (Ms × Value)) (nL nM nR : Nat) (hnL : L.length = nL) (hnM : M.length = nM) (hnR : nL + nM = nR) (hs : a.eval s = .slice (some ⟨b, off, none⟩) nL cap) (hr : RowQ w (some ⟨b, off, none⟩) b off cap (cellsQ L)) (hb : b < w.heap.size)
    (bm om c : Nat) (hx : a.eval x = .slice (some ⟨bm, om, none⟩) nM c) (hn : ∀ j u, (cellsQ M)[j]? = some u → w.cell? ⟨bm, om + j, none⟩ = some u) (he : ∀ e ∈ M, e.2.oneCell' = true) (hL : nR ≤ 1000000)
    (h : ∀ b' off' cap' w', AppS w w' b b' off' cap' nR (cellsQ (L ++ M)) → K (a.put o.dst (.slice (some ⟨b', off', none⟩) nR cap')) w') :
    if Region.wanted o (yielded ops a.tmps) = true then Oper.wp Try.prog o a w K Q else E := by
  subst hnR
  exact step_append_rr w hgd s x ho b off cap L M nL nM hnL hnM hs hr hb bm om c hx hn he hL h
theorem wpList_append_rs (w : World) {ops : Array Oper} {rest : List Oper} {o : Oper} {a : Act} {Q : Exit → Act → World → Prop} (hgd : o.guard = none) (s x : Operand)
    (ho : o.op = .call { callee := .builtin .append, args := #[s, x], argTypes := #[69, 69] })
    (b off cap : Nat) (L M : List (Ms × Value)) (nL nM nR : Nat) (hnL : L.length = nL) (hnM : M.length = nM) (hnR : nL + nM = nR) (hs : a.eval s = .slice (some ⟨b, off, none⟩) nL cap) (hr : RowQ w (some ⟨b, off, none⟩) b off cap (cellsQ L)) (hb : b < w.heap.size)
    (bm om c : Nat) (hx : a.eval x = .slice (some ⟨bm, om, none⟩) nM c) (hn : ∀ j u, (cellsQ M)[j]? = some u → w.cell? ⟨bm, om + j, none⟩ = some u) (he : ∀ e ∈ M, e.2.oneCell' = true) (hL : nR ≤ 1000000)
    (h : ∀ b' off' cap' w', AppS w w' b b' off' cap' nR (cellsQ (L ++ M)) → wpList Try.prog ops Q rest (a.put o.dst (.slice (some ⟨b', off', none⟩) nR cap')) w') : wpList Try.prog ops Q (o :: rest) a w := by
  subst hnR
  exact wpList_append_rr w hgd s x ho b off cap L M nL nM hnL hnM hs hr hb bm om c hx hn he hL h

/-- What Push answers. -/
def RPush (w : World) (b off cap : Nat) (Y : List (Ms × Value)) (m : Ms) (v : Value) (most : Int) (e : Ending) (w' : World) : Prop :=
  ((Y.length : Int) < most ∧ ∃ b' o' c', e = .returned (.tuple #[.slice (some ⟨b', o', none⟩) (Y.length + 1) c', msV ⟨⟨#[]⟩, 0, 0, false, [], ⟨#[]⟩, ⟨#[]⟩⟩ (.slice none 0 0), .bool false]) ∧ NewS w.heap.size w' b' o' c' (Y ++ [(m, v)]) ∧ Below w.heap.size w w') ∨
  (¬ (Y.length : Int) < most ∧ (m.q = 0 ∨ ∀ e ∈ Y, e.1.q ≠ 0) ∧ e = .returned (.tuple #[.slice (some ⟨b, off, none⟩) Y.length cap, msV m v, .bool true]) ∧ Below w.heap.size w w') ∨
  (¬ (Y.length : Int) < most ∧ m.q ≠ 0 ∧ ∃ Y1 y Y2 b' o' c', Y = Y1 ++ y :: Y2 ∧ y.1.q = 0 ∧ (∀ x ∈ Y1, x.1.q ≠ 0) ∧ e = .returned (.tuple #[.slice (some ⟨b', o', none⟩) Y.length c', msV y.1 y.2, .bool true]) ∧ NewS w.heap.size w' b' o' c' (Y1 ++ Y2 ++ [(m, v)]) ∧ Below w.heap.size w w')

abbrev mC (m : Ms) (v : Value) : Obj := .cells #[.string m.src, .int .i64 m.tick, .int .u8 m.q, .bool m.rt, v, .string m.tp, .string m.pl] 77 (0, 0)
abbrev zC : Obj := .cells #[.string ⟨#[]⟩, .int .i64 0, .int .u8 0, .bool false, .slice none 0 0, .string ⟨#[]⟩, .string ⟨#[]⟩] 77 (0, 0)

/-- While Push runs: its message's box, the box of its second result, a row that is its own. -/
structure PusJ (w : World) (m : Ms) (v : Value) (b off cap : Nat) (Y : List (Ms × Value)) (bl o c : Nat) (Z : List (Ms × Value)) (V : World) : Prop where
  z : NewS w.heap.size V bl o c Z
  ne : w.heap.size + 2 ≤ bl
  bel : Below w.heap.size w V
  box : V.heap[w.heap.size]? = some (mC m v)
  out : V.heap[w.heap.size + 1]? = some zC
  y : RowS V b off cap Y
section
variable {w V V' : World} {m : Ms} {v : Value} {b off cap bl o c b' o' c' n : Nat} {Y Z Z' : List (Ms × Value)}
theorem PusJ.below (h : PusJ w m v b off cap Y bl o c Z V) (hb : Below V.heap.size V V') : PusJ w m v b off cap Y bl o c Z V' :=
  ⟨h.z.below hb, h.ne, Below.next h.bel hb, (hb.block _ (lt_of_block h.box)).trans h.box, (hb.block _ (lt_of_block h.out)).trans h.out, h.y.below hb⟩
theorem PusJ.alloc (h : PusJ w m v b off cap Y bl o c Z V) (x : Obj) : PusJ w m v b off cap Y bl o c Z (V.alloc x) := h.below (below_one V x)
theorem PusJ.app (h : PusJ w m v b off cap Y bl o c Z V) (hb : b < w.heap.size) (hy : ∀ e ∈ Y, MsAt w e.1 e.2) (ha : AppS V V' bl b' o' c' n (cellsQ Z')) : PusJ w m v b off cap Y b' o' c' Z' V' := by
  have h1 := h.ne
  have h2 := lt_of_block h.out
  have hbel : Below w.heap.size w V' := h.bel.trans (ha.mv.below h.bel.size (fun k hk => by omega))
  refine ⟨h.z.put ha, ?_, hbel, (ha.mv.block _ (lt_of_block h.box) (by omega)).trans h.box, (ha.mv.block _ (lt_of_block h.out) (by omega)).trans h.out, ⟨h.y.row.keep (fun _ => ha.mv.block b (Nat.lt_of_lt_of_le hb h.bel.size) (by omega)), Nat.lt_of_lt_of_le h.y.lt ha.mv.size, fun e he => (hy e he).below hbel⟩⟩
  rcases ha.at' with e | e <;> omega
end
/-- A new empty row. -/
theorem pusJ_new {w V : World} {m : Ms} {v : Value} {b off cap : Nat} {Y : List (Ms × Value)} (hbel : Below w.heap.size w V) (hbox : V.heap[w.heap.size]? = some (mC m v)) (hout : V.heap[w.heap.size + 1]? = some zC) (hy : RowS V b off cap Y) :
    PusJ w m v b off cap Y V.heap.size 0 0 [] (V.alloc (.cells #[] 77)) := by
  have h1 := below_one V (.cells #[] 77)
  have h2 := lt_of_block hout
  exact ⟨newS_nil _ _ _ _ (by simp) hbel.size, by omega, Below.next hbel h1, (h1.block _ (lt_of_block hbox)).trans hbox, (h1.block _ h2).trans hout, hy.below h1⟩

#print axioms pusJ_new
end Go.Proofs.Yteofjcmpelcmaaa
