/-
  Parse of subscribe: its loop. (No statement: contracts that the proofs of the statements use.)
-/
import Derived.Test.YtephoadjnmmbnaaDoorJSub3
namespace Go.Proofs.YtephoadjnmmbnaaDoor
open Go.RowKit

abbrev su0 : Array Value := #[.int .u32 0, .slice none 0 0, .slice none 0 0]
/-- While a body is parsed. -/
structure SpJ (w : World) (p cb : Nat) (n : Int) (pv : Value) (ps : List Pr) (v : Value) (L : List Sb) (s : ByteArray) (x : Int) (W : World) : Prop where
  inn : InAt W p s x
  res : W.heap[w.heap.size]? = some (.cells su0 107 (0, 0))
  loc : W.heap[cb]? = some (.cells #[.int .u32 n, pv, v] 107 (0, 0))
  bel : Below w.heap.size w W
  hp : w.heap.size < p
  hc : p < cb
  own : OwnP (cb + 1) 50 W pv ps
  subs : OwnS (cb + 1) W v L
  sep : ∀ g, v.ownBlock = some g → pv.ownBlock ≠ some g

section
variable {w : World} {p cb : Nat} {n : Int} {pv : Value} {ps : List Pr} {v : Value} {L : List Sb} {s : ByteArray} {x : Int} {W : World}
theorem SpJ.took (h : SpJ w p cb n pv ps v L s x W) {W' : World} {s' : ByteArray} {x' : Int} (hi : InAt W' p s' x') (hc : Chg p W W') : SpJ w p cb n pv ps v L s' x' W' := by
  have h1 := h.hp
  have h2 := h.hc
  exact ⟨hi, (hc.block _ (lt_of_block h.res) (fun e => by injection e; omega)).trans h.res, (hc.block _ (lt_of_block h.loc) (fun e => by injection e; omega)).trans h.loc, h.bel.trans (hc.below h.bel.size (Nat.le_of_lt h1)), h1, h2, h.own.chg hc (by omega), h.subs.chg hc (by omega), h.sep⟩
theorem SpJ.drew (h : SpJ w p cb n pv ps v L s x W) : SpJ w p cb n pv ps v L s x W.drew := ⟨h.inn, h.res, h.loc, h.bel.drew, h.hp, h.hc, h.own, h.subs, h.sep⟩
theorem SpJ.locG (h : SpJ w p cb n pv ps v L s x W) {O : Obj} {W' : World} (hg : (W.alloc O).grownBy W' v.ownBlock) : W'.heap[cb]? = some (.cells #[.int .u32 n, pv, v] 107 (0, 0)) := by
  have hlc := lt_of_block h.loc
  refine ((hg.block cb (by simp; omega) (fun e => ?_)).trans (Below.heap_alloc W O cb hlc)).trans h.loc
  rcases h.subs.2 with ⟨rfl, _⟩ | ⟨g', cap', cur, rfl, hB, _⟩
  · simp [Value.ownBlock] at e
  · simp [Value.ownBlock] at e; omega
/-- A Sub is appended, and stored. -/
theorem SpJ.grown (h : SpJ w p cb n pv ps v L s x W) {O : Obj} {W' : World} {g cap : Nat} {c : Sb} (hown : W'.ownsRow (cb + 1) 189 5 (.slice (some ⟨g, 0, none⟩) (L.length + 1) cap) (L.length + 1) (L.flatMap sbC ++ [.string c.f, .int .u8 c.q, .bool c.nl, .bool c.ap, .int .u8 c.h]))
    (hg : (W.alloc O).grownBy W' v.ownBlock) (hat : v.ownBlock = some g ∨ g = W.heap.size + 1) :
    SpJ w p cb n pv ps (.slice (some ⟨g, 0, none⟩) (L.length + 1) cap) (L ++ [c]) s x (W'.setCell ⟨cb, 2, none⟩ (.slice (some ⟨g, 0, none⟩) (L.length + 1) cap)) := by
  have h1 := h.hp
  have h2 := h.hc
  have hlc := lt_of_block h.loc
  have far : ∀ k, k < W.heap.size → some k ≠ v.ownBlock → W'.heap[k]? = W.heap[k]? := fun k hk hne => (hg.block k (by simp; omega) hne).trans (Below.heap_alloc W O k hk)
  have vge : ∀ k, k ≤ cb → some k ≠ v.ownBlock := fun k hk e => by
    rcases h.subs.2 with ⟨rfl, _⟩ | ⟨g', cap', cur, rfl, hB, _⟩
    · simp [Value.ownBlock] at e
    · simp [Value.ownBlock] at e; omega
  have hgge : cb + 1 ≤ g := by
    rcases hown.2 with ⟨e, _⟩ | ⟨g', cap', cur, e, hB, _⟩
    · cases e
    · injection e with e _ _; injection e with e; injection e with e; omega
  have hgn : g ≠ cb := by omega
  have hL : OwnS (cb + 1) W' (.slice (some ⟨g, 0, none⟩) (L.length + 1) cap) (L ++ [c]) := by
    unfold OwnS
    rw [show (L ++ [c]).length = L.length + 1 by simp, List.flatMap_append]
    exact hown
  refine ⟨?_, ?_, ?_, ?_, h1, h2, ?_, hL.set (by omega), ?_⟩
  · exact InAt.far (h.inn.keep (far p (by have := h.inn.lt; omega) (vge p (by omega)))) (by omega) _ _
  · rw [Below.heap_setCell _ _ _ _ (by show w.heap.size ≠ cb; omega)]
    exact (far _ (lt_of_block h.res) (vge _ (by omega))).trans h.res
  · have := (far cb hlc (vge cb (Nat.le_refl _))).trans h.loc
    exact set_cells this 2 _
  · have hb : Below w.heap.size w W' := ⟨hg.os.trans h.bel.os, hg.tape.trans h.bel.tape, hg.output.trans h.bel.output, Nat.le_trans h.bel.size (Nat.le_trans (by simp) hg.size), fun k hk => (far k (Nat.lt_of_lt_of_le hk h.bel.size) (vge k (by omega))).trans (h.bel.block k hk)⟩
    exact below_set hb (by omega) _ _
  · refine OwnP.set (OwnP.keepG h.own (fun k hk hB hl => far k hl (fun e => ?_))) (by omega)
    exact h.sep k e.symm hk
  · intro k hk e
    obtain rfl : g = k := by simpa [Value.ownBlock] using hk
    rcases hat with ha | ha
    · exact h.sep g ha e
    · rcases h.own.2 with ⟨rfl, _⟩ | ⟨g', cap', cur, rfl, hB, hh, _⟩
      · simp [Value.ownBlock] at e
      · obtain rfl : g' = g := by simpa [Value.ownBlock] using e
        have := lt_of_block hh
        omega
end

theorem five_new (w : World) (u0 u1 u2 u3 u4 : Value) (t : TypeId) : ∀ (j : Nat) (u : Value), [u0, u1, u2, u3, u4][j]? = some u → (w.alloc (.cells #[u0, u1, u2, u3, u4] t)).cell? ((⟨w.heap.size, 0, none⟩ : Addr).add j) = some u := by
  intro j u h
  match j, h with
  | 0, h => simpa [Addr.add] using h
  | 1, h => simpa [Addr.add] using h
  | 2, h => simpa [Addr.add] using h
  | 3, h => simpa [Addr.add] using h
  | 4, h => simpa [Addr.add] using h
  | j + 5, h => simp at h

/-- How many rounds may come, as the memory says. -/
def mOf (p : Nat) (wr : World) : Nat := match wr.cell? ⟨p, 0, none⟩, wr.cell? ⟨p, 1, none⟩ with
  | some (.string s), some (.int .i64 x) => mS s x
  | _, _ => 0
theorem mOf_at {p : Nat} {wr : World} {s : ByteArray} {x : Int} (h : InAt wr p s x) : mOf p wr = mS s x := by unfold mOf; rw [h.cell0, h.cell1]

#print axioms SpJ.grown
end Go.Proofs.YtephoadjnmmbnaaDoor
