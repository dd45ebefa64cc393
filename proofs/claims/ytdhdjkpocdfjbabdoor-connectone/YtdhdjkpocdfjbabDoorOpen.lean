/-
  How an argument that is a slice of structs is read; worlds that have only new blocks. (No statement.)
-/
import Derived.Test.YtdhdjkpocdfjbabDoorPure2
import Derived.ProofKit
import Derived.OpenShut
import Derived.Deep.Slices
import Derived.Deep.Fields
namespace Go.Proofs.YtdhdjkpocdfjbabDoor
open Go.RowKit Go.ChangeShapes Go.WideShapes Go.Deep

theorem Step.of_below {w w' : World} (h : Below w.heap.size w w') (o : Nat) (r : Option Nat) : Step w w' o r r := ⟨h.os, h.tape, h.output, h.size, fun k hk _ _ => h.block k hk, .inl rfl⟩
theorem OutAt.below {w w' : World} {o : Nat} {r : Option Nat} {bs : List UInt8} (h : OutAt w o r bs) (hb : Below w.heap.size w w') : OutAt w' o r bs :=
  h.keep (hb.block o h.lt) (fun g hg => hb.block g (h.row_lt g hg))
theorem below_one (w : World) (ob : Obj) : Below w.heap.size w (w.alloc ob) := (Below.refl _ w).alloc (Nat.le_refl _) ob
theorem Below.next {w1 w2 w3 : World} (h : Below w1.heap.size w1 w2) (k : Below w2.heap.size w2 w3) : Below w1.heap.size w1 w3 := h.trans (k.mono h.size)

set_option maxRecDepth 100000 in
/-- A slice of structs, each field one cell, that came in: each element's cells, each with its reading. -/
theorem open_cells {H : Type} {enc : TypeId × Value → H} {W : World} {t e : TypeId} {fs : Array Field} {v : Value} {d : DataW H} {p : List MemPlace} (ht : Tryd.prog.underlying t = some (.slice e)) (he : Tryd.prog.underlying e = some (.struct fs))
    (hone : oneCellFields Tryd.prog fs = true) (hC : Tryd.prog.cellsOf e = fs.size) {base : Nat} (hv : Value.okWide Tryd.prog W .any base t v) (h : DataW.Trod enc Tryd.prog W 0 (fun _ => true) true t v d p) :
    ∃ A len cap, v = .slice A len cap ∧ len ≤ cap ∧ cap ≤ maxLen ∧ ∀ i, i < len → ∃ ad, A = some ad ∧ ∀ (j : Nat) (f : Field), fs[j]? = some f →
      ∃ u n y, W.cell? (ad.add (i * fs.size + j)) = some u ∧ DataW.trod enc Tryd.prog W 0 (fun _ => true) true n f.type [u] = some y := by
  obtain ⟨A, len, cap, rfl⟩ := okWide_slice ht hv
  obtain ⟨fuel, hf⟩ := h
  rcases open_slice ht hf with ⟨hcs, _⟩ | ⟨ad, l, c, m, n, D, Pl, hcs, _, hl, hm, hmm, _, hall⟩
  · simp [Value.cells] at hcs
    obtain ⟨rfl, rfl, rfl⟩ := hcs
    exact ⟨none, 0, 0, rfl, Nat.le_refl _, Nat.zero_le _, fun i hi => absurd hi (Nat.not_lt_zero _)⟩
  · simp [Value.cells] at hcs
    obtain ⟨rfl, rfl, rfl⟩ := hcs
    simp only [if_true] at hmm
    refine ⟨some ad, len, cap, rfl, hl, hm, fun i hi => ⟨ad, rfl, fun j f hj => ?_⟩⟩
    obtain ⟨cs, hc, htr⟩ := hall i (by omega)
    rw [hC] at hc
    obtain ⟨xs, k, _, _, _, hxl, hfields⟩ := DataW.trod_struct he htr
    obtain ⟨_, hlen, hat⟩ := World.cells?_some hc
    obtain ⟨hoff, hone1⟩ := hone_of hone j f hj
    have hjs : j < fs.size := (Array.getElem?_eq_some_iff.1 hj).1
    have h1 := hfields j f hj
    rw [hoff, hone1] at h1
    obtain ⟨u, hu⟩ : ∃ u, cs[j]? = some u := ⟨_, List.getElem?_eq_getElem (show j < cs.length by omega)⟩
    have e1 : (cs.drop j).take 1 = [u] := by
      rw [List.drop_eq_getElem_cons (show j < cs.length by omega), List.take_succ_cons, List.take_zero, (List.getElem?_eq_some_iff.1 hu).2]
    rw [e1] at h1
    exact ⟨u, k, _, by rw [← add_add, hat j hjs, hu], h1.trans (List.getElem?_eq_getElem (show j < xs.length by omega))⟩

/-- A list of things that came in: kind, number, text. -/
def Things (W : World) (v : Value) (T : List (Int × Int × ByteArray)) : Prop :=
  ∃ A cap, v = .slice A T.length cap ∧ T.length ≤ maxLen ∧ ∀ (i : Nat) (x : Int × Int × ByteArray), T[i]? = some x →
    ∃ b off, A = some ⟨b, off, none⟩ ∧ b < W.heap.size ∧ W.cell? ⟨b, off + i * 3, none⟩ = some (.int .i64 x.1) ∧ W.cell? ⟨b, off + i * 3 + 1, none⟩ = some (.int .u32 x.2.1) ∧ W.cell? ⟨b, off + i * 3 + 2, none⟩ = some (.string x.2.2) ∧
      0 ≤ x.2.1 ∧ x.2.1 < 4294967296 ∧ x.2.2.size ≤ maxLen

end Go.Proofs.YtdhdjkpocdfjbabDoor
