/-
  Ticks that rise. (No statement: what the proofs of the statements use.)
-/
import Derived.Test.YteofjcmpelcmaaaJQue9
namespace Go.Proofs.Yteofjcmpelcmaaa
open Go.RowKit

/-- The ticks rise, and are below k. -/
def TickL (X : List Ms) (k : Nat) : Prop := X.Pairwise (fun a b => a.tick < b.tick) ∧ ∀ m ∈ X, 0 ≤ m.tick ∧ m.tick < k
theorem TickL.push {X X' : List Ms} {k : Nat} {m : Ms} (h : TickL X k) (hm : m.tick = k) (hs : X'.Sublist (X ++ [m])) : TickL X' (k + 1) := by
  have hp : (X ++ [m]).Pairwise (fun a b => a.tick < b.tick) := by
    rw [List.pairwise_append]
    refine ⟨h.1, List.pairwise_singleton _ _, fun a ha b hb => ?_⟩
    obtain rfl : b = m := by simpa using hb
    rw [hm]
    exact (h.2 a ha).2
  refine ⟨hp.sublist hs, fun x hx => ?_⟩
  rcases List.mem_append.1 (hs.subset hx) with h1 | h1
  · have := h.2 x h1; omega
  · obtain rfl : x = m := by simpa using h1
    omega

/-- Those that are left, behind the last one. -/
structure LeftL (Y : List Ms) (l : Int) : Prop where
  up : Y.Pairwise (fun a b => a.tick < b.tick)
  lo : ∀ m ∈ Y, l < m.tick
theorem LeftL.next {m : Ms} {Y : List Ms} {l : Int} (h : LeftL (m :: Y) l) : LeftL Y m.tick :=
  ⟨(List.pairwise_cons.1 h.up).2, fun x hx => (List.pairwise_cons.1 h.up).1 x hx⟩
theorem RunQ.moved {w W W' : World} {p b : Nat} {most : Int} {X X' : List Ms} (h : RunQ w p most X b W) (q : QAt W' p b most X') (hl : X'.length ≤ X.length) (k : Mv (fun k => k = p ∨ k = b) W W') : RunQ w p most X' b W' := by
  have h1 := h.hp
  have h2 := h.hb
  have h3 := h.len
  exact ⟨q, by omega, h.hp, h.hb, h.bel.trans (k.below h.bel.size (fun k hk => by omega))⟩
theorem fl32_zero : (FloatKind.f32.format.order (floatOfInt .f32 ((0 : Nat) : Int)) 0 == some .eq) = true := fl32_two.1

#print axioms TickL.push
end Go.Proofs.Yteofjcmpelcmaaa
