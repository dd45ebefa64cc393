/-
  'put' of layer 1's statements: a thing on both. (No statement: a contract that the proofs of the statements use.)
-/
import Derived.Test.YtdhdjkpocdfjbabDoorRef1
namespace Go.Proofs.YtdhdjkpocdfjbabDoor
open Go.RowKit

/-- The bytes of a thing. -/
def putB (k n : Int) (s : ByteArray) : List UInt8 :=
  if k = 1 then [UInt8.ofNat (n % 256).toNat] else if k = 2 then two n else if k = 3 then two (n / 65536) ++ two n else if k = 4 then varb 3 (min n.toNat 268435455)
  else if k = 5 then s.data.toList.take 50 else if k = 6 then two (s.data.toList.take 50).length ++ s.data.toList.take 50 else []

theorem putB_len (k n : Int) (s : ByteArray) : (putB k n s).length ≤ 52 := by
  have hv := varb_len 3 (min n.toNat 268435455)
  unfold putB
  repeat' split
  all_goals first | omega | (simp only [List.length_cons, List.length_nil, List.length_append, two_len, List.length_take]; omega) | simp

theorem min_clamp (n : Int) (h0 : 0 ≤ n) (h1 : n < 4294967296) : n = (min n.toNat 268435455 : Nat) ∨ (min n.toNat 268435455 = 268435455 ∧ 268435455 < n ∧ n < 4294967296) := by omega

section
variable {w w' : World} {o : Nat} {r r' : Option Nat} {bs : List UInt8} {ob : Obj}
theorem box_kept (h : OutAt w o r bs) (hs : Step (w.alloc ob) w' o r r') : w'.heap[w.heap.size]? = some ob := by
  rw [hs.block w.heap.size (by simp) (by have := h.lt; omega) (fun e => by have := h.row_lt _ e.symm; omega)]
  exact heap_alloc_new w ob
theorem step_box (w : World) (ob : Obj) (o : Nat) (r : Option Nat) : Step w (w.alloc ob) o r r := Step.of_below (below_one w ob) o r
theorem Put.below {w1 w2 : World} (h : Put w o r bs w1) (hb : Below w1.heap.size w1 w2) : Put w o r bs w2 := by
  obtain ⟨r1, h1, h2⟩ := h
  exact ⟨r1, h1.below hb, h2.trans (Step.of_below hb o r1)⟩
end

end Go.Proofs.YtdhdjkpocdfjbabDoor
