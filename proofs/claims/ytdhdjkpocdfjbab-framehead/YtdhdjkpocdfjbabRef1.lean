/-
  The document's answers for layer 1, as calls. (No statement: contracts that the proofs of the statements use.)
-/
import Derived.Test.YtdhdjkpocdfjbabOpen
namespace Go.Proofs.Ytdhdjkpocdfjbab
open Go.RowKit

theorem conv1 (w : World) (x : Int) : (convert 26 9 (.slice (some ⟨w.heap.size, 0, none⟩) 1 1)).run Try.prog (w.alloc (.cells #[.int .u8 x] 5)) = .ok (.string (str [UInt8.ofNat x.toNat])) (w.alloc (.cells #[.int .u8 x] 5)) := by
  rw [run_convert_bytes_arg _ 26 5 Try.underlying26 Try.underlying5 w.heap.size 0 1 1 [x] rfl ?_ 9 Try.underlying9]
  · rfl
  · intro i hi
    obtain rfl : i = 0 := by omega
    simp
theorem conv2 (w : World) (x y : Int) : (convert 26 9 (.slice (some ⟨w.heap.size, 0, none⟩) 2 2)).run Try.prog (w.alloc (.cells #[.int .u8 x, .int .u8 y] 5)) = .ok (.string (str [UInt8.ofNat x.toNat, UInt8.ofNat y.toNat])) (w.alloc (.cells #[.int .u8 x, .int .u8 y] 5)) := by
  rw [run_convert_bytes_arg _ 26 5 Try.underlying26 Try.underlying5 w.heap.size 0 2 2 [x, y] rfl ?_ 9 Try.underlying9]
  · rfl
  · intro i hi
    obtain rfl | rfl : i = 0 ∨ i = 1 := by omega
    · simp
    · simp

/-- What holds behind i rounds of the document's Var. -/
def VarAt (N : Nat) (pre : List UInt8) (i m : Nat) : Prop := varb 3 N = pre ++ varb (3 - i) m ∧ m < 128 ^ (4 - i) ∧ pre.length = i

theorem VarAt.step {N : Nat} {pre : List UInt8} {i m : Nat} (h : VarAt N pre i m) (hi : i < 3) (hm : ¬ m < 128) : VarAt N (pre ++ [UInt8.ofNat (m % 128 + 128)]) (i + 1) (m / 128) := by
  obtain ⟨h1, h2, h3⟩ := h
  refine ⟨?_, ?_, by simp [h3]⟩
  · rw [h1, show 3 - i = (3 - (i + 1)) + 1 by omega, varb_step _ m hm, List.append_assoc]; rfl
  · rw [show 4 - i = (4 - (i + 1)) + 1 by omega, Nat.pow_succ] at h2
    exact Nat.div_lt_of_lt_mul (by rw [Nat.mul_comm]; exact h2)
theorem VarAt.last {N : Nat} {pre : List UInt8} {i m : Nat} (h : VarAt N pre i m) (hi : i ≤ 3) (hm : ¬ (i < 3 ∧ ¬ m < 128)) : m < 128 ∧ varb 3 N = pre ++ [UInt8.ofNat m] := by
  obtain ⟨h1, h2, h3⟩ := h
  have hlt : m < 128 := by
    by_cases h : i < 3
    · omega
    · obtain rfl : i = 3 := by omega
      simpa using h2
  exact ⟨hlt, by rw [h1, varb_small _ m hlt]⟩

end Go.Proofs.Ytdhdjkpocdfjbab
