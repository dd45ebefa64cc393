/-
  Properties taken. (No statement: contracts that the proofs of the statements use.)
-/
import Derived.Test.YtdhdjkpocdfjbabDoorProp7
namespace Go.Proofs.YtdhdjkpocdfjbabDoor
open Go.RowKit

/-- Is an identifier there? -/
def hasP (acc : List Pr) (i : Int) : Bool := acc.any fun p => p.id == i

/-- A step: an error, or a property and what is left. -/
def stepP (q : Int) (acc : List Pr) (s : ByteArray) : Int ⊕ (Pr × ByteArray) :=
  if bits .and .i64 (ruleL (varT 3 0 0 s 0).1).inn q = 0 then .inl 2
  else if hasP acc (varT 3 0 0 s 0).1 = true ∧ bits .and .i64 (ruleL (varT 3 0 0 s 0).1).sev q = 0 then .inl 3
  else if (oneT (ruleL (varT 3 0 0 s 0).1).kind (varT 3 0 0 s 0).1 (varT 3 0 0 s 0).2.1).2.2 ≠ 0 then .inl 2
  else if (oneT (ruleL (varT 3 0 0 s 0).1).kind (varT 3 0 0 s 0).1 (varT 3 0 0 s 0).2.1).1.n < (ruleL (varT 3 0 0 s 0).1).least ∨ (ruleL (varT 3 0 0 s 0).1).most < (oneT (ruleL (varT 3 0 0 s 0).1).kind (varT 3 0 0 s 0).1 (varT 3 0 0 s 0).2.1).1.n then .inl 3
  else .inr ((oneT (ruleL (varT 3 0 0 s 0).1).kind (varT 3 0 0 s 0).1 (varT 3 0 0 s 0).2.1).1, (oneT (ruleL (varT 3 0 0 s 0).1).kind (varT 3 0 0 s 0).1 (varT 3 0 0 s 0).2.1).2.1)

/-- All of them. -/
def runP (q : Int) : Nat → List Pr → ByteArray → List Pr × Int
  | 0, acc, _ => (acc, 0)
  | f + 1, acc, s => if s.size = 0 then (acc, 0) else
    match stepP q acc s with
    | .inl e => ([], e)
    | .inr y => runP q f (acc ++ [y.1]) y.2

/-- A step, in parts. -/
theorem step_parts (q : Int) (acc : List Pr) (s : ByteArray) (n : Nat) (s1 : ByteArray) (x1 : Int) (r : Ru) (y : Pr) (s2 : ByteArray) (x2 : Int) (hv : varT 3 0 0 s 0 = (n, s1, x1)) (hr : ruleL n = r) (ho : oneT r.kind n s1 = (y, s2, x2)) :
    stepP q acc s = if bits .and .i64 r.inn q = 0 then .inl 2 else if hasP acc n = true ∧ bits .and .i64 r.sev q = 0 then .inl 3 else if x2 ≠ 0 then .inl 2 else if y.n < r.least ∨ r.most < y.n then .inl 3 else .inr (y, s2) := by
  unfold stepP
  rw [hv]
  dsimp only
  rw [hr, ho]

theorem raw_left (s : ByteArray) (x n : Int) : (rawT s x n).2.1.size ≤ s.size := by
  unfold rawT
  split
  · exact Nat.le_refl _
  · split
    · exact Nat.le_refl _
    · split
      · exact Nat.le_refl _
      · simp [ByteArray.size_extract]
theorem raw_one (s : ByteArray) (x : Int) (h : (rawT s x 1).2.2 = 0) : (rawT s x 1).2.1.size < s.size := by
  unfold rawT at h ⊢
  split at h
  · rename_i hx; exact absurd h hx
  · split at h
    · exact absurd (show (1 : Int) = 0 from h) (by decide)
    · rename_i h1 h2
      rw [if_neg h1, if_neg h2, if_neg (by decide)]
      simp [ByteArray.size_extract]
      omega
theorem rawT_keeps (s : ByteArray) (x n : Int) (h : (rawT s x n).2.2 = 0) : x = 0 := by
  by_cases hx : x = 0
  · exact hx
  · rw [rawT_err s x n hx] at h; exact absurd h hx
theorem var_left : ∀ (k i n : Nat) (s : ByteArray) (x : Int), (varT k i n s x).2.1.size ≤ s.size ∧ ((varT k i n s x).2.2 = 0 → x = 0 ∧ (varT k i n s x).2.1.size < s.size)
  | 0, i, n, s, x => by
    have h1 := raw_left s x 1
    have h2 := raw_one s x
    have h3 := rawT_keeps s x 1
    generalize hr : rawT s x 1 = R at *
    obtain ⟨t, s2, x2⟩ := R
    dsimp only at h1 h2 h3
    rw [varT_end hr (.inl rfl), varEnd]
    dsimp only
    refine ⟨h1, fun h => ?_⟩
    split at h
    · exact absurd h (failed_ne _)
    · exact ⟨h3 h, h2 h⟩
  | k + 1, i, n, s, x => by
    have h1 := raw_left s x 1
    have h2 := raw_one s x
    have h3 := rawT_keeps s x 1
    generalize hr : rawT s x 1 = R at *
    obtain ⟨t, s2, x2⟩ := R
    dsimp only at h1 h2 h3
    by_cases hc : 128 ≤ numL t.data.toList
    · rw [varT_go hr hc]
      have ih := var_left k (i + 1) (n + numL t.data.toList % 128 * 128 ^ i) s2 x2
      refine ⟨by omega, fun h => ?_⟩
      have := ih.2 h
      exact ⟨h3 this.1, by omega⟩
    · rw [varT_end hr (.inr (by omega)), varEnd]
      dsimp only
      refine ⟨h1, fun h => ?_⟩
      split at h
      · exact absurd h (failed_ne _)
      · exact ⟨h3 h, h2 h⟩

theorem var_bound : ∀ (k i n : Nat) (s : ByteArray) (x : Int), (varT k i n s x).1 + 128 ^ i ≤ n + 128 ^ (k + 1) * 128 ^ i
  | 0, i, n, s, x => by
    have h : numL (rawT s x 1).1.data.toList % 128 ≤ 127 := by omega
    have h2 := Nat.mul_le_mul_right (128 ^ i) h
    rw [varT, varEnd]
    generalize 128 ^ i = M at *
    dsimp only
    split <;> split <;> omega
  | k + 1, i, n, s, x => by
    have h : numL (rawT s x 1).1.data.toList % 128 ≤ 127 := by omega
    have h2 := Nat.mul_le_mul_right (128 ^ i) h
    rw [varT]
    split
    · have ih := var_bound k (i + 1) (n + numL (rawT s x 1).1.data.toList % 128 * 128 ^ i) (rawT s x 1).2.1 (rawT s x 1).2.2
      have e1 : 128 ^ (k + 1) * 128 ^ (i + 1) = 128 ^ (k + 1 + 1) * 128 ^ i := by rw [Nat.pow_succ 128 i, Nat.pow_succ 128 (k + 1), Nat.mul_assoc, Nat.mul_comm (128 ^ i) 128]
      rw [e1, Nat.pow_succ 128 i] at ih
      generalize 128 ^ (k + 1 + 1) * 128 ^ i = Z at *
      generalize 128 ^ i = M at *
      omega
    · have e2 : 128 * 128 ^ i ≤ 128 ^ (k + 1 + 1) * 128 ^ i := Nat.mul_le_mul_right _ (by have := Nat.pow_le_pow_right (n := 128) (by omega) (show 1 ≤ k + 1 + 1 by omega); omega)
      rw [varEnd]
      generalize 128 ^ (k + 1 + 1) * 128 ^ i = Z at *
      generalize 128 ^ i = M at *
      dsimp only
      split <;> split <;> omega
theorem var_lt (s : ByteArray) (x : Int) : (varT 3 0 0 s x).1 < 268435456 := by
  have := var_bound 3 0 0 s x
  simp at this
  omega

theorem str_left (s : ByteArray) (x : Int) : (strT s x).2.1.size ≤ s.size := by
  unfold strT
  have h1 := raw_left s x 2
  have h2 := raw_left (rawT s x 2).2.1 (rawT s x 2).2.2 (numL (rawT s x 2).1.data.toList)
  split
  · omega
  · dsimp only; omega
theorem one_left (kd i : Int) (s : ByteArray) : (oneT kd i s).2.1.size ≤ s.size := by
  unfold oneT datT
  have h1 := raw_left s 0 1
  have h2 := raw_left s 0 2
  have h4 := raw_left s 0 4
  have hv := (var_left 3 0 0 s 0).1
  have hs := str_left s 0
  have hd := raw_left (rawT s 0 2).2.1 (rawT s 0 2).2.2 (numL (rawT s 0 2).1.data.toList)
  have hp := str_left (strT s 0).2.1 (strT s 0).2.2
  repeat' split
  all_goals (dsimp only; omega)

#print axioms one_left
end Go.Proofs.YtdhdjkpocdfjbabDoor
