/-
  The first packet of bytes. (No statement: what the proofs of the statements use.)
-/
import Derived.Test.YtdhdjkpocdfjbaaFr2
import Derived.Test.YtdhdjkpocdfjbaaRef1c
namespace Go.Proofs.Ytdhdjkpocdfjbaa
open Go.RowKit

theorem varT_take : ∀ (k i n : Nat) (l : List UInt8), (varT k i n (str (l.take (k + 1))) 0).1 = (varT k i n (str l) 0).1 ∧ (varT k i n (str (l.take (k + 1))) 0).2.2 = (varT k i n (str l) 0).2.2 := by
  intro k
  induction k with
  | zero =>
    intro i n l
    cases l with
    | nil => exact ⟨rfl, rfl⟩
    | cons c t =>
      have h1 := rawT_list (c :: t) 1 (by simp)
      have h2 := rawT_list ((c :: t).take 1) 1 (by simp)
      rw [show ((c :: t).take 1).take 1 = (c :: t).take 1 by simp] at h2
      rw [varT_end h1 (.inl rfl), varT_end h2 (.inl rfl)]
      exact ⟨rfl, rfl⟩
  | succ k ih =>
    intro i n l
    cases l with
    | nil => exact ⟨rfl, rfl⟩
    | cons c t =>
      have h1 := rawT_list (c :: t) 1 (by simp)
      have h2 := rawT_list ((c :: t).take (k + 1 + 1)) 1 (by simp)
      have e : ((c :: t).take (k + 1 + 1)).take 1 = (c :: t).take 1 := by simp
      have e' : ((c :: t).take (k + 1 + 1)).drop 1 = t.take (k + 1) := by simp
      rw [e, e'] at h2
      rw [show (c :: t).drop 1 = t from rfl] at h1
      by_cases hc : 128 ≤ numL (str ((c :: t).take 1)).data.toList
      · rw [varT_go h1 hc, varT_go h2 hc]
        exact ih _ _ t
      · rw [varT_end h1 (.inr (by omega)), varT_end h2 (.inr (by omega))]
        exact ⟨rfl, rfl⟩

/-- A number that is taken is not great. -/
theorem varT_small (l : List UInt8) (x : Int) (hx : x = 0) (n : Nat) (s' : ByteArray) (x' : Int) (h : varT 3 0 0 (str l) x = (n, s', x')) : n ≤ 268435455 := by
  subst hx
  by_cases hx : x' = 0
  · subst hx
    obtain ⟨m, e1, e2, _⟩ := varT_one 3 0 0 l n s' h
    simp at e1
    omega
  · rw [varT_err 3 0 0 _ _ _ _ _ h hx]; omega

/-- The first packet of bytes (kind, flags, body), its error. -/
def nextF (most : Int) : List UInt8 → (Nat × Nat × List UInt8) × Int
  | [] => ((0, 0, []), 1)
  | c :: t =>
    if chkB ((c.toNat / 16 : Nat) : Int) ((c.toNat % 16 : Nat) : Int) = false then ((0, 0, []), 2)
    else if (varT 3 0 0 (str t) 0).2.2 ≠ 0 then ((0, 0, []), (varT 3 0 0 (str t) 0).2.2)
    else if most < ((1 + (varb 3 (varT 3 0 0 (str t) 0).1).length + (varT 3 0 0 (str t) 0).1 : Nat) : Int) then ((0, 0, []), 4)
    else if (c :: t).length < 1 + (varb 3 (varT 3 0 0 (str t) 0).1).length + (varT 3 0 0 (str t) 0).1 then ((0, 0, []), 1)
    else ((c.toNat / 16, c.toNat % 16, (t.drop (varb 3 (varT 3 0 0 (str t) 0).1).length).take (varT 3 0 0 (str t) 0).1), 0)

theorem next_bad {most : Int} {c : UInt8} {t : List UInt8} (h : chkB ((c.toNat / 16 : Nat) : Int) ((c.toNat % 16 : Nat) : Int) = false) : nextF most (c :: t) = ((0, 0, []), 2) := by rw [nextF, if_pos h]
theorem next_num {most : Int} {c : UInt8} {t : List UInt8} {n : Nat} {s' : ByteArray} {x : Int} (h : chkB ((c.toNat / 16 : Nat) : Int) ((c.toNat % 16 : Nat) : Int) = true) (hv : varT 3 0 0 (str t) 0 = (n, s', x)) (hx : x ≠ 0) : nextF most (c :: t) = ((0, 0, []), x) := by
  rw [nextF, if_neg (by rw [h]; simp), hv]
  simp only
  rw [if_pos hx]
theorem next_big {most : Int} {c : UInt8} {t : List UInt8} {n : Nat} {s' : ByteArray} (h : chkB ((c.toNat / 16 : Nat) : Int) ((c.toNat % 16 : Nat) : Int) = true) (hv : varT 3 0 0 (str t) 0 = (n, s', 0)) (hm : most < ((1 + (varb 3 n).length + n : Nat) : Int)) : nextF most (c :: t) = ((0, 0, []), 4) := by
  rw [nextF, if_neg (by rw [h]; simp), hv]
  simp only
  rw [if_neg (by simp), if_pos hm]
theorem next_cut {most : Int} {c : UInt8} {t : List UInt8} {n : Nat} {s' : ByteArray} (h : chkB ((c.toNat / 16 : Nat) : Int) ((c.toNat % 16 : Nat) : Int) = true) (hv : varT 3 0 0 (str t) 0 = (n, s', 0)) (hm : ¬ most < ((1 + (varb 3 n).length + n : Nat) : Int)) (hl : (c :: t).length < 1 + (varb 3 n).length + n) : nextF most (c :: t) = ((0, 0, []), 1) := by
  rw [nextF, if_neg (by rw [h]; simp), hv]
  simp only
  rw [if_neg (by simp), if_neg hm, if_pos hl]
theorem next_ok {most : Int} {c : UInt8} {t : List UInt8} {n : Nat} {s' : ByteArray} (h : chkB ((c.toNat / 16 : Nat) : Int) ((c.toNat % 16 : Nat) : Int) = true) (hv : varT 3 0 0 (str t) 0 = (n, s', 0)) (hm : ¬ most < ((1 + (varb 3 n).length + n : Nat) : Int)) (hl : ¬ (c :: t).length < 1 + (varb 3 n).length + n) : nextF most (c :: t) = ((c.toNat / 16, c.toNat % 16, (t.drop (varb 3 n).length).take n), 0) := by
  rw [nextF, if_neg (by rw [h]; simp), hv]
  simp only
  rw [if_neg (by simp), if_neg hm, if_neg hl]

#print axioms varT_take
end Go.Proofs.Ytdhdjkpocdfjbaa
