/-
  The numbers from 1 on but for one; Next where one alone is free. (No statement: contracts that the proofs of the statements use.)
-/
import Derived.Test.YticlenpgokajdaaJIds2
namespace Go.Proofs.Yticlenpgokajdaa
open Go.RowKit Go.Maps

/-- The numbers from 1 on and below j, but for h. -/
def upTo (h j : Nat) : List Nat := (List.range j).filter fun x => decide (1 ≤ x) && decide (x ≠ h)

theorem mem_upTo (h j x : Nat) : x ∈ upTo h j ↔ 1 ≤ x ∧ x < j ∧ x ≠ h := by
  simp [upTo]
  omega

theorem upTo_one (h : Nat) : upTo h 1 = [] := by
  rw [List.eq_nil_iff_forall_not_mem]
  intro x hx
  have := (mem_upTo h 1 x).1 hx
  omega

theorem ins_last (n : Nat) : ∀ U : List Nat, (∀ x ∈ U, x < n) → ins n U = U ++ [n]
  | [], _ => rfl
  | x :: r, h => by
    unfold ins
    rw [if_neg (by have := h x (by simp); omega), ins_last n r (fun y hy => h y (by simp [hy]))]
    rfl

theorem upTo_go (h j : Nat) (hj : 1 ≤ j) (hn : j ≠ h) : upTo h (j + 1) = ins j (upTo h j) := by
  rw [ins_last j _ (fun x hx => ((mem_upTo h j x).1 hx).2.1)]
  unfold upTo
  rw [List.range_succ, List.filter_append]
  simp [hj, hn]

theorem upTo_pass (h : Nat) : upTo h (h + 1) = upTo h h := by
  unfold upTo
  rw [List.range_succ, List.filter_append]
  simp

theorem rise_upTo (h j : Nat) : Rise (upTo h j) := List.Pairwise.filter _ List.pairwise_lt_range

theorem upTo_length (h : Nat) : ∀ j, 1 ≤ h → (upTo h (j + 1)).length + (if h ≤ j then 1 else 0) = j
  | 0, h1 => by
    rw [upTo_one, if_neg (by omega)]
    rfl
  | j + 1, h1 => by
    have ih := upTo_length h j h1
    by_cases e : j + 1 = h
    · subst e
      rw [upTo_pass, if_pos (Nat.le_refl _)]
      rw [if_neg (by omega)] at ih
      omega
    · rw [upTo_go h (j + 1) (by omega) e, length_ins]
      split <;> split at ih <;> omega

/-- Next where h alone is free. -/
theorem idsNext_hole (w : World) (p b most last : Nat) (U : List Nat) (h : Nat) (hP : PoolAt w p b most last U) (hf : U.length < most) (hU : ∀ x, 1 ≤ x → x ≤ most → x ≠ h → x ∈ U) :
    Calls Try.prog 14 #[.pointer (some ⟨p, 0, none⟩)] w (PoolR w p b most h (ins h U) (.tuple #[.int .u32 h, .int .i64 0])) := by
  obtain ⟨k, hk1, hk2, hk3, hk4⟩ := look1_free most last U hf
  have hb := look1_le most last k hP.m1
  have e : look1 most last k = h := Classical.byContradiction fun hne => hk3 (hU _ hb.1 hb.2 hne)
  exact idsNext_calls w p b most last U k h hP hf hk1 e hk3 hk4

#print axioms idsNext_hole
end Go.Proofs.Yticlenpgokajdaa
