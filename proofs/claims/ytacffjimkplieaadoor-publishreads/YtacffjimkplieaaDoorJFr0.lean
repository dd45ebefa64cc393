/-
  Check of frame, for seats with tables. (No statement: contracts that the proofs of the statements use.)
-/
import Derived.Test.YtacffjimkplieaaDoorJPropsA
namespace Go.Proofs.YtacffjimkplieaaDoor
open Go.RowKit

theorem i64_and3 (n : Int) : bits .and .i64 n 3 = n % 4 := by
  have h3 : (BitVec.ofInt 64 3).toNat = 2 ^ 2 - 1 := by decide
  have key : (BitVec.ofInt 64 n &&& BitVec.ofInt 64 3).toNat = (n % ((2 ^ 64 : Nat) : Int)).toNat % 2 ^ 2 := by
    rw [BitVec.toNat_and, BitVec.toNat_ofInt, h3, Nat.and_two_pow_sub_one_eq_mod]
  show IntKind.i64.wrap ((BitVec.ofInt 64 n &&& BitVec.ofInt 64 3).toNat : Nat) = n % 4
  rw [key, IntKind.wrap_i64]
  omega

/-- May these be a Publish's flags? -/
def pubB (b : Int) : Bool := decide (0 ≤ b) && (decide (b < 16) && (if b / 2 % 4 = 0 then decide (b < 8) else decide (b / 2 % 4 ≤ 2)))
/-- May these be flags of a kind? -/
def arB (k b : Int) : Bool := if k = 3 then pubB b else if k = 6 ∨ k = 8 ∨ k = 10 then decide (b = 2) else decide (b = 0)
/-- May a first byte be? -/
def chkB (k b : Int) : Bool := decide (1 ≤ k) && (decide (k ≤ 15) && arB k b)

theorem i64_and15 (n : Int) : bits .and .i64 n 15 = n % 16 := by
  have h15 : (BitVec.ofInt 64 15).toNat = 2 ^ 4 - 1 := by decide
  have key : (BitVec.ofInt 64 n &&& BitVec.ofInt 64 15).toNat = (n % ((2 ^ 64 : Nat) : Int)).toNat % 2 ^ 4 := by
    rw [BitVec.toNat_and, BitVec.toNat_ofInt, h15, Nat.and_two_pow_sub_one_eq_mod]
  show IntKind.i64.wrap ((BitVec.ofInt 64 n &&& BitVec.ofInt 64 15).toNat : Nat) = n % 16
  rw [key, IntKind.wrap_i64]
  omega

theorem upto15 (b : Int) (h0 : 0 ≤ b) (h1 : b < 16) : b = 0 ∨ b = 1 ∨ b = 2 ∨ b = 3 ∨ b = 4 ∨ b = 5 ∨ b = 6 ∨ b = 7 ∨ b = 8 ∨ b = 9 ∨ b = 10 ∨ b = 11 ∨ b = 12 ∨ b = 13 ∨ b = 14 ∨ b = 15 := by omega

set_option maxHeartbeats 1000000 in
theorem fpub_calls (w : World) (b : Int) :
    Calls Tryd.prog 135 #[.int .i64 b] w fun e w' => e = .returned (.bool (pubB b)) ∧ w = w' := by
  by_cases hb : 0 ≤ b ∧ b < 16
  · obtain ⟨h0, h1⟩ := hb
    rcases upto15 b h0 h1 with rfl | rfl | rfl | rfl | rfl | rfl | rfl | rfl | rfl | rfl | rfl | rfl | rfl | rfl | rfl | rfl
    all_goals
      clear h0 h1
      go_enter Tryd.func135, Tryd.ntmps135
      go_wp2
      go_ret
      exact ⟨ret_bool (by decide), rfl⟩
  · have e : pubB b = false := by unfold pubB; by_cases h : 0 ≤ b <;> simp [h]; omega
    have hn : (b != b % 16) = true := by simp; omega
    have hn' : (b != bits .and .i64 b 15) = true := by rw [i64_and15]; exact hn
    rw [e]
    clear e hb
    go_enter Tryd.func135, Tryd.ntmps135
    go_wp2
    go_ret
    exact ⟨rfl, rfl⟩

set_option maxHeartbeats 1000000 in
theorem are_calls (w : World) (k b : Int) :
    Calls Tryd.prog 96 #[.int .i64 k, .int .i64 b] w fun e w' => e = .returned (.bool (arB k b)) ∧ w = w' := by
  by_cases h3 : k = 3
  · subst h3
    rw [show arB 3 b = pubB b from rfl]
    generalize hv : pubB b = v
    have HV := Lib.hid hv
    clear hv
    go_enter Tryd.func96, Tryd.ntmps96
    go_wp2_with fail
    refine (fpub_calls _ b).mono ?_
    rw [HV.out]
    rintro e w1 ⟨rfl, rfl⟩
    go_wp2
    go_ret
    exact ⟨rfl, rfl⟩
  by_cases h6 : k = 6 ∨ k = 8 ∨ k = 10
  · have e : arB k b = decide (b = 2) := by unfold arB; rw [if_neg h3, if_pos h6]
    rw [e]
    clear e h3
    rcases h6 with rfl | rfl | rfl
    all_goals
      go_enter Tryd.func96, Tryd.ntmps96
      go_wp2
      go_ret
      exact ⟨ret_bool (by rw [Bool.eq_iff_iff]; simp), rfl⟩
  · have e : arB k b = decide (b = 0) := by unfold arB; rw [if_neg h3, if_neg h6]
    rw [e]
    have k3 : (k == 3) = false := by simpa using h3
    have k6 : (k == 6) = false := by simp; omega
    have k8 : (k == 8) = false := by simp; omega
    have k10 : (k == 10) = false := by simp; omega
    clear e h3 h6
    go_enter Tryd.func96, Tryd.ntmps96
    go_wp2
    go_ret
    exact ⟨ret_bool (by rw [Bool.eq_iff_iff]; simp), rfl⟩

theorem check_calls (w : World) (k b : Int) :
    Calls Tryd.prog 29 #[.int .i64 k, .int .i64 b] w fun e w' => e = .returned (.int .i64 (if chkB k b = true then 0 else 2)) ∧ w = w' := by
  by_cases h1 : k < 1
  · have e : chkB k b = false := by unfold chkB; simp; omega
    rw [e]
    clear e
    go_enter Tryd.func29, Tryd.ntmps29
    go_wp2
    go_ret
    exact ⟨rfl, rfl⟩
  by_cases h15 : 15 < k
  · have e : chkB k b = false := by unfold chkB; simp; omega
    rw [e]
    clear e
    go_enter Tryd.func29, Tryd.ntmps29
    go_wp2
    go_ret
    exact ⟨rfl, rfl⟩
  have e : chkB k b = arB k b := by unfold chkB; rw [decide_eq_true (show 1 ≤ k by omega), decide_eq_true (show k ≤ 15 by omega)]; simp
  rw [e]
  clear e
  generalize hv : arB k b = v
  have HV := Lib.hid hv
  clear hv
  cases v
  all_goals
    go_enter Tryd.func29, Tryd.ntmps29
    go_wp2_with fail
    refine (are_calls _ k b).mono ?_
    rw [HV.out]
    rintro e w1 ⟨rfl, rfl⟩
    clear HV
    go_wp2
    go_ret
    exact ⟨rfl, rfl⟩

#print axioms check_calls
end Go.Proofs.YtacffjimkplieaaDoor
