/-
  Answers that the document fixes; its Check. (No statement: contracts that the proofs of the statements use.)
-/
import Derived.Test.YtdhdjkpocdfjbaaFr5
namespace Go.Proofs.Ytdhdjkpocdfjbaa
open Go.RowKit

/-- The document's Check. -/
def r5B (k b : Int) : Bool :=
  if k < 1 ∨ 15 < k then false
  else if k = 3 then (if (b.tdiv 2).tmod 4 = 3 then false else if (b.tdiv 2).tmod 4 ≠ 0 then true else decide (b.tmod 16 < 8))
  else if k = 6 ∨ k = 8 ∨ k = 10 then decide (b = 2) else decide (b = 0)

theorem r5B_chk (k b : Int) (h0 : 0 ≤ b) (h1 : b < 16) : r5B k b = chkB k b := by
  unfold r5B chkB
  by_cases hk : k < 1 ∨ 15 < k
  · rw [if_pos hk]
    rcases hk with h | h
    · simp; omega
    · simp; omega
  · rw [if_neg hk, decide_eq_true (show 1 ≤ k by omega), decide_eq_true (show k ≤ 15 by omega), Bool.true_and, Bool.true_and]
    unfold arB
    by_cases h3 : k = 3
    · rw [if_pos h3, if_pos h3]
      rcases upto15 b h0 h1 with rfl | rfl | rfl | rfl | rfl | rfl | rfl | rfl | rfl | rfl | rfl | rfl | rfl | rfl | rfl | rfl <;> decide
    · rw [if_neg h3, if_neg h3]

set_option maxHeartbeats 1000000 in
theorem r5check_calls (w : World) (k b : Int) (hb0 : -9223372036854775808 ≤ b) (hb1 : b ≤ 9223372036854775807) :
    Calls Try.prog 17 #[.int .i64 k, .int .i64 b] w fun e w' => e = .returned (.bool (r5B k b)) ∧ w = w' := by
  unfold r5B
  by_cases h1 : k < 1
  · rw [if_pos (.inl h1)]
    go_enter Try.func17, Try.ntmps17
    go_wp2
    go_ret
    exact ⟨rfl, rfl⟩
  by_cases h15 : 15 < k
  · rw [if_pos (.inr h15)]
    go_enter Try.func17, Try.ntmps17
    go_wp2
    go_ret
    exact ⟨rfl, rfl⟩
  rw [if_neg (by omega)]
  by_cases h3 : k = 3
  · subst h3
    rw [if_pos rfl]
    by_cases hq3 : (b.tdiv 2).tmod 4 = 3
    · rw [if_pos hq3]
      have e1 : ((b.tdiv 2).tmod 4 != 3) = false := by rw [hq3]; rfl
      have HQ := Lib.hid hq3
      clear hq3 h1 h15
      go_enter Try.func17, Try.ntmps17
      go_wp2
      go_ret
      exact ⟨rfl, rfl⟩
    · rw [if_neg hq3]
      have e1 : ((b.tdiv 2).tmod 4 != 3) = true := by simpa using hq3
      by_cases hq0 : (b.tdiv 2).tmod 4 ≠ 0
      · rw [if_pos hq0]
        have e0 : ((b.tdiv 2).tmod 4 != 0) = true := by simpa using hq0
        clear hq3 hq0 h1 h15
        go_enter Try.func17, Try.ntmps17
        go_wp2
        go_ret
        exact ⟨rfl, rfl⟩
      · rw [if_neg hq0]
        have e0 : ((b.tdiv 2).tmod 4 != 0) = false := by simpa using hq0
        clear hq3 hq0 h1 h15
        go_enter Try.func17, Try.ntmps17
        go_wp2
        go_ret
        exact ⟨rfl, rfl⟩
  rw [if_neg h3]
  by_cases h6 : k = 6 ∨ k = 8 ∨ k = 10
  · rw [if_pos h6]
    clear h3
    rcases h6 with rfl | rfl | rfl
    all_goals
      clear h1 h15
      go_enter Try.func17, Try.ntmps17
      go_wp2
      go_ret
      exact ⟨ret_bool (by rw [Bool.eq_iff_iff]; simp), rfl⟩
  · rw [if_neg h6]
    have k3 : (k == 3) = false := by simpa using h3
    have k6 : (k == 6) = false := by simp; omega
    have k8 : (k == 8) = false := by simp; omega
    have k10 : (k == 10) = false := by simp; omega
    clear h3 h6
    go_enter Try.func17, Try.ntmps17
    go_wp2
    go_ret
    exact ⟨ret_bool (by rw [Bool.eq_iff_iff]; simp), rfl⟩

theorem next_192 : nextF 100 [192] = ((0, 0, []), 1) := by decide +kernel
theorem next_1920 : nextF 100 [192, 0] = ((12, 0, []), 0) := by decide +kernel
theorem text_12 : str (frameL 12 0 []) = ⟨#[192, 0]⟩ := by decide +kernel
theorem size_200 : ((1 + (varb 3 200).length + 200 : Nat) : Int) = 203 := by decide +kernel

set_option maxRecDepth 100000 in
set_option maxHeartbeats 1000000 in
theorem awake5_calls (w : World) : Calls Try.prog 8 #[] w fun e w' => e = .returned (.bool true) ∧ Below w.heap.size w w' := by
  go_enter Try.func8, Try.ntmps8
  go_wp2_with fail
  refine (new_calls _ 100).mono ?_
  rintro e w1 ⟨rfl, rfl⟩
  have h1 := RdAt.new w 100
  have S1 := Lib.hid (below_one w (.cells #[.int .i64 100, .slice none 0 0, .int .i64 0] 53))
  generalize hq : w.heap.size = q at *
  generalize hW1 : w.alloc (.cells #[.int .i64 100, .slice none 0 0, .int .i64 0] 53) = W1 at *
  have HQ := Lib.hid hq
  clear hq hW1
  have hlt1 := h1.lt
  go_wp2_with fail
  refine (feed_ok _ q none 100 [] _ h1 (by decide)).mono ?_
  rintro e w2 ⟨rfl, r2, h2, s2⟩
  have h2' : RdAt w2 q r2 100 [192] 0 := h2
  have B2 := Lib.hid (S1.out.trans (s2.below (Nat.le_of_lt hlt1) (Nat.le_refl _) (fun g hg => by cases hg)))
  have hr2 := Lib.hid (s2.row_ge (B := q) (Nat.le_of_lt hlt1) (fun g hg => by cases hg))
  clear h1 h2 s2 S1
  go_wp2_with fail
  refine (next_calls _ q r2 100 [192] (0, 0, []) 1 next_192 (by decide) h2').mono ?_
  rintro e w3 ⟨rfl, r3, h3, s3⟩
  have h3' : RdAt w3 q r3 100 [192] 0 := h3
  have hlt2 := h2'.lt
  have B3 := Lib.hid (B2.out.trans (s3.below (Nat.le_of_lt hlt2) (Nat.le_refl _) hr2.out))
  have hr3 := Lib.hid (s3.row_ge (B := q) (Nat.le_of_lt hlt2) hr2.out)
  clear h2' h3 s3 B2 hr2
  go_wp2_with fail
  have h4 := h3'.below (below_one w3 (.cells #[.int .i64 0, .int .i64 0, .string (str [])] 37))
  have B4 := Lib.hid (B3.out.trans ((below_one w3 (.cells #[.int .i64 0, .int .i64 0, .string (str [])] 37)).mono (Nat.le_of_lt h3'.lt)))
  generalize hW4 : w3.alloc (.cells #[.int .i64 0, .int .i64 0, .string (str [])] 37) = W4 at *
  generalize hz3 : w3.heap.size = z3 at *
  clear hW4 hz3 h3' B3 hlt1 hlt2
  have hlt4 := h4.lt
  refine (feed_ok _ q r3 100 [192] _ h4 (by decide)).mono ?_
  rintro e w5 ⟨rfl, r5, h5, s5⟩
  have h5' : RdAt w5 q r5 100 [192, 0] 0 := h5
  have B5 := Lib.hid (B4.out.trans (s5.below (Nat.le_of_lt hlt4) (Nat.le_refl _) hr3.out))
  have hr5 := Lib.hid (s5.row_ge (B := q) (Nat.le_of_lt hlt4) hr3.out)
  clear h4 h5 s5 B4 hr3
  have hlt5 := h5'.lt
  go_wp2_with fail
  refine (next_calls _ q r5 100 [192, 0] (12, 0, []) 0 next_1920 (by decide) h5').mono ?_
  rintro e w6 ⟨rfl, r6, h6, s6⟩
  have B6 := Lib.hid (B5.out.trans (s6.below (Nat.le_of_lt hlt5) (Nat.le_refl _) hr5.out))
  have hlt6 := h6.lt
  clear h5' h6 s6 B5 hr5
  go_wp2_with fail
  refine (fsize_calls _ 200 (by decide)).mono ?_
  rw [size_200]
  rintro e w7 ⟨rfl, rfl⟩
  go_wp2_with fail
  refine (ftext_calls _ 12 0 (by decide) (by decide) [] (by decide)).mono ?_
  rw [text_12]
  rintro e w8 ⟨rfl, b8⟩
  have B8 := Lib.hid ((B6.out.alloc (Nat.le_of_lt hlt6) _).trans (b8.mono (by rw [World.size_alloc]; omega)))
  clear b8 B6
  go_wp2
  go_ret
  rw [HQ.out]
  exact ⟨rfl, B8.out⟩

#print axioms awake5_calls
end Go.Proofs.Ytdhdjkpocdfjbaa
