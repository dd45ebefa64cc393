/-
  Plain lemmas on bytes: what is put and what is taken. (No statement.)
-/
import Derived.Test.YtdhdjkpocdfjbabDoorL1a
namespace Go.Proofs.YtdhdjkpocdfjbabDoor
open Go.RowKit

theorem str_list (l : List UInt8) : (str l).toList = l := by rw [ByteArray.toList_eq]; simp [str]
theorem str_data (l : List UInt8) : (str l).data.toList = l := by simp [str]
theorem str_size (l : List UInt8) : (str l).size = l.length := by simp [str, ByteArray.size]
theorem ba_ext {a b : ByteArray} (h : a.data.toList = b.data.toList) : a = b := by
  apply ByteArray.ext
  exact Array.ext' h
theorem ba_str (s : ByteArray) : s = str s.data.toList := ba_ext (str_data _).symm
theorem ba_size (s : ByteArray) : s.data.toList.length = s.size := by rw [Array.length_toList]; rfl
theorem ba_extract (s : ByteArray) (a b : Nat) : (s.extract a b).data.toList = (s.data.toList.drop a).take (b - a) := by
  rw [ByteArray.data_extract, Array.toList_extract, List.extract_eq_take_drop]
theorem ba_take (s : ByteArray) (n : Nat) : s.extract 0 n = str (s.data.toList.take n) := ba_ext (by rw [ba_extract, str_data]; simp)
theorem ba_drop (s : ByteArray) (n : Nat) : s.extract n s.size = str (s.data.toList.drop n) := ba_ext (by
  rw [ba_extract, str_data]
  exact List.take_of_length_le (by simp))
theorem str_append (a b : List UInt8) : str a ++ str b = str (a ++ b) := ba_ext (by simp [str, ByteArray.data_append])

/-- Raw on lists. -/
theorem rawT_list (l : List UInt8) (n : Nat) (h : n ≤ l.length) : rawT (str l) 0 n = (str (l.take n), str (l.drop n), 0) := by
  unfold rawT
  rw [if_neg (by omega), if_neg (by rw [str_size]; omega)]
  by_cases h0 : (n : Int) ≤ 0
  · obtain rfl : n = 0 := by omega
    rw [if_pos h0, List.take_zero, List.drop_zero]; rfl
  · rw [if_neg h0, Int.toNat_natCast, ba_take, ba_drop, str_data]
theorem rawT_short (l : List UInt8) (n : Nat) (h : l.length < n) : rawT (str l) 0 n = (⟨#[]⟩, str l, 1) := by
  unfold rawT
  rw [if_neg (by omega), if_pos (by rw [str_size]; omega)]
theorem rawT_err (s : ByteArray) (f n : Int) (hf : f ≠ 0) : rawT s f n = (⟨#[]⟩, s, f) := by simp [rawT, hf]

theorem byte_ofNat (c : UInt8) : UInt8.ofNat c.toNat = c := by simp

/-- There is one spelling: what Var takes is what is put. -/
theorem varT_one : ∀ (k i n : Nat) (l : List UInt8) (N : Nat) (s' : ByteArray), varT k i n (str l) 0 = (N, s', 0) →
    ∃ m, N = n + m * 128 ^ i ∧ m < 128 ^ (k + 1) ∧ l = varb k m ++ s'.data.toList ∧ (0 < i → m ≠ 0) := by
  intro k
  induction k with
  | zero =>
    intro i n l N s' h
    cases l with
    | nil =>
      exfalso
      have hr := rawT_short [] 1 (by simp)
      rw [varT_end (t := ⟨#[]⟩) hr (.inl rfl), varEnd] at h
      injection h with _ h
      injection h with _ h
      revert h
      split
      · intro h; exact failed_ne _ h
      · intro h; omega
    | cons c l =>
      have hr : rawT (str (c :: l)) 0 1 = (str [c], str l, 0) := rawT_list (c :: l) 1 (by simp)
      have hn : numL (str [c]).data.toList = c.toNat := by rw [str_data]; simp [numL]
      rw [varT_end hr (.inl rfl), varEnd, hn] at h
      by_cases hb : 128 ≤ c.toNat ∨ (c.toNat = 0 ∧ 0 < i)
      · rw [if_pos hb] at h
        injection h with _ h
        injection h with _ h
        exact absurd h (failed_ne _)
      · rw [if_neg hb, if_pos rfl] at h
        injection h with h1 h
        injection h with h2 _
        refine ⟨c.toNat, ?_, ?_, ?_, ?_⟩
        · rw [← h1, Nat.mod_eq_of_lt (by omega)]
        · simp; omega
        · rw [← h2, str_data, varb, byte_ofNat]; rfl
        · intro hi h0; exact hb (.inr ⟨h0, hi⟩)
  | succ k ih =>
    intro i n l N s' h
    cases l with
    | nil =>
      exfalso
      have hr := rawT_short [] 1 (by simp)
      rw [varT_end (t := ⟨#[]⟩) hr (.inr (by decide)), varEnd] at h
      injection h with _ h
      injection h with _ h
      revert h
      split
      · intro h; exact failed_ne _ h
      · intro h; omega
    | cons c l =>
      have hr : rawT (str (c :: l)) 0 1 = (str [c], str l, 0) := rawT_list (c :: l) 1 (by simp)
      have hn : numL (str [c]).data.toList = c.toNat := by rw [str_data]; simp [numL]
      have hc := c.toNat_lt
      by_cases hg : 128 ≤ c.toNat
      · rw [varT_go hr (by rw [hn]; exact hg), hn] at h
        obtain ⟨m, h1, h2, h3, h4⟩ := ih (i + 1) _ l N s' h
        have hm := h4 (by omega)
        refine ⟨c.toNat % 128 + 128 * m, ?_, ?_, ?_, ?_⟩
        · rw [h1, Nat.pow_succ, Nat.add_mul, Nat.add_assoc, Nat.mul_assoc 128 m, Nat.mul_comm 128 (m * 128 ^ i), ← Nat.mul_assoc, Nat.mul_assoc m]
        · rw [Nat.pow_succ]; omega
        · rw [varb_step k _ (by omega), show (c.toNat % 128 + 128 * m) % 128 + 128 = c.toNat by omega, show (c.toNat % 128 + 128 * m) / 128 = m by omega, byte_ofNat, List.cons_append, ← h3]
        · omega
      · rw [varT_end hr (.inr (by rw [hn]; omega)), varEnd, hn] at h
        by_cases hb : 128 ≤ c.toNat ∨ (c.toNat = 0 ∧ 0 < i)
        · rw [if_pos hb] at h
          injection h with _ h
          injection h with _ h
          exact absurd h (failed_ne _)
        · rw [if_neg hb, if_pos rfl] at h
          injection h with h1 h
          injection h with h2 _
          refine ⟨c.toNat, ?_, ?_, ?_, ?_⟩
          · rw [← h1, Nat.mod_eq_of_lt (by omega)]
          · rw [Nat.pow_succ]
            have : 0 < 128 ^ (k + 1) := Nat.pow_pos (by omega)
            omega
          · rw [← h2, str_data, varb_small _ _ (by omega), byte_ofNat]; rfl
          · intro hi h0; exact hb (.inr ⟨h0, hi⟩)

/-- Beside an error Var answers 0. -/
theorem varT_err (k : Nat) : ∀ (i n : Nat) (s : ByteArray) (x : Int) (N : Nat) (s' : ByteArray) (x' : Int), varT k i n s x = (N, s', x') → x' ≠ 0 → N = 0 := by
  have hend : ∀ (i n c : Nat) (s : ByteArray) (x : Int) (N : Nat) (s' : ByteArray) (x' : Int), varEnd i n c s x = (N, s', x') → x' ≠ 0 → N = 0 := by
    intro i n c s x N s' x' h hx
    unfold varEnd at h
    injection h with h1 h
    injection h with _ h3
    rw [h3, if_neg hx] at h1
    exact h1.symm
  induction k with
  | zero => intro i n s x N s' x' h hx; exact hend _ _ _ _ _ _ _ _ h hx
  | succ k ih =>
    intro i n s x N s' x' h hx
    rw [varT] at h
    split at h
    · exact ih _ _ _ _ _ _ _ h hx
    · exact hend _ _ _ _ _ _ _ _ h hx

#print axioms varT_one
end Go.Proofs.YtdhdjkpocdfjbabDoor
