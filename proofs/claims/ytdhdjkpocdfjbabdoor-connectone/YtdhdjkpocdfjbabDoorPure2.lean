/-
  Plain lemmas on bytes: what is put is taken again. (No statement.)
-/
import Derived.Test.YtdhdjkpocdfjbabDoorPure
namespace Go.Proofs.YtdhdjkpocdfjbabDoor
open Go.RowKit

theorem numL_one (c : UInt8) : numL [c] = c.toNat := by simp [numL]
theorem ofNat_toNat (n : Int) (h0 : 0 ≤ n) (h1 : n < 256) : ((UInt8.ofNat n.toNat).toNat : Int) = n := by
  rw [UInt8.toNat_ofNat', Nat.mod_eq_of_lt (by omega)]; omega
theorem numL_two (n : Int) (_h0 : 0 ≤ n) : (numL (two n) : Int) = n % 65536 := by
  have a := ofNat_toNat (n / 256 % 256) (by omega) (by omega)
  have b := ofNat_toNat (n % 256) (by omega) (by omega)
  unfold numL two
  simp only [List.foldl_cons, List.foldl_nil]
  omega
theorem numL_four (n : Int) (_h0 : 0 ≤ n) (_h1 : n < 4294967296) : (numL (two (n / 65536) ++ two n) : Int) = n := by
  have a := ofNat_toNat (n / 65536 / 256 % 256) (by omega) (by omega)
  have b := ofNat_toNat (n / 65536 % 256) (by omega) (by omega)
  have c := ofNat_toNat (n / 256 % 256) (by omega) (by omega)
  have d := ofNat_toNat (n % 256) (by omega) (by omega)
  unfold numL two
  simp only [List.foldl_cons, List.foldl_nil, List.cons_append, List.nil_append]
  omega
theorem two_len (n : Int) : (two n).length = 2 := rfl

theorem rawT_app (a b : List UInt8) (n : Int) (h : n = a.length) : rawT (str (a ++ b)) 0 n = (str a, str b, 0) := by
  subst h
  rw [rawT_list (a ++ b) a.length (by simp), List.take_left, List.drop_left]

/-- What is put as a variable byte integer is taken again. -/
theorem varT_back : ∀ (k i n m : Nat) (l : List UInt8), m < 128 ^ (k + 1) → (0 < i → m ≠ 0) → varT k i n (str (varb k m ++ l)) 0 = (n + m * 128 ^ i, str l, 0) := by
  have hend : ∀ (k i n m : Nat) (l : List UInt8), m < 128 → (0 < i → m ≠ 0) → varT k i n (str ([UInt8.ofNat m] ++ l)) 0 = (n + m * 128 ^ i, str l, 0) := by
    intro k i n m l hm h0
    have hr := rawT_app [UInt8.ofNat m] l 1 (by simp)
    have hn : numL (str [UInt8.ofNat m]).data.toList = m := by rw [str_data, numL_one, UInt8.toNat_ofNat', Nat.mod_eq_of_lt (by omega)]
    rw [varT_ok hr (by rw [hn]; omega), hn, if_pos rfl, Nat.mod_eq_of_lt (by omega)]
  intro k
  induction k with
  | zero =>
    intro i n m l hm h0
    simp at hm
    rw [varb_small 0 m hm]
    exact hend 0 i n m l hm h0
  | succ k ih =>
    intro i n m l hm h0
    by_cases hs : m < 128
    · rw [varb_small _ m hs]
      exact hend _ i n m l hs h0
    · rw [varb_step k m hs]
      have hr := rawT_app [UInt8.ofNat (m % 128 + 128)] (varb k (m / 128) ++ l) 1 (by simp)
      have hn : numL (str [UInt8.ofNat (m % 128 + 128)]).data.toList = m % 128 + 128 := by rw [str_data, numL_one, UInt8.toNat_ofNat', Nat.mod_eq_of_lt (by omega)]
      have e : UInt8.ofNat (m % 128 + 128) :: varb k (m / 128) ++ l = [UInt8.ofNat (m % 128 + 128)] ++ (varb k (m / 128) ++ l) := rfl
      rw [e, varT_go hr (by rw [hn]; omega), hn, ih (i + 1) _ (m / 128) l (Nat.div_lt_of_lt_mul (by rw [Nat.mul_comm]; rwa [Nat.pow_succ] at hm)) (by omega)]
      have e2 : n + (m % 128 + 128) % 128 * 128 ^ i + m / 128 * 128 ^ (i + 1) = n + m * 128 ^ i := by
        rw [Nat.add_mod_right, Nat.mod_mod, Nat.pow_succ, Nat.add_assoc, Nat.mul_comm (128 ^ i) 128, ← Nat.mul_assoc, ← Nat.add_mul, show m % 128 + m / 128 * 128 = m by omega]
      rw [e2]

theorem and_low (b : Int) (h0 : 0 ≤ b) (h1 : b < 4294967296) : bits .and .u32 b 65535 = b % 65536 := by
  obtain ⟨n, rfl⟩ := Int.eq_ofNat_of_zero_le h0
  have h := u32_and_nat n 65535 (by omega) (by omega)
  have e : n &&& 65535 = n % 65536 := Nat.and_two_pow_sub_one_eq_mod n 16
  rw [e] at h
  exact h.trans (by omega)

theorem rawT_none {s t s' : ByteArray} {x n x' : Int} (h : rawT s x n = (t, s', x')) (hx : x' ≠ 0) : t = ⟨#[]⟩ := by
  unfold rawT at h
  split at h
  · injection h with h1 _; exact h1.symm
  · split at h
    · injection h with h1 _; exact h1.symm
    · split at h
      · injection h with h1 _; exact h1.symm
      · injection h with _ h
        injection h with _ h
        exact absurd h.symm hx

theorem varT_stop {k i m : Nat} {s1 t s2 : ByteArray} {x1 x2 : Int} (hr : rawT s1 x1 1 = (t, s2, x2)) (hx : x2 ≠ 0) : varT k i m s1 x1 = (0, s2, x2) := by
  have ht := rawT_none hr hx
  have hn : numL t.data.toList = 0 := by rw [ht]; rfl
  by_cases hi : 0 < i
  · rw [varT_bad hr (.inr (by omega)) (.inr ⟨hn, hi⟩), failed, if_neg hx]
  · rw [varT_ok hr (by omega), if_neg hx]

#print axioms varT_back
end Go.Proofs.YtdhdjkpocdfjbabDoor
