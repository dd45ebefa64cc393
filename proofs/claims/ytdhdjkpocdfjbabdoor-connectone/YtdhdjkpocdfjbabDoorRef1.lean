/-
  The document's answers for layer 1, as calls. (No statement: contracts that the proofs of the statements use.)
-/
import Derived.Test.YtdhdjkpocdfjbabDoorOpen
namespace Go.Proofs.YtdhdjkpocdfjbabDoor
open Go.RowKit

theorem conv1 (w : World) (x : Int) : (convert 61 9 (.slice (some ⟨w.heap.size, 0, none⟩) 1 1)).run Tryd.prog (w.alloc (.cells #[.int .u8 x] 5)) = .ok (.string (str [UInt8.ofNat x.toNat])) (w.alloc (.cells #[.int .u8 x] 5)) := by
  rw [run_convert_bytes_arg _ 61 5 Tryd.underlying61 Tryd.underlying5 w.heap.size 0 1 1 [x] rfl ?_ 9 Tryd.underlying9]
  · rfl
  · intro i hi
    obtain rfl : i = 0 := by omega
    simp
theorem conv2 (w : World) (x y : Int) : (convert 61 9 (.slice (some ⟨w.heap.size, 0, none⟩) 2 2)).run Tryd.prog (w.alloc (.cells #[.int .u8 x, .int .u8 y] 5)) = .ok (.string (str [UInt8.ofNat x.toNat, UInt8.ofNat y.toNat])) (w.alloc (.cells #[.int .u8 x, .int .u8 y] 5)) := by
  rw [run_convert_bytes_arg _ 61 5 Tryd.underlying61 Tryd.underlying5 w.heap.size 0 2 2 [x, y] rfl ?_ 9 Tryd.underlying9]
  · rfl
  · intro i hi
    obtain rfl | rfl : i = 0 ∨ i = 1 := by omega
    · simp
    · simp

theorem r1two_calls (w : World) (n : Int) (h0 : 0 ≤ n) (h1 : n < 4294967296) :
    Calls Tryd.prog 53 #[.int .u32 n] w fun e w' => e = .returned (.string (str (two n))) ∧ Below w.heap.size w w' := by
  have hcv := conv2 w (n / 256 % 256) (n % 256)
  rw [show [UInt8.ofNat (n / 256 % 256).toNat, UInt8.ofNat (n % 256).toNat] = two n from rfl] at hcv
  go_enter Tryd.func53, Tryd.ntmps53
  go_wp2
  go_ret
  exact ⟨rfl, below_one _ _⟩

theorem r1four_calls (w : World) (n : Int) (h0 : 0 ≤ n) (h1 : n < 4294967296) :
    Calls Tryd.prog 93 #[.int .u32 n] w fun e w' => e = .returned (.string (str (two (n / 65536) ++ two n))) ∧ Below w.heap.size w w' := by
  go_enter Tryd.func93, Tryd.ntmps93
  go_wp2_with fail
  refine (r1two_calls _ _ (by omega) (by omega)).mono ?_
  rintro e w1 ⟨rfl, b1⟩
  go_wp2_with fail
  refine (r1two_calls _ n (by omega) (by omega)).mono ?_
  rintro e w2 ⟨rfl, b2⟩
  have HB := Lib.hid (Below.next b1 b2)
  clear b1 b2
  have z1 : (str (two (n / 65536))).size = 2 := by rw [str_size]; rfl
  have z2 : (str (two n)).size = 2 := by rw [str_size]; rfl
  have ha := str_append (two (n / 65536)) (two n)
  go_wp2
  go_ret
  exact ⟨rfl, HB.out⟩

theorem r1data_calls (w : World) (s : ByteArray) (hs : s.size ≤ 65535) :
    Calls Tryd.prog 51 #[.string s] w fun e w' => e = .returned (.string (str (two s.size ++ s.data.toList))) ∧ Below w.heap.size w w' := by
  go_enter Tryd.func51, Tryd.ntmps51
  go_wp2_with fail
  refine (r1two_calls _ _ (by omega) (by omega)).mono ?_
  rintro e w1 ⟨rfl, b1⟩
  have HB := Lib.hid b1
  clear b1
  have z1 : (str (two s.size)).size = 2 := by rw [str_size]; rfl
  have ha : str (two s.size) ++ s = str (two s.size ++ s.data.toList) := by
    have h := str_append (two s.size) s.data.toList
    rwa [← ba_str] at h
  go_wp2
  go_ret
  exact ⟨rfl, HB.out⟩

/-- What holds behind i rounds of the document's Var. -/
def VarAt (N : Nat) (pre : List UInt8) (i m : Nat) : Prop := varb 3 N = pre ++ varb (3 - i) m ∧ m < 128 ^ (4 - i) ∧ pre.length = i

theorem VarAt.step {N : Nat} {pre : List UInt8} {i m : Nat} (h : VarAt N pre i m) (hi : i < 3) (hm : ¬ m < 128) : VarAt N (pre ++ [UInt8.ofNat (m % 128 + 128)]) (i + 1) (m / 128) := by
  obtain ⟨h1, h2, h3⟩ := h
  refine ⟨?_, ?_, by simp [h3]⟩
  · rw [h1, show 3 - i = (3 - (i + 1)) + 1 by omega, varb_step _ m hm, List.append_assoc]; rfl
  · rw [show 4 - i = (4 - (i + 1)) + 1 by omega, Nat.pow_succ] at h2
    exact Nat.div_lt_of_lt_mul (by rw [Nat.mul_comm]; exact h2)
theorem VarAt.last {N : Nat} {pre : List UInt8} {i m : Nat} (h : VarAt N pre i m) (hi : i ≤ 3) (hm : ¬ (i < 3 ∧ ¬ m < 128)) : m < 128 ∧ varb 3 N = pre ++ [UInt8.ofNat m] := by
  obtain ⟨h1, h2, h3⟩ := h
  have hlt : m < 128 := by
    by_cases h : i < 3
    · omega
    · obtain rfl : i = 3 := by omega
      simpa using h2
  exact ⟨hlt, by rw [h1, varb_small _ m hlt]⟩

set_option maxRecDepth 100000 in
set_option maxHeartbeats 1000000 in
theorem r1var_any (w : World) (n : Int) (N : Nat) (hN : N ≤ 268435455) (hn : n = N ∨ (N = 268435455 ∧ 268435455 < n ∧ n < 4294967296)) :
    Calls Tryd.prog 80 #[.int .u32 n] w fun e w' => e = .returned (.string (str (varb 3 N))) ∧ Below w.heap.size w w' := by
  have hst : VarAt N [] 0 N := ⟨rfl, by omega, rfl⟩
  have HST := Lib.hid hst
  clear hst
  rcases hn with rfl | ⟨hN', hg, hg2⟩
  all_goals (try have HN := Lib.hid hN'; clear hN')
  all_goals
    go_enter Tryd.func80, Tryd.ntmps80
    go_wp2
    go_loopw [0, 3, 4] (fun a b c wr => ∃ (m i : Nat) (pre : List UInt8), a = .int .u32 m ∧ b = .string (str pre) ∧ c = .int .i64 i ∧ i ≤ 3 ∧ m ≤ 268435455 ∧ VarAt N pre i m ∧ Below w.heap.size w wr) (fun _ _ c _ => 3 - (intOf c).toNat)
    case atStart =>
      first
        | exact ⟨N, 0, [], rfl, rfl, rfl, by omega, hN, HST.out, Below.refl _ _⟩
        | exact ⟨268435455, 0, [], rfl, rfl, rfl, by omega, by omega, by have := HST.out; rwa [HN.out] at this ⊢, Below.refl _ _⟩
    case round =>
      obtain ⟨m, i, pre, rfl, rfl, rfl, hi, hm, hv, hb⟩ := hrel
      have HV := Lib.hid hv
      have hpl : (str pre).size ≤ 3 := by rw [str_size, hv.2.2]; exact hi
      have hz := hb.size
      have HB := Lib.hid hb
      clear hv hb
      by_cases hc : i < 3 ∧ ¬ m < 128
      · obtain ⟨hi3, hm1⟩ := hc
        have hcv := conv1 wr (128 + (m : Int) % 128)
        rw [show (128 + (m : Int) % 128).toNat = m % 128 + 128 by omega] at hcv
        have ha := str_append pre [UInt8.ofNat (m % 128 + 128)]
        have hz1 : (str [UInt8.ofNat (m % 128 + 128)]).size = 1 := by rw [str_size]; rfl
        have HV' := Lib.hid (HV.out.step hi3 hm1)
        generalize UInt8.ofNat (m % 128 + 128) = q at *
        go_wp2
        go_roundw
        case rel => exact ⟨m / 128, i + 1, pre ++ [q], by go_num, rfl, by go_num, by omega, by omega, HV'.out, HB.out.alloc hz _⟩
        case measure => simp [intOf]; omega
      · obtain ⟨hm1, he⟩ := HV.out.last hi hc
        have HE := Lib.hid he
        clear he
        have hcv := conv1 wr (m : Int)
        rw [Int.toNat_natCast] at hcv
        have ha := str_append pre [UInt8.ofNat m]
        have hz1 : (str [UInt8.ofNat m]).size = 1 := by rw [str_size]; rfl
        clear hc
        by_cases hi3 : i < 3
        all_goals
          go_wp2
          go_ret
          rw [HE.out]
          exact ⟨rfl, HB.out.alloc hz _⟩

#print axioms r1four_calls
end Go.Proofs.YtdhdjkpocdfjbabDoor
