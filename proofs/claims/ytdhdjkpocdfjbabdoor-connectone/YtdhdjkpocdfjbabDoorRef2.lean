/-
  The document's answers for layer 2, as calls. (No statement: contracts that the proofs of the statements use.)
-/
import Derived.Test.YtdhdjkpocdfjbabDoorPure3
namespace Go.Proofs.YtdhdjkpocdfjbabDoor
open Go.RowKit Go.Lib

theorem conv3 (w : World) (x y z : Int) : (convert 61 9 (.slice (some ⟨w.heap.size, 0, none⟩) 3 3)).run Tryd.prog (w.alloc (.cells #[.int .u8 x, .int .u8 y, .int .u8 z] 5)) = .ok (.string (str [UInt8.ofNat x.toNat, UInt8.ofNat y.toNat, UInt8.ofNat z.toNat])) (w.alloc (.cells #[.int .u8 x, .int .u8 y, .int .u8 z] 5)) := by
  rw [run_convert_bytes_arg _ 61 5 Tryd.underlying61 Tryd.underlying5 w.heap.size 0 3 3 [x, y, z] rfl ?_ 9 Tryd.underlying9]
  · rfl
  · intro i hi
    obtain rfl | rfl | rfl : i = 0 ∨ i = 1 ∨ i = 2 := by omega
    · simp
    · simp
    · simp
theorem conv4 (w : World) (x y z u : Int) : (convert 61 9 (.slice (some ⟨w.heap.size, 0, none⟩) 4 4)).run Tryd.prog (w.alloc (.cells #[.int .u8 x, .int .u8 y, .int .u8 z, .int .u8 u] 5)) = .ok (.string (str [UInt8.ofNat x.toNat, UInt8.ofNat y.toNat, UInt8.ofNat z.toNat, UInt8.ofNat u.toNat])) (w.alloc (.cells #[.int .u8 x, .int .u8 y, .int .u8 z, .int .u8 u] 5)) := by
  rw [run_convert_bytes_arg _ 61 5 Tryd.underlying61 Tryd.underlying5 w.heap.size 0 4 4 [x, y, z, u] rfl ?_ 9 Tryd.underlying9]
  · rfl
  · intro i hi
    obtain rfl | rfl | rfl | rfl : i = 0 ∨ i = 1 ∨ i = 2 ∨ i = 3 := by omega
    · simp
    · simp
    · simp
    · simp

/-- A sign's bytes. -/
def spellL (v : Nat) : List UInt8 :=
  if v < 128 then [UInt8.ofNat v]
  else if v < 2048 then [UInt8.ofNat (192 + v / 64), UInt8.ofNat (128 + v % 64)]
  else if v < 65536 then [UInt8.ofNat (224 + v / 4096), UInt8.ofNat (128 + v / 64 % 64), UInt8.ofNat (128 + v % 64)]
  else [UInt8.ofNat (240 + v / 262144), UInt8.ofNat (128 + v / 4096 % 64), UInt8.ofNat (128 + v / 64 % 64), UInt8.ofNat (128 + v % 64)]

set_option maxRecDepth 100000 in
theorem spell_calls (w : World) (v : Nat) (hv : v ≤ 2097151) :
    Calls Tryd.prog 98 #[.int .i64 v] w fun e w' => e = .returned (.string (str (spellL v))) ∧ Below w.heap.size w w' := by
  unfold spellL
  by_cases h1 : v < 128
  · rw [if_pos h1]
    have hcv := conv1 w (v : Int)
    rw [Int.toNat_natCast] at hcv
    generalize UInt8.ofNat v = q at *
    go_enter Tryd.func98, Tryd.ntmps98
    go_wp2
    go_ret
    exact ⟨rfl, below_one _ _⟩
  · rw [if_neg h1]
    by_cases h2 : v < 2048
    · rw [if_pos h2]
      have hcv := conv2 w (192 + (v : Int) / 64) (128 + (v : Int) % 64)
      rw [show (192 + (v : Int) / 64).toNat = 192 + v / 64 by omega, show (128 + (v : Int) % 64).toNat = 128 + v % 64 by omega] at hcv
      generalize UInt8.ofNat (192 + v / 64) = q at *
      generalize UInt8.ofNat (128 + v % 64) = q2 at *
      go_enter Tryd.func98, Tryd.ntmps98
      go_wp2
      go_ret
      exact ⟨rfl, below_one _ _⟩
    · rw [if_neg h2]
      by_cases h3 : v < 65536
      · rw [if_pos h3]
        have hcv := conv3 w (224 + (v : Int) / 4096) (128 + (v : Int) / 64 % 64) (128 + (v : Int) % 64)
        rw [show (224 + (v : Int) / 4096).toNat = 224 + v / 4096 by omega, show (128 + (v : Int) / 64 % 64).toNat = 128 + v / 64 % 64 by omega, show (128 + (v : Int) % 64).toNat = 128 + v % 64 by omega] at hcv
        generalize UInt8.ofNat (224 + v / 4096) = q at *
        generalize UInt8.ofNat (128 + v / 64 % 64) = q1 at *
        generalize UInt8.ofNat (128 + v % 64) = q2 at *
        have d1 : decide ((v : Int) < 128) = false := by simp; omega
        have d2 : decide ((v : Int) < 2048) = false := by simp; omega
        have d3 : decide ((v : Int) < 65536) = true := by simp; omega
        have q4 : (v : Int) / 4096 ≤ 15 := by omega
        have q5 : 0 ≤ (v : Int) / 4096 := by omega
        have q6 : (v : Int) ≤ 65535 := by omega
        clear h1 h2 h3 hv
        go_enter Tryd.func98, Tryd.ntmps98
        go_wp2
        go_ret
        exact ⟨rfl, below_one _ _⟩
      · rw [if_neg h3]
        have hcv := conv4 w (240 + (v : Int) / 262144) (128 + (v : Int) / 4096 % 64) (128 + (v : Int) / 64 % 64) (128 + (v : Int) % 64)
        rw [show (240 + (v : Int) / 262144).toNat = 240 + v / 262144 by omega, show (128 + (v : Int) / 4096 % 64).toNat = 128 + v / 4096 % 64 by omega, show (128 + (v : Int) / 64 % 64).toNat = 128 + v / 64 % 64 by omega, show (128 + (v : Int) % 64).toNat = 128 + v % 64 by omega] at hcv
        generalize UInt8.ofNat (240 + v / 262144) = q at *
        generalize UInt8.ofNat (128 + v / 4096 % 64) = q0 at *
        generalize UInt8.ofNat (128 + v / 64 % 64) = q1 at *
        generalize UInt8.ofNat (128 + v % 64) = q2 at *
        have d1 : decide ((v : Int) < 128) = false := by simp; omega
        have d2 : decide ((v : Int) < 2048) = false := by simp; omega
        have d3 : decide ((v : Int) < 65536) = false := by simp; omega
        have q4 : (v : Int) / 262144 ≤ 7 := by omega
        have q5 : 0 ≤ (v : Int) / 262144 := by omega
        have q6 : (v : Int) ≤ 2097151 := by omega
        clear h1 h2 h3 hv
        go_enter Tryd.func98, Tryd.ntmps98
        go_wp2
        go_ret
        exact ⟨rfl, below_one _ _⟩

/-- The value of the first k bytes, if m is that of the first. -/
def valAcc (l : List UInt8) (m : Nat) : Nat → Nat
  | 0 => m
  | k + 1 => valAcc l m k * 64 + (l.getD (k + 1) 0).toNat % 64

def headV (l : List UInt8) (n : Nat) : Nat := if n = 2 then (l.getD 0 0).toNat % 32 else if n = 3 then (l.getD 0 0).toNat % 16 else if n = 4 then (l.getD 0 0).toNat % 8 else (l.getD 0 0).toNat

theorem get_str (l : List UInt8) (i : Nat) (h : i < (str l).size) : (str l)[i] = l.getD i 0 := by
  have h' : i < l.length := by rwa [str_size] at h
  rw [List.getD_eq_getElem?_getD, List.getElem?_eq_getElem h']
  rfl

theorem valAcc_lt (l : List UInt8) (m : Nat) (hm : m < 256) : ∀ k, valAcc l m k < 256 * 64 ^ k
  | 0 => by simpa [valAcc] using hm
  | k + 1 => by
    have ih := valAcc_lt l m hm k
    have := Nat.mod_lt (l.getD (k + 1) 0).toNat (show 64 > 0 by omega)
    rw [valAcc, Nat.pow_succ]
    omega

set_option maxRecDepth 100000 in
set_option maxHeartbeats 1000000 in
theorem value_calls (w : World) (l : List UInt8) (n : Nat) (h1 : 1 ≤ n) (h4 : n ≤ 4) (hl : n ≤ l.length) (hm : l.length ≤ 70000) :
    Calls Tryd.prog 97 #[.string (str l), .int .i64 n] w fun e w' => e = .returned (.int .i64 (valAcc l (headV l n) (n - 1))) ∧ w = w' := by
  have hz : n ≤ (str l).size := by rw [str_size]; exact hl
  have hz2 : (str l).size ≤ 70000 := by rw [str_size]; exact hm
  have h0 : 0 < (str l).size := by omega
  obtain ⟨b0, hg0⟩ : ∃ b0, (str l)[0] = b0 := ⟨_, rfl⟩
  have HB0 := Lib.hid ((get_str l 0 h0).symm.trans hg0)
  have hb0 := b0.toNat_lt
  have hb0' : b0.toNat < 256 := by omega
  clear hb0
  obtain ⟨M, hM⟩ : ∃ M, headV l n = M := ⟨_, rfl⟩
  have HM := Lib.hid hM
  rw [hM]
  clear hM
  have HA : Hid (∀ k, valAcc l M k < 256 * 64 ^ k) := valAcc_lt l M (by
    rw [← HM.out]; unfold headV; rw [HB0.out]
    split
    · omega
    · split
      · omega
      · split <;> omega)
  rcases (show n = 1 ∨ n = 2 ∨ n = 3 ∨ n = 4 by omega) with hn | hn | hn | hn
  · have hMe : (b0.toNat : Int) = (M : Int) := by rw [← HM.out, headV, HB0.out, hn]; rfl
    have e2 : ((n : Int) == 2) = false := by rw [hn]; rfl
    have e3 : ((n : Int) == 3) = false := by rw [hn]; rfl
    have e4 : ((n : Int) == 4) = false := by rw [hn]; rfl
    clear hn HM HB0
    go_enter Tryd.func97, Tryd.ntmps97
    go_wp2
    go_loop [5, 6] (fun a c => ∃ k : Nat, c = .int .i64 (k + 1 : Nat) ∧ k + 1 ≤ n ∧ a = .int .i64 (valAcc l M k)) (fun _ c => n - (RowKit.intOf c).toNat)
    case atStart => exact ⟨0, rfl, h1, by first | rfl | exact congrArg (Value.int .i64) hMe⟩
    case round =>
      obtain ⟨k, rfl, hk, rfl⟩ := hrel
      clear hMe e2 e3 e4
      by_cases hlt : k + 1 < n
      · have hsz : k + 1 < (str l).size := by omega
        obtain ⟨b, hb⟩ : ∃ b, (str l)[k + 1] = b := ⟨_, rfl⟩
        have HS : Hid (valAcc l M (k + 1) = valAcc l M k * 64 + b.toNat % 64) := by unfold Hid; rw [valAcc, ← get_str l (k + 1) hsz, hb]
        have hv := HA.out k
        have hv' : valAcc l M k < 16777216 := Nat.lt_of_lt_of_le hv (Nat.le_trans (Nat.mul_le_mul_left 256 (Nat.pow_le_pow_right (by omega) (show k ≤ 2 by omega))) (by omega))
        have hbb := b.toNat_lt
        have hbb' : b.toNat < 256 := by omega
        clear hv hbb HA
        generalize valAcc l M k = v at *
        go_wp2
        go_round
        case rel => exact ⟨k + 1, by go_num, by omega, by rw [HS.out]; go_num⟩
        case measure => simp [RowKit.intOf]; omega
      · obtain rfl : k = n - 1 := by omega
        go_wp2
        go_ret
        exact ⟨rfl, rfl⟩
  · have hMe : (b0.toNat : Int) % 32 = (M : Int) := by rw [← HM.out, headV, HB0.out, hn]; rfl
    have e2 : ((n : Int) == 2) = true := by rw [hn]; rfl
    have e3 : ((n : Int) == 3) = false := by rw [hn]; rfl
    have e4 : ((n : Int) == 4) = false := by rw [hn]; rfl
    clear hn HM HB0
    go_enter Tryd.func97, Tryd.ntmps97
    go_wp2
    go_loop [5, 6] (fun a c => ∃ k : Nat, c = .int .i64 (k + 1 : Nat) ∧ k + 1 ≤ n ∧ a = .int .i64 (valAcc l M k)) (fun _ c => n - (RowKit.intOf c).toNat)
    case atStart => exact ⟨0, rfl, h1, by first | rfl | exact congrArg (Value.int .i64) hMe⟩
    case round =>
      obtain ⟨k, rfl, hk, rfl⟩ := hrel
      clear hMe e2 e3 e4
      by_cases hlt : k + 1 < n
      · have hsz : k + 1 < (str l).size := by omega
        obtain ⟨b, hb⟩ : ∃ b, (str l)[k + 1] = b := ⟨_, rfl⟩
        have HS : Hid (valAcc l M (k + 1) = valAcc l M k * 64 + b.toNat % 64) := by unfold Hid; rw [valAcc, ← get_str l (k + 1) hsz, hb]
        have hv := HA.out k
        have hv' : valAcc l M k < 16777216 := Nat.lt_of_lt_of_le hv (Nat.le_trans (Nat.mul_le_mul_left 256 (Nat.pow_le_pow_right (by omega) (show k ≤ 2 by omega))) (by omega))
        have hbb := b.toNat_lt
        have hbb' : b.toNat < 256 := by omega
        clear hv hbb HA
        generalize valAcc l M k = v at *
        go_wp2
        go_round
        case rel => exact ⟨k + 1, by go_num, by omega, by rw [HS.out]; go_num⟩
        case measure => simp [RowKit.intOf]; omega
      · obtain rfl : k = n - 1 := by omega
        go_wp2
        go_ret
        exact ⟨rfl, rfl⟩
  · have hMe : (b0.toNat : Int) % 16 = (M : Int) := by rw [← HM.out, headV, HB0.out, hn]; rfl
    have e2 : ((n : Int) == 2) = false := by rw [hn]; rfl
    have e3 : ((n : Int) == 3) = true := by rw [hn]; rfl
    have e4 : ((n : Int) == 4) = false := by rw [hn]; rfl
    clear hn HM HB0
    go_enter Tryd.func97, Tryd.ntmps97
    go_wp2
    go_loop [5, 6] (fun a c => ∃ k : Nat, c = .int .i64 (k + 1 : Nat) ∧ k + 1 ≤ n ∧ a = .int .i64 (valAcc l M k)) (fun _ c => n - (RowKit.intOf c).toNat)
    case atStart => exact ⟨0, rfl, h1, by first | rfl | exact congrArg (Value.int .i64) hMe⟩
    case round =>
      obtain ⟨k, rfl, hk, rfl⟩ := hrel
      clear hMe e2 e3 e4
      by_cases hlt : k + 1 < n
      · have hsz : k + 1 < (str l).size := by omega
        obtain ⟨b, hb⟩ : ∃ b, (str l)[k + 1] = b := ⟨_, rfl⟩
        have HS : Hid (valAcc l M (k + 1) = valAcc l M k * 64 + b.toNat % 64) := by unfold Hid; rw [valAcc, ← get_str l (k + 1) hsz, hb]
        have hv := HA.out k
        have hv' : valAcc l M k < 16777216 := Nat.lt_of_lt_of_le hv (Nat.le_trans (Nat.mul_le_mul_left 256 (Nat.pow_le_pow_right (by omega) (show k ≤ 2 by omega))) (by omega))
        have hbb := b.toNat_lt
        have hbb' : b.toNat < 256 := by omega
        clear hv hbb HA
        generalize valAcc l M k = v at *
        go_wp2
        go_round
        case rel => exact ⟨k + 1, by go_num, by omega, by rw [HS.out]; go_num⟩
        case measure => simp [RowKit.intOf]; omega
      · obtain rfl : k = n - 1 := by omega
        go_wp2
        go_ret
        exact ⟨rfl, rfl⟩
  · have hMe : (b0.toNat : Int) % 8 = (M : Int) := by rw [← HM.out, headV, HB0.out, hn]; rfl
    have e2 : ((n : Int) == 2) = false := by rw [hn]; rfl
    have e3 : ((n : Int) == 3) = false := by rw [hn]; rfl
    have e4 : ((n : Int) == 4) = true := by rw [hn]; rfl
    clear hn HM HB0
    go_enter Tryd.func97, Tryd.ntmps97
    go_wp2
    go_loop [5, 6] (fun a c => ∃ k : Nat, c = .int .i64 (k + 1 : Nat) ∧ k + 1 ≤ n ∧ a = .int .i64 (valAcc l M k)) (fun _ c => n - (RowKit.intOf c).toNat)
    case atStart => exact ⟨0, rfl, h1, by first | rfl | exact congrArg (Value.int .i64) hMe⟩
    case round =>
      obtain ⟨k, rfl, hk, rfl⟩ := hrel
      clear hMe e2 e3 e4
      by_cases hlt : k + 1 < n
      · have hsz : k + 1 < (str l).size := by omega
        obtain ⟨b, hb⟩ : ∃ b, (str l)[k + 1] = b := ⟨_, rfl⟩
        have HS : Hid (valAcc l M (k + 1) = valAcc l M k * 64 + b.toNat % 64) := by unfold Hid; rw [valAcc, ← get_str l (k + 1) hsz, hb]
        have hv := HA.out k
        have hv' : valAcc l M k < 16777216 := Nat.lt_of_lt_of_le hv (Nat.le_trans (Nat.mul_le_mul_left 256 (Nat.pow_le_pow_right (by omega) (show k ≤ 2 by omega))) (by omega))
        have hbb := b.toNat_lt
        have hbb' : b.toNat < 256 := by omega
        clear hv hbb HA
        generalize valAcc l M k = v at *
        go_wp2
        go_round
        case rel => exact ⟨k + 1, by go_num, by omega, by rw [HS.out]; go_num⟩
        case measure => simp [RowKit.intOf]; omega
      · obtain rfl : k = n - 1 := by omega
        go_wp2
        go_ret
        exact ⟨rfl, rfl⟩

#print axioms spell_calls
end Go.Proofs.YtdhdjkpocdfjbabDoor
