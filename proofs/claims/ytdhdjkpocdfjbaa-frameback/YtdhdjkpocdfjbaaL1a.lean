/-
  Size, Cut and awake of layer 1's statements. (No statement: contracts that the proofs of the statements use.)
-/
import Derived.Test.YtdhdjkpocdfjbaaIn2
namespace Go.Proofs.Ytdhdjkpocdfjbaa
open Go.RowKit

set_option maxRecDepth 100000 in
theorem size_calls (w : World) (n : Int) (h0 : 0 ≤ n) (h1 : n ≤ 268435455) :
    Calls Try.prog 30 #[.int .u32 n] w fun e w' => e = .returned (.int .i64 (varb 3 n.toNat).length) ∧ w = w' := by
  obtain ⟨N, rfl⟩ := Int.eq_ofNat_of_zero_le h0
  rw [Int.toNat_natCast]
  generalize hL : (varb 3 N).length = L
  have HL := Lib.hid hL
  clear hL
  go_enter Try.func30, Try.ntmps30
  go_wp2
  go_loop [0, 3] (fun a b => ∃ m k : Nat, a = .int .u32 m ∧ b = .int .i64 ((4 - k : Nat) : Int) ∧ k ≤ 3 ∧ L = 3 - k + (varb k m).length ∧ m < 128 ^ (k + 1)) (fun a _ => (intOf a).toNat)
  case atStart => exact ⟨N, 3, rfl, rfl, by omega, by rw [← HL.out]; omega, by omega⟩
  case round =>
    obtain ⟨m, k, rfl, rfl, hk, hl, hm⟩ := hrel
    have HV := Lib.hid hl
    have hmb : m < 268435456 := Nat.lt_of_lt_of_le hm (Nat.le_trans (Nat.pow_le_pow_right (by omega) (show k + 1 ≤ 4 by omega)) (by omega))
    have HM := Lib.hid hm
    clear hl hm
    by_cases hlt : m < 128
    · go_wp2
      go_ret
      refine ⟨?_, rfl⟩
      have := HV.out
      rw [varb_small k m hlt] at this
      simp at this
      exact congrArg (fun z => Ending.returned (.int .i64 z)) (show ((4 - k : Nat) : Int) = (L : Int) by omega)
    · obtain ⟨k', rfl⟩ : ∃ k', k = k' + 1 := by
        cases k with
        | zero => exact absurd (by simpa using HM.out) hlt
        | succ k => exact ⟨k, rfl⟩
      have e4 : 4 - (k' + 1) = 3 - k' := by omega
      rw [e4]
      go_wp2
      go_round
      case rel =>
        refine ⟨m / 128, k', by go_num, by go_num, by omega, ?_, ?_⟩
        · have := HV.out
          rw [varb_step k' m hlt, List.length_cons] at this
          omega
        · have := HM.out
          rw [Nat.pow_succ] at this
          exact Nat.div_lt_of_lt_mul (by rw [Nat.mul_comm]; exact this)
      case measure => simp [intOf]; omega

theorem cut_calls (w : World) (s : ByteArray) (n : Nat) (_hs : s.size ≤ maxLen) :
    Calls Try.prog 7 #[.string s, .int .i64 n] w fun e w' => e = .returned (.string (s.extract 0 n)) ∧ w = w' := by
  by_cases h : n < s.size
  · go_enter Try.func7, Try.ntmps7
    go_wp2
    go_ret
    exact ⟨rfl, rfl⟩
  · have e : s.extract 0 n = s := by
      apply ByteArray.ext
      rw [ByteArray.data_extract]
      apply Array.ext'
      simp
      exact List.take_of_length_le (by simp; omega)
    rw [e]
    go_enter Try.func7, Try.ntmps7
    go_wp2
    go_ret
    exact ⟨rfl, rfl⟩

theorem two_ab : str ([] ++ varb 3 (321 : Int).toNat ++ (two ((⟨#[97, 98]⟩ : ByteArray).size : Nat) ++ (⟨#[97, 98]⟩ : ByteArray).data.toList)) = ⟨#[193, 2, 0, 2, 97, 98]⟩ := by decide +kernel
theorem var_80 : varT 3 0 0 ⟨#[128, 0]⟩ 0 = (0, ⟨#[]⟩, 2) := by decide +kernel

theorem OutAt.alloc {w : World} {o : Nat} {r : Option Nat} {bs : List UInt8} (h : OutAt w o r bs) (ob : Obj) : OutAt (w.alloc ob) o r bs :=
  h.keep (Below.heap_alloc w ob o h.lt) (fun g hg => Below.heap_alloc w ob g (h.row_lt g hg))

theorem Step.row_ge {w w' : World} {o B : Nat} {r r' : Option Nat} (h : Step w w' o r r') (hB : B ≤ w.heap.size) (hr : ∀ g, r = some g → B ≤ g) : ∀ g, r' = some g → B ≤ g := by
  intro g hg
  rcases h.row with e | ⟨g', e, hg'⟩
  · exact hr g (by rw [← e]; exact hg)
  · rw [e] at hg; injection hg with hg; omega

end Go.Proofs.Ytdhdjkpocdfjbaa
