/-
  letters of layer 3's statements. (No statement: contracts that the proofs of the statements use.)
-/
import Derived.Test.YtmkajnephkaamaaDoorProp18
import Derived.Test.YtmkajnephkaamaaDoorProp13
namespace Go.Proofs.YtmkajnephkaamaaDoor
open Go.RowKit

/-- A letter of a byte. -/
def letC (c : UInt8) : UInt8 := UInt8.ofNat (97 + c.toNat % 26)
/-- Letters of bytes. -/
def lets (l : List UInt8) : List UInt8 := l.map letC

theorem enc_let (c : UInt8) : Utf8.encode (97 + (c.toNat : Int) % 26) = str [letC c] := by
  have h : ∀ n : Nat, n < 26 → Utf8.encode (97 + (n : Int)) = str [UInt8.ofNat (97 + n)] := by decide +kernel
  have := h (c.toNat % 26) (by omega)
  unfold letC
  rw [← this]
  congr 1

theorem lets_snoc (l : List UInt8) (k : Nat) (h : k < l.length) : lets (l.take (k + 1)) = lets (l.take k) ++ [letC (l.getD k 0)] := by
  unfold lets
  rw [List.take_succ_eq_append_getElem h, List.map_append]
  simp [List.getD, h]

theorem good_one : ∀ n : Nat, n < 26 → goodB (str [UInt8.ofNat (97 + n)]) = true := by decide +kernel
theorem good_lets (l : List UInt8) (hl : l.length ≤ 65535) : goodB (str (lets l)) = true := by
  induction l with
  | nil => decide +kernel
  | cons c l ih =>
    have h1 := good_one (c.toNat % 26) (by omega)
    have e : lets (c :: l) = [letC c] ++ lets l := rfl
    rw [e, good_append [letC c] (lets l) h1 (by simp [lets] at hl ⊢; omega)]
    exact ih (by simp at hl; omega)

set_option maxRecDepth 100000 in
theorem letters_calls (w : World) (l : List UInt8) (hl : l.length ≤ 1000) :
    Calls Tryd.prog 48 #[.string (str l)] w fun e w' => e = .returned (.string (str (lets l))) ∧ w = w' := by
  have hz : (str l).size = l.length := str_size l
  generalize hR : str (lets l) = R
  have HR := Lib.hid hR
  clear hR
  go_enter Tryd.func48, Tryd.ntmps48
  go_wp2
  go_loop [3, 4] (fun s j => ∃ k : Nat, k ≤ l.length ∧ j = .int .i64 k ∧ s = .string (str (lets (l.take k)))) (fun _ j => l.length - (intOf j).toNat)
  case atStart => exact ⟨0, by omega, rfl, rfl⟩
  case round =>
    obtain ⟨k, hk, rfl, rfl⟩ := hrel
    by_cases hlt : k < l.length
    · have hsn := lets_snoc l k hlt
      have henc := enc_let (l.getD k 0)
      have hlt2 : k < (str l).size := by omega
      have hidx : (str l)[k] = l.getD k 0 := by
        show (str l).data[k] = _
        simp [str, List.getD, hlt]
      have ha := str_append (lets (l.take k)) [letC (l.getD k 0)]
      rw [← hsn] at ha
      have z1 : (str (lets (l.take k))).size ≤ 1000 := by rw [str_size]; simp [lets]; omega
      have z2 : (str [letC (l.getD k 0)]).size = 1 := by rw [str_size]; rfl
      have HSN := Lib.hid hsn
      clear hsn
      generalize l.getD k 0 = c at *
      have hc := c.toNat_lt
      generalize hS1 : str (lets (l.take (k + 1))) = S1 at *
      have HS1 := Lib.hid hS1
      clear hS1 HSN
      generalize str (lets (l.take k)) = S0 at *
      generalize str [letC c] = X at *
      go_wp2
      go_round
      case rel => exact ⟨k + 1, by omega, by go_num, by rw [HS1.out]⟩
      case measure => simp [intOf]; omega
    · obtain rfl : k = l.length := by omega
      rw [List.take_length, HR.out]
      clear HR
      go_wp2
      go_ret
      exact ⟨rfl, rfl⟩

#print axioms letters_calls
end Go.Proofs.YtmkajnephkaamaaDoor
