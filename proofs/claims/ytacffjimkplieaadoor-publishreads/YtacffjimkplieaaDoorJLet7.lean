/-
  letters of layer 7's statements. (No statement: contracts that the proofs of the statements use.)
-/
import Derived.Test.YtacffjimkplieaaDoorJPropsB
import Derived.Test.YtacffjimkplieaaDoorJReason
namespace Go.Proofs.YtacffjimkplieaaDoor
open Go.RowKit

set_option maxRecDepth 100000 in
set_option maxHeartbeats 1000000 in
theorem letters7_calls (w : World) (a : ByteArray) (ha : a.size ≤ maxLen) :
    Calls Tryd.prog 38 #[.string a] w fun e w' => e = .returned (.string (str (lets (a.data.toList.take 20)))) ∧ Below w.heap.size w w' := by
  have hcut := ba_take a 20
  have hl : (a.data.toList.take 20).length ≤ 20 := by rw [List.length_take]; omega
  generalize a.data.toList.take 20 = l at hcut hl ⊢
  have HCUT := Lib.hid hcut
  clear hcut
  generalize hR : str (lets l) = R
  have HR := Lib.hid hR
  clear hR
  have hc := Lib.run_convert_string_bytes (P := Tryd.prog) w 9 87 5 (str l) Tryd.underlying9 Tryd.underlying87 Tryd.underlying5
  have hB := Lib.hid (bytesWorld_below w 5 (str l))
  have hRow := Lib.hid (bytesWorld_row w 5 (str l))
  rw [str_size] at hc
  go_enter Tryd.func38, Tryd.ntmps38
  go_wp2_with fail
  refine (cut_calls _ a 20 ha).mono ?_
  rw [HCUT.out]
  rintro e w1 ⟨rfl, rfl⟩
  generalize Lib.bytesWorld w 5 (str l) = W1 at *
  generalize grownCap w l.length 0 5 = c at *
  go_wp2
  have RW := Lib.hid (show RowAt W1 w.heap.size l from by have := hRow.out; rw [str_data] at this; exact this)
  clear hRow hc
  go_loop [3, 10] (fun s j => ∃ k : Nat, k ≤ l.length ∧ j = .int .i64 k ∧ s = .string (str (lets (l.take k)))) (fun _ j => l.length - (intOf j).toNat)
  case atStart => exact ⟨0, by omega, rfl, rfl⟩
  case round =>
    obtain ⟨k, hk, rfl, rfl⟩ := hrel
    by_cases hlt : k < l.length
    · have hsn := lets_snoc l k hlt
      have henc := enc_let (l.getD k 0)
      obtain ⟨hcell, -⟩ := RW.out.2 k hlt
      have ha := str_append (lets (l.take k)) [letC (l.getD k 0)]
      rw [← hsn] at ha
      have z1 : (str (lets (l.take k))).size ≤ 1000 := by rw [str_size]; simp [lets]; omega
      have z2 : (str [letC (l.getD k 0)]).size = 1 := by rw [str_size]; rfl
      clear hsn
      generalize l.getD k 0 = c at *
      have hc := c.toNat_lt
      generalize hS1 : str (lets (l.take (k + 1))) = S1 at *
      have HS1 := Lib.hid hS1
      clear hS1
      generalize str (lets (l.take k)) = S0 at *
      generalize str [letC c] = X at *
      go_wp2
      go_round
      case rel => exact ⟨k + 1, by omega, by go_num, by rw [HS1.out]⟩
      case measure => simp [intOf]; omega
    · obtain rfl : k = l.length := by omega
      rw [List.take_length, HR.out]
      clear HR
      go_wp2
      go_ret
      exact ⟨rfl, hB.out⟩

#print axioms letters7_calls
end Go.Proofs.YtacffjimkplieaaDoor
