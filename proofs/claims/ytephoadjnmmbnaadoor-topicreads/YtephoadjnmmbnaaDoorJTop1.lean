/-
  Signs of a text, looked for by the library. (No statement: contracts that the proofs of the statements use.)
-/
import Derived.Test.YtephoadjnmmbnaaDoorJShelf
import Derived.Test.YtephoadjnmmbnaaDoorJTop0
import Derived.Laws.Runes
import Derived.Laws.RangeAny
import Derived.WalkMore
import Derived.Deep.QuietTactic
import Derived.RegionCalls
import Derived.BigQuiet
import Derived.Lib.Hide
namespace Go.Proofs.YtephoadjnmmbnaaDoor
open Go.RowKit Go.Lib

theorem validRune_calls (w : World) (r : Int) (h1 : 0 ≤ r) : Calls Tryd.prog 206 #[.int .i32 r] w fun e w' => e = .returned (.bool (validRune r)) ∧ w' = w := by
  unfold validRune
  by_cases ha : r < 55296
  · rw [decide_eq_true (by omega)]
    go_enter Tryd.func206, Tryd.ntmps206
    go_wp2
    go_ret
    exact ⟨rfl, rfl⟩
  · by_cases hb : 57343 < r
    · by_cases hc : r ≤ 1114111
      · rw [decide_eq_true (by omega)]
        go_enter Tryd.func206, Tryd.ntmps206
        go_wp2
        go_ret
        exact ⟨rfl, rfl⟩
      · rw [decide_eq_false (by omega)]
        go_enter Tryd.func206, Tryd.ntmps206
        go_wp2
        go_ret
        exact ⟨rfl, rfl⟩
    · rw [decide_eq_false (by omega)]
      go_enter Tryd.func206, Tryd.ntmps206
      go_wp2
      go_ret
      exact ⟨rfl, rfl⟩

set_option maxRecDepth 1000000 in
set_option maxHeartbeats 2000000 in
theorem rune_bad (w : World) (r : Int) (h1 : 128 ≤ r) (he : r ≠ 65533) (hv : validRune r = false) :
    Calls Tryd.prog 199 #[.string ⟨#[43, 35]⟩, .int .i32 r] w fun e w' => e = .returned (.int .i64 (-1)) ∧ Below w.heap.size w w' := by
  have hl : ¬ r < 128 := by omega
  have h0 : 0 ≤ r := by omega
  have HV := Lib.hid hv
  clear hv
  go_enter Tryd.func199, Tryd.ntmps199
  go_wp2_with fail
  refine (validRune_calls _ r h0).mono ?_
  rw [HV.out]
  rintro e w1 ⟨rfl, rfl⟩
  go_wp2
  go_ret
  exact ⟨rfl, Below.refl _ _⟩

set_option maxRecDepth 1000000 in
set_option maxHeartbeats 2000000 in
theorem rune_err (w : World) :
    Calls Tryd.prog 199 #[.string ⟨#[43, 35]⟩, .int .i32 65533] w fun e w' => e = .returned (.int .i64 (-1)) ∧ Below w.heap.size w w' := by
  have hB := fun i => Lib.hid (show Below w.heap.size w (w.iter ⟨#[43, 35]⟩ i) from (Below.refl _ _).alloc (Nat.le_refl _) _)
  go_enter Tryd.func199, Tryd.ntmps199
  go_wp2
  go_loopg [5, 6] 2 (fun g _ _ wx => ∃ i : Nat, i + g = 2 ∧ wx = w.iter ⟨#[43, 35]⟩ i)
  case atStart => exact ⟨0, rfl, rfl⟩
  case round =>
    obtain ⟨i, hig, rfl⟩ := hrel
    cases gk with
    | zero =>
      obtain rfl : i = 2 := by omega
      have hnx := fun ty => run_next_end (P := Tryd.prog) w ⟨#[43, 35]⟩ 2 ty (by decide)
      go_wp2
      go_ret
      exact ⟨rfl, (hB _).out⟩
    | succ g =>
      obtain rfl | rfl : i = 0 ∨ i = 1 := by omega
      · have hnx := fun ty => run_next_ascii (P := Tryd.prog) w ⟨#[43, 35]⟩ 0 ty (by decide) (by decide)
        go_wp2
        go_roundg g
        case measure => omega
        case rel => exact ⟨1, by omega, rfl⟩
      · have hnx := fun ty => run_next_ascii (P := Tryd.prog) w ⟨#[43, 35]⟩ 1 ty (by decide) (by decide)
        go_wp2
        go_roundg g
        case measure => omega
        case rel => exact ⟨2, by omega, rfl⟩

set_option maxRecDepth 1000000 in
set_option maxHeartbeats 2000000 in
theorem rune_long3 (w : World) (r : Int) (h1 : 128 ≤ r) (he : r ≠ 65533) (hv : validRune r = true) (rs : ByteArray) (hrs : Utf8.encode r = rs) (h3 : 3 ≤ rs.size) (h4 : rs.size ≤ 4) :
    Calls Tryd.prog 199 #[.string ⟨#[43, 35]⟩, .int .i32 r] w fun e w' => e = .returned (.int .i64 (-1)) ∧ Below w.heap.size w w' := by
  have hl : ¬ r < 128 := by omega
  have h0 : 0 ≤ r := by omega
  have HV := Lib.hid hv
  clear hv
  have hcv := fun w => run_convert_int_string (P := Tryd.prog) w 21 9 .i32 r (by kernel_rfl) Tryd.underlying9
  rw [hrs] at hcv
  clear hrs
  go_enter Tryd.func199, Tryd.ntmps199
  go_wp2_with fail
  refine (validRune_calls _ r h0).mono ?_
  rw [HV.out]
  rintro e w1 ⟨rfl, rfl⟩
  go_wp2
  go_step3
  go_wp2
  go_loop [9] (fun i => i = .int .i64 ((rs.size : Int) - 1)) (fun _ => 0)
  case atStart => rfl
  case round =>
    obtain rfl := hrel
    have hnl : ¬ ((rs.size : Int) - 1 < 2) := by omega
    go_wp2
    go_ret
    exact ⟨rfl, Below.refl _ _⟩

set_option maxRecDepth 1000000 in
set_option maxHeartbeats 2000000 in
theorem rune_long2 (w : World) (r : Int) (h1 : 128 ≤ r) (he : r ≠ 65533) (hv : validRune r = true) (a b : UInt8) (hrs : Utf8.encode r = ⟨#[a, b]⟩) (hb : 128 ≤ b.toNat) :
    Calls Tryd.prog 199 #[.string ⟨#[43, 35]⟩, .int .i32 r] w fun e w' => e = .returned (.int .i64 (-1)) ∧ Below w.heap.size w w' := by
  have hl : ¬ r < 128 := by omega
  have h0 : 0 ≤ r := by omega
  have HV := Lib.hid hv
  clear hv
  have hcv := fun w => run_convert_int_string (P := Tryd.prog) w 21 9 .i32 r (by kernel_rfl) Tryd.underlying9
  rw [hrs] at hcv
  clear hrs
  have hne : ((35 : Int) != (b.toNat : Int)) = true := by simp; omega
  have hw2 : IntKind.i64.wrap 2 = 2 := by decide
  go_enter Tryd.func199, Tryd.ntmps199
  go_wp2_with fail
  refine (validRune_calls _ r h0).mono ?_
  rw [HV.out]
  rintro e w1 ⟨rfl, rfl⟩
  go_wp2
  go_step3
  go_wp2
  go_loopw [9] (fun i wr => i = .int .i64 1 ∧ wr = w1) (fun _ _ => 0)
  case atStart => exact ⟨rfl, rfl⟩
  case round =>
    obtain ⟨rfl, rfl⟩ := hrel
    go_wp2
    go_step3
    go_wp2
    have hx : ((⟨#[43, 35]⟩ : ByteArray)[1]'(by decide)).toNat = 35 := rfl
    have hy : ((⟨#[a, b]⟩ : ByteArray)[1]'(by show 1 < 2; omega)).toNat = b.toNat := rfl
    go_region
    have hB := Lib.hid (show Below wr.heap.size wr wr.drew from (Below.refl _ _).drew)
    generalize wr.drew = W at *
    go_wp2
    · go_quiet ((go_at_call 180; exact Calls.quiet_of_same (Tryd.strings_IndexByte _ _ _)))
      rw [show Lib.indexByte ByteArray.empty.data.toList _ = -1 from rfl]
      go_wp2
      rw [Exit.noGoto_ret]
      go_wp2
      rw [Exit.noGoto_ret]
      go_wp2
      go_ret
      exact ⟨rfl, hB.out.os, hB.out.tape, hB.out.output, hB.out.size, hB.out.block⟩

theorem enc_two (r : Int) (hv : validRune r = true) (h1 : 128 ≤ r) (h2 : (Utf8.encode r).size = 2) : ∃ a b : UInt8, Utf8.encode r = ⟨#[a, b]⟩ ∧ 128 ≤ b.toNat := by
  obtain ⟨f1, f2, f3⟩ := encode_facts r (by rw [validRune_eq]; exact hv) h1
  generalize Utf8.encode r = rs at *
  obtain ⟨⟨l⟩⟩ := rs
  match l, h2 with
  | [a, b], _ => exact ⟨a, b, rfl, f3 (by show 2 - 1 < 2; omega)⟩

theorem rune_high (w : World) (r : Int) (h1 : 128 ≤ r) :
    Calls Tryd.prog 199 #[.string ⟨#[43, 35]⟩, .int .i32 r] w fun e w' => e = .returned (.int .i64 (-1)) ∧ Below w.heap.size w w' := by
  by_cases he : r = 65533
  · subst he; exact rune_err w
  · cases hv : validRune r with
    | false => exact rune_bad w r h1 he hv
    | true =>
      obtain ⟨f1, f2, f3⟩ := encode_facts r (by rw [validRune_eq]; exact hv) h1
      by_cases h3 : 3 ≤ (Utf8.encode r).size
      · exact rune_long3 w r h1 he hv _ rfl h3 f2
      · obtain ⟨a, b, e, hb⟩ := enc_two r hv h1 (by omega)
        exact rune_long2 w r h1 he hv a b e hb

#print axioms rune_bad
end Go.Proofs.YtephoadjnmmbnaaDoor
