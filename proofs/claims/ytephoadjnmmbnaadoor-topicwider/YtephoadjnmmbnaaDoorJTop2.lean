/-
  Has a text a sign? (No statement: contracts that the proofs of the statements use.)
-/
import Derived.Test.YtephoadjnmmbnaaDoorJTop1
import Derived.Lib.OthersKept
namespace Go.Proofs.YtephoadjnmmbnaaDoor
open Go.RowKit Go.Lib

theorem decode_conts (s : ByteArray) (pos : Nat) (h : pos < s.size) (ha : 128 ≤ (s[pos]'h).toNat) :
    pos + (Utf8.decode s pos).2 ≤ s.size ∧ ∀ k, k < (Utf8.decode s pos).2 → 128 ≤ (s.get! (pos + k)).toNat := by
  have hn : ¬ (s[pos]'h).toNat < 128 := by omega
  have h0 : 128 ≤ (s.get! (pos + 0)).toNat := by rw [get_at s pos h]; exact ha
  have hone : pos + 1 ≤ s.size ∧ ∀ k, k < 1 → 128 ≤ (s.get! (pos + k)).toNat := ⟨by omega, fun k hk => by obtain rfl : k = 0 := by omega
                                                                                                          exact h0⟩
  simp only [Utf8.decode, get_at s pos h, hn, if_false]
  split
  · rename_i c
    simp only [Bool.and_eq_true, decide_eq_true_eq, beq_iff_eq] at c
    split
    · refine ⟨by simp only; omega, fun k hk => ?_⟩
      simp only at hk
      obtain rfl | rfl : k = 0 ∨ k = 1 := by omega
      · exact h0
      · omega
    · exact hone
  · split
    · rename_i c
      simp only [Bool.and_eq_true, decide_eq_true_eq, beq_iff_eq] at c
      split
      · refine ⟨by simp only; omega, fun k hk => ?_⟩
        simp only at hk
        obtain rfl | rfl | rfl : k = 0 ∨ k = 1 ∨ k = 2 := by omega
        · exact h0
        · omega
        · omega
      · exact hone
    · split
      · rename_i c
        simp only [Bool.and_eq_true, decide_eq_true_eq, beq_iff_eq] at c
        split
        · refine ⟨by simp only; omega, fun k hk => ?_⟩
          simp only at hk
          obtain rfl | rfl | rfl | rfl : k = 0 ∨ k = 1 ∨ k = 2 ∨ k = 3 := by omega
          · exact h0
          · omega
          · omega
          · omega
        · exact hone
      · exact hone

theorem sign_not (b : UInt8) (h : 128 ≤ b.toNat) : ([43, 35] : List UInt8).contains b = false := by
  cases e : ([43, 35] : List UInt8).contains b with
  | false => rfl
  | true =>
    simp at e
    rcases e with rfl | rfl
    · exact absurd h (by decide)
    · exact absurd h (by decide)

theorem noAny_more (s : ByteArray) (i : Nat) (h : i < s.size) (ha : 128 ≤ (s[i]'h).toNat) (hn : NoAny s.data.toList [43, 35] i) : NoAny s.data.toList [43, 35] (i + (Utf8.decode s i).2) := by
  intro j b hj hb
  by_cases hji : j < i
  · exact hn j b hji hb
  · have hc := (decode_conts s i h ha).2 (j - i) (by omega)
    have hz := (decode_conts s i h ha).1
    rw [show i + (j - i) = j by omega] at hc
    have hjs : j < s.size := by omega
    have e : s.get! j = b := by
      have h1 := get_at s j hjs
      have h2 := Lib.data_getElem? s j hjs
      rw [hb] at h2
      injection h2 with h2
      rw [h2]
      exact h1
    rw [e] at hc
    exact sign_not b hc

theorem lt_of_some {α : Type} {a : Array α} {k : Nat} {x : α} (h : a[k]? = some x) : k < a.size := (Array.getElem?_eq_some_iff.1 h).1
theorem iter_below {w wx : World} (s : ByteArray) (h : Below w.heap.size w wx) (p : Nat) : Below w.heap.size w (wx.iterAt w.heap.size s p) :=
  ⟨h.os, h.tape, h.output, by rw [iterAt_size]; exact h.size, fun k hk => by rw [iterAt_other _ _ _ _ _ (by omega)]; exact h.block k hk⟩

set_option maxHeartbeats 8000000 in
set_option maxRecDepth 1000000 in
theorem indexAny_short (s : ByteArray) (w : World) (h8 : s.size ≤ 8) :
    Calls Tryd.prog 187 #[.string s, .string ⟨#[43, 35]⟩] w fun e w' => e = .returned (.int .i64 (Lib.indexAny s.data.toList [43, 35])) ∧ Below w.heap.size w w' := by
  have h8z : decide ((8 : Int) < (s.size : Int)) = false := decide_eq_false (by omega)
  go_enter Tryd.func187, Tryd.ntmps187
  go_wp2_with (go_at_call 200; refine (Tryd.strings_shouldUseASCIISet _ _).mono ?_; rintro e w' ⟨rfl, hw⟩; rw [hw, h8z])
  go_loopg [9, 10] s.size (fun g _ _ wx => ∃ i : Nat, i ≤ s.size ∧ s.size - i ≤ g ∧ (wx.heap[w.heap.size]? = some (.stringIter s i) ∧ Below w.heap.size w wx) ∧ Lib.NoAny s.data.toList [43, 35] i)
  case atStart => exact ⟨0, by omega, by omega, ⟨World.iter_heap _ _ _, (Below.refl _ _).alloc (Nat.le_refl _) _⟩, Lib.NoAny.zero _ _⟩
  case round =>
    obtain ⟨i, hil, hig, ⟨hk, hb⟩, hno⟩ := hrel
    have HN := Lib.hid hno
    have HB := Lib.hid hb
    clear hno hb
    by_cases hi : i < s.size
    · by_cases ha : (s[i]'hi).toNat < 128
      · obtain ⟨x, hx⟩ : ∃ x : UInt8, s[i]'hi = x := ⟨_, rfl⟩
        have hxl : s.data.toList[i]? = some x := by rw [← hx]; exact Lib.data_getElem? s i hi
        have hx128 : x.toNat < 128 := by rw [← hx]; exact ha
        have hnx := fun ty => run_next_ascii_at (P := Tryd.prog) wr w.heap.size s i ty hk hi (by rw [hx]; exact hx128)
        rw [hx] at hnx
        have HX := Lib.hid hxl
        clear hxl hx
        have hback : ((x.toNat : Int)).toNat.toUInt8 = x := by simp
        have hcon := Lib.contains_iff_indexByte [43, 35] x
        have HK := Lib.hid (iterAt_heap wr w.heap.size s i (i + 1) hk)
        have HB2 := Lib.hid (iter_below s HB.out (i + 1))
        generalize wr.iterAt w.heap.size s (i + 1) = wz at *
        cases hin : ([43, 35] : List UInt8).contains x
        · rw [hin] at hcon
          have hlt : ¬ ((0 : Int) ≤ Lib.indexByte [43, 35] x) := of_decide_eq_false hcon.symm
          clear hcon
          go_wp2_with (go_at_call 199; refine (Tryd.strings_IndexRune_ascii _ _ _ (by omega) (by omega)).mono ?_; rintro e w' ⟨rfl, hw⟩; rw [hw, hback])
          go_roundg (s.size - (i + 1))
          case measure => omega
          case rel => exact ⟨i + 1, by omega, by omega, ⟨HK.out, HB2.out⟩, HN.out.succ HX.out hin⟩
        · rw [hin] at hcon
          have hge : (0 : Int) ≤ Lib.indexByte [43, 35] x := of_decide_eq_true hcon.symm
          clear hcon
          go_wp2_with (go_at_call 199; refine (Tryd.strings_IndexRune_ascii _ _ _ (by omega) (by omega)).mono ?_; rintro e w' ⟨rfl, hw⟩; rw [hw, hback])
          go_ret
          exact ⟨by rw [Lib.indexAny_hit HN.out HX.out hin]; rfl, HB2.out⟩
      · have ha2 : 128 ≤ (s[i]'hi).toNat := by omega
        have HM := Lib.hid (noAny_more s i hi ha2 HN.out)
        have hz := (decode_conts s i hi ha2).1
        have hd := decode_high s i hi ha2
        have hnx := fun ty => run_next_any_at (P := Tryd.prog) wr w.heap.size s i ty hk hi
        have HK := Lib.hid (iterAt_heap wr w.heap.size s i (i + (Utf8.decode s i).2) hk)
        have HB2 := Lib.hid (iter_below s HB.out (i + (Utf8.decode s i).2))
        generalize wr.iterAt w.heap.size s (i + (Utf8.decode s i).2) = wz at *
        clear ha ha2
        generalize Utf8.decode s i = d at *
        obtain ⟨rn, wd⟩ := d
        simp only at hz hd hnx HK HM HB2
        obtain ⟨hd1, hd2⟩ := hd
        have hd3 : (128 : Int) ≤ (rn : Int) := by omega
        go_wp2_with (go_at_call 199; refine (rune_high _ _ hd3).mono ?_; rintro e wq ⟨rfl, hq⟩; have HK3 := Lib.hid ((hq.block _ (lt_of_some HK.out)).trans HK.out); have HB3 := Lib.hid (HB2.out.trans (hq.mono HB2.out.size)); clear hq)
        go_roundg (s.size - (i + wd))
        case measure => omega
        case rel => exact ⟨i + wd, by omega, by omega, ⟨HK3.out, HB3.out⟩, HM.out⟩
    · obtain rfl : i = s.size := by omega
      have hnx := fun ty => run_next_end_at (P := Tryd.prog) wr w.heap.size s s.size ty hk (by omega)
      go_wp2
      go_ret
      exact ⟨by rw [Lib.indexAny_none (by rw [← Lib.size_eq]; exact HN.out)]; rfl, HB.out⟩

theorem ascii_pm : ∀ (j : Nat) b, (⟨#[43, 35]⟩ : ByteArray).data.toList[j]? = some b → b.toNat < 128 := by
  intro j b h
  match j, h with
  | 0, h => injection h with h; subst h; decide
  | 1, h => injection h with h; subst h; decide
  | n + 2, h => simp at h

set_option maxRecDepth 100000 in
theorem indexAny_calls (s : ByteArray) (w : World) (hs : s.size ≤ 1000000) :
    Calls Tryd.prog 187 #[.string s, .string ⟨#[43, 35]⟩] w fun e w' => e = .returned (.int .i64 (Lib.indexAny s.data.toList [43, 35])) ∧ Below w.heap.size w w' := by
  by_cases h8 : s.size ≤ 8
  · exact indexAny_short s w h8
  · have h116 : (Tryd.prog.info? 240).map (fun i => (i.zero, i.size)) = some (some (.agg (Array.replicate 256 (.bool false))), 256) := by kernel_rfl
    refine (Tryd.strings_IndexAny_long (zero_of_info h116).1 s ⟨#[43, 35]⟩ w (by decide) (by omega) (by omega) (by decide) ascii_pm).mono fun e w' ⟨h1, h2⟩ => ⟨h1, ?_⟩
    rw [h2]
    exact ((Below.refl _ _).alloc (Nat.le_refl _) _).alloc (by simp) _

theorem hasSign_calls (l : List UInt8) (w : World) (hs : l.length ≤ 1000000) :
    Calls Tryd.prog 91 #[.string (str l)] w fun e w' => e = .returned (.bool (hasS l)) ∧ Below w.heap.size w w' := by
  have hi := indexAny_has l
  have hC : ∀ w, Calls Tryd.prog 154 #[.string (str l), .string ⟨#[43, 35]⟩] w fun e w' => e = .returned (.bool (hasS l)) ∧ Below w.heap.size w w' := fun w => by
    have c := indexAny_calls (str l) w (by rw [str_size]; exact hs)
    rw [str_data] at c
    generalize Lib.indexAny l [43, 35] = k at *
    go_enter Tryd.func154, Tryd.ntmps154
    go_wp2_with (go_at_call 187; refine c.mono ?_; rintro e w' ⟨rfl, hw⟩)
    go_ret
    exact ⟨rfl, hw⟩
  go_enter Tryd.func91, Tryd.ntmps91
  go_wp2_with (go_at_call 154; refine (hC _).mono ?_; rintro e w' ⟨rfl, hw⟩)
  go_ret
  exact ⟨rfl, hw⟩

#print axioms hasSign_calls
end Go.Proofs.YtephoadjnmmbnaaDoor
