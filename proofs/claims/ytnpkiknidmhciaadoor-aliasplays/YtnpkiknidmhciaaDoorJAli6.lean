/-
  The document's aliases: Get. (No statement: contracts that the proofs of the statements use.)
-/
import Derived.Test.YtnpkiknidmhciaaDoorJAlias
import Derived.Test.YtnpkiknidmhciaaDoorJRt2
namespace Go.Proofs.YtnpkiknidmhciaaDoor
open Go.RowKit Go.Maps

/-- A list of aliases, each with what it stands for. -/
def OnesAt (W : World) (v : Value) (L : List (Int × List UInt8)) : Prop :=
  ∃ A cap, v = .slice A L.length cap ∧ L.length ≤ cap ∧ ∀ (i : Nat) (x : Int × List UInt8), L[i]? = some x → ∃ b off, A = some ⟨b, off, none⟩ ∧ b < W.heap.size ∧ W.cell? ⟨b, off + i * 2, none⟩ = some (.int .u32 x.1) ∧ W.cell? ⟨b, off + i * 2 + 1, none⟩ = some (.string (str x.2))
theorem OnesAt.below {W W' : World} {v : Value} {L : List (Int × List UInt8)} (h : OnesAt W v L) (hb : Below W.heap.size W W') : OnesAt W' v L := by
  obtain ⟨A, cap, rfl, hl, hc⟩ := h
  refine ⟨A, cap, rfl, hl, fun i x hx => ?_⟩
  obtain ⟨b, off, hA, hbl, c0, c1⟩ := hc i x hx
  exact ⟨b, off, hA, Nat.lt_of_lt_of_le hbl hb.size, (hb.cell (p := ⟨b, _, none⟩) hbl).trans c0, (hb.cell (p := ⟨b, _, none⟩) hbl).trans c1⟩
theorem OnesAt.nil (W : World) : OnesAt W (.slice none 0 0) [] := ⟨none, 0, rfl, Nat.le_refl _, fun i x hx => by simp at hx⟩

theorem getL_take (L : List (Int × List UInt8)) (k : Nat) (hk : k < L.length) (n : Int) : getL (L.take (k + 1)) n = if L[k].1 = n then some L[k].2 else getL (L.take k) n := by
  rw [List.take_succ_eq_append_getElem hk]
  have : L[k] = (L[k].1, L[k].2) := rfl
  rw [this, getL_snoc]

set_option maxRecDepth 100000 in
set_option maxHeartbeats 1000000 in
theorem r17get_calls (w : World) (v : Value) (L : List (Int × List UInt8)) (n : Int) (hL : OnesAt w v L) (hn : L.length ≤ 1000000) :
    Calls Tryd.prog 21 #[v, .int .u32 n] w fun e w' => e = .returned (.tuple #[.string (str ((getL L n).getD [])), .bool (getL L n).isSome]) ∧ Below w.heap.size w w' := by
  obtain ⟨A, cap, rfl, _, hc⟩ := hL
  have HC := Lib.hid hc
  clear hc
  go_enter Tryd.func21, Tryd.ntmps21
  go_wp2
  go_loopw [6, 7, 12] (fun s b j wr => ∃ k : Nat, k ≤ L.length ∧ j = .int .i64 k ∧ s = .string (str ((getL (L.take k) n).getD [])) ∧ b = .bool (getL (L.take k) n).isSome ∧ Below w.heap.size w wr) (fun _ _ j _ => L.length - (intOf j).toNat)
  case atStart => exact ⟨0, by omega, rfl, rfl, rfl, Below.refl _ _⟩
  case round =>
    obtain ⟨k, hk, rfl, rfl, rfl, hb⟩ := hrel
    have HB := Lib.hid hb
    clear hb
    by_cases hlt : k < L.length
    · obtain ⟨b, off, hA, hbl, c0, c1⟩ := HC.out k _ (List.getElem?_eq_getElem hlt)
      subst hA
      have d0 := (HB.out.cell (p := ⟨b, off + k * 2, none⟩) hbl).trans c0
      have d1 := (HB.out.cell (p := ⟨b, off + k * 2 + 1, none⟩) hbl).trans c1
      have hg := getL_take L k hlt n
      have HB2 := Lib.hid (HB.out.alloc HB.out.size (.cells #[.int .u32 L[k].1, .string (str L[k].2)] 44))
      clear c0 c1 HB
      by_cases he : L[k].1 = n
      · rw [if_pos he] at hg
        have HG := Lib.hid hg
        clear hg
        generalize L[k].2 = s at *
        generalize (getL (L.take k) n).getD [] = s0 at *
        generalize (getL (L.take k) n).isSome = b0 at *
        rw [he] at d0 HB2
        go_wp2
        go_roundw
        case rel => exact ⟨k + 1, by omega, by go_num, by rw [HG.out]; rfl, by rw [HG.out]; rfl, HB2.out⟩
        case measure => simp [intOf]; omega
      · rw [if_neg he] at hg
        have HG := Lib.hid hg
        clear hg
        generalize L[k].2 = s at *
        generalize L[k].1 = m at *
        generalize hs0 : (getL (L.take k) n).getD [] = s0 at *
        generalize hb0 : (getL (L.take k) n).isSome = b0 at *
        have HS0 := Lib.hid hs0
        have HB0 := Lib.hid hb0
        clear hs0 hb0
        go_wp2
        go_roundw
        case rel => exact ⟨k + 1, by omega, by go_num, by rw [HG.out, HS0.out], by rw [HG.out, HB0.out], HB2.out⟩
        case measure => simp [intOf]; omega
    · obtain rfl : k = L.length := by omega
      rw [List.take_length]
      generalize hs0 : (getL L n).getD [] = s0
      generalize hb0 : (getL L n).isSome = b0
      have HS0 := Lib.hid hs0
      have HB0 := Lib.hid hb0
      clear hs0 hb0
      go_wp2
      go_ret2
      rw [HS0.out, HB0.out]
      exact ⟨rfl, HB.out⟩

#print axioms r17get_calls
end Go.Proofs.YtnpkiknidmhciaaDoor
