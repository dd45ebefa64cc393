/-
  Levels, names. (No statement: contracts that the proofs of the statements use.)
-/
import Derived.Test.YtephoadjnmmbnaaDoorJTop2
import Derived.Test.YtephoadjnmmbnaaDoorJWords
namespace Go.Proofs.YtephoadjnmmbnaaDoor
open Go.RowKit Go.Lib

/-- The library's tables, and its number of bytes up to which it looks by itself. -/
structure T10 (w : World) : Prop where
  tabs : Tabs w
  most : ∃ m, w.cell? ⟨Tryd.lays146_ren.g 1, 0, none⟩ = some (.int .i64 m)
theorem T10.below {w w' : World} (h : T10 w) (hb : Below w.heap.size w w') : T10 w' := by
  obtain ⟨h1, m, h2⟩ := h
  refine ⟨h1.below hb, m, ?_⟩
  rw [World.cell?_of_block (w := w) (hb.block _ (World.block_lt_of_cell? w _ h2))]
  exact h2

theorem _root_.Go.RowKit.Below.drewN' {B : Nat} {a w : World} (h : Below B a w) (n : Nat) : Below B a (w.drewN n) := ⟨h.os, h.tape, h.output, h.size, h.block⟩

/-- Texts that lie in a row of their own. -/
def LevAt (w : World) (p : Nat) (ls : List (List UInt8)) : Prop := ∀ j x, ls[j]? = some x → w.cell? ⟨p, j, none⟩ = some (.string (str x))
theorem LevAt.below {w w' : World} {p B : Nat} {ls : List (List UInt8)} (h : LevAt w p ls) (hb : Below B w w') (hp : p < B) : LevAt w' p ls := fun j x hj => by
  rw [World.cell?_of_block (w := w) (hb.block _ hp)]
  exact h j x hj

theorem split_map (l : List UInt8) : splitB ⟨#[47]⟩ 0 (countB (str l) ⟨#[47]⟩) (str l) = (lev l).map str := by
  have h := splitB_data ⟨#[47]⟩ 0 (countB (str l) ⟨#[47]⟩) (str l)
  rw [show (⟨#[47]⟩ : ByteArray).data.toList = [47] from rfl, str_data, splitK_lev l _ (by
    show l.count 47 ≤ Lib.count (str l).data.toList [47]
    rw [str_data, count_slash]; exact Nat.le_refl _)] at h
  rw [← h, List.map_map]
  conv => lhs; rw [← List.map_id (splitB _ _ _ _)]
  exact List.map_congr_left fun x _ => ba_str x

set_option maxHeartbeats 1000000 in
theorem levels_calls (w : World) (l : List UInt8) (hl : l.length ≤ 1000000) (hT : T10 w) :
    Calls Tryd.prog 18 #[.string (str l)] w fun e w' => e = .returned (.slice (some ⟨w.heap.size, 0, none⟩) (lev l).length (lev l).length) ∧ LevAt w' w.heap.size (lev l) ∧ Below w.heap.size w w' ∧ w.heap.size < w'.heap.size := by
  obtain ⟨m, hm⟩ := hT.most
  have c := Tryd.strings_Split (str l) ⟨#[47]⟩ m w (by rw [str_size]; omega) hm (by decide)
  rw [split_map] at c
  have hc : countB (str l) ⟨#[47]⟩ + 1 = (lev l).length := by
    rw [lev_length]
    show Lib.count (str l).data.toList [47] + 1 = _
    rw [str_data, count_slash]
  rw [hc] at c
  clear hc hm
  generalize hn : (lev l).length = n at *
  go_enter Tryd.func18, Tryd.ntmps18
  go_wp2_with (go_at_call 89; refine c.mono ?_; rintro e w' ⟨rfl, hw⟩; rw [hw])
  go_ret
  refine ⟨rfl, fun j x hj => ?_, (Below.refl _ _).alloc (Nat.le_refl _) _, by simp⟩
  rw [World.cell?_alloc_at _ _ _ _ rfl]
  simp [hj]

/-- What a name and a filter have to be. -/
def mayT (l : List UInt8) : Bool := decide (l ≠ []) && (goodB (str l) && decide (l.count 47 < 32))
def nameB (l : List UInt8) : Bool := mayT l && !hasS l

theorem empty_str (l : List UInt8) : (str l).toList.isEmpty = decide (l = []) := by
  rw [str_list]
  cases l <;> simp

theorem str_maxLen (l : List UInt8) (hl : l.length ≤ 1000000) : (str l).size ≤ maxLen := by rw [str_size]; unfold maxLen; omega

set_option maxHeartbeats 1000000 in
theorem mayBe_calls (w : World) (l : List UInt8) (hl : l.length ≤ 1000000) (hT : T10 w) :
    Calls Tryd.prog 90 #[.string (str l)] w fun e w' => e = .returned (.bool (mayT l)) ∧ Below w.heap.size w w' := by
  have hz := str_maxLen l hl
  have hem := empty_str l
  by_cases h0 : l = []
  · have e : mayT l = false := by simp [mayT, h0]
    rw [e]
    rw [decide_eq_true h0] at hem
    clear h0 e hl hz hT
    generalize str l = s at *
    go_enter Tryd.func90, Tryd.ntmps90
    go_wp2
    go_ret
    exact ⟨rfl, Below.refl _ _⟩
  · rw [decide_eq_false h0] at hem
    cases hg : goodB (str l) with
    | false =>
      have e : mayT l = false := by simp [mayT, hg]
      rw [e]
      have c := good_calls w (str l) hz hT.tabs
      rw [hg] at c
      go_enter Tryd.func90, Tryd.ntmps90
      go_wp2_with (go_at_call 150; refine c.mono ?_; rintro e w' ⟨rfl, hw⟩)
      go_ret
      exact ⟨rfl, hw⟩
    | true =>
      have e : mayT l = decide (l.count 47 < 32) := by simp [mayT, hg, h0]
      rw [e]
      have c := good_calls w (str l) hz hT.tabs
      rw [hg] at c
      have c2 := fun w => Tryd.strings_Count_one (str l) 47 w
      rw [str_data] at c2
      unfold Lib.countByte at c2
      generalize l.count 47 = n at *
      clear e hl hz hT
      have hd : decide ((n : Int) < 32) = decide (n < 32) := by by_cases h : n < 32 <;> simp [h] <;> omega
      go_enter Tryd.func90, Tryd.ntmps90
      go_wp2_with (first
        | (go_at_call 150; refine c.mono ?_; rintro e w1 ⟨rfl, hw⟩)
        | (go_at_call 153; refine (c2 _).mono ?_; rintro e w' ⟨rfl, hw2⟩; rw [hw2]))
      go_ret
      exact ⟨rfl, hw⟩

set_option maxHeartbeats 1000000 in
theorem name_calls (w : World) (l : List UInt8) (hl : l.length ≤ 1000000) (hT : T10 w) :
    Calls Tryd.prog 20 #[.string (str l)] w fun e w' => e = .returned (.bool (nameB l)) ∧ Below w.heap.size w w' := by
  have c := mayBe_calls w l hl hT
  have c2 := fun w => hasSign_calls l w hl
  unfold nameB
  cases hm : mayT l with
  | false =>
    rw [hm] at c
    rw [Bool.false_and]
    go_enter Tryd.func20, Tryd.ntmps20
    go_wp2_with (go_at_call 90; refine c.mono ?_; rintro e w' ⟨rfl, hw⟩)
    go_ret
    exact ⟨rfl, hw⟩
  | true =>
    rw [hm] at c
    rw [Bool.true_and]
    generalize hasS l = b at *
    go_enter Tryd.func20, Tryd.ntmps20
    go_wp2_with (first
      | (go_at_call 90; refine c.mono ?_; rintro e w1 ⟨rfl, hw⟩)
      | (go_at_call 91; refine (c2 _).mono ?_; rintro e w2 ⟨rfl, hw2⟩; have HW := Lib.hid (hw.trans (hw2.mono hw.size)); clear hw hw2))
    go_ret
    exact ⟨rfl, HW.out⟩

/-- May it be a group? -/
def grpB (l : List UInt8) : Bool := decide (l ≠ []) && (goodB (str l) && !hasS l)
set_option maxHeartbeats 1000000 in
theorem isGroup_calls (w : World) (l : List UInt8) (hl : l.length ≤ 1000000) (hT : T10 w) :
    Calls Tryd.prog 86 #[.string (str l)] w fun e w' => e = .returned (.bool (grpB l)) ∧ Below w.heap.size w w' := by
  have hz := str_maxLen l hl
  have hem := empty_str l
  by_cases h0 : l = []
  · have e : grpB l = false := by simp [grpB, h0]
    rw [e]
    rw [decide_eq_true h0] at hem
    clear h0 e hl hz hT
    generalize str l = s at *
    go_enter Tryd.func86, Tryd.ntmps86
    go_wp2
    go_ret
    exact ⟨rfl, Below.refl _ _⟩
  · rw [decide_eq_false h0] at hem
    have c := good_calls w (str l) hz hT.tabs
    cases hg : goodB (str l) with
    | false =>
      have e : grpB l = false := by simp [grpB, hg]
      rw [e]
      rw [hg] at c
      go_enter Tryd.func86, Tryd.ntmps86
      go_wp2_with (go_at_call 150; refine c.mono ?_; rintro e w' ⟨rfl, hw⟩)
      go_ret
      exact ⟨rfl, hw⟩
    | true =>
      have e : grpB l = !hasS l := by simp [grpB, hg, h0]
      rw [e]
      rw [hg] at c
      have c2 := fun w => hasSign_calls l w hl
      generalize hasS l = b at *
      clear e
      go_enter Tryd.func86, Tryd.ntmps86
      go_wp2_with (first
        | (go_at_call 150; refine c.mono ?_; rintro e w1 ⟨rfl, hw⟩)
        | (go_at_call 91; refine (c2 _).mono ?_; rintro e w2 ⟨rfl, hw2⟩; have HW := Lib.hid (hw.trans (hw2.mono hw.size)); clear hw hw2))
      go_ret
      exact ⟨rfl, HW.out⟩

theorem hidden_calls (w : World) (l : List UInt8) : Calls Tryd.prog 24 #[.string (str l)] w fun e w' => e = .returned (.bool (hidB l)) ∧ w' = w := by
  have c := fun w => Tryd.strings_HasPrefix (str l) ⟨#[36]⟩ w
  rw [str_data] at c
  unfold Lib.hasPrefix at c
  change ∀ w, Calls Tryd.prog _ _ w fun e w' => e = .returned (.bool (hidB l)) ∧ w' = w at c
  generalize hidB l = b at *
  go_enter Tryd.func24, Tryd.ntmps24
  go_wp2_with (go_at_call 93; refine (c _).mono ?_; rintro e w1 ⟨rfl, hw⟩; rw [hw])
  go_ret
  exact ⟨rfl, rfl⟩

theorem isSign_calls (w : World) (x : List UInt8) : Calls Tryd.prog 94 #[.string (str x)] w fun e w' => e = .returned (.bool (sgnL x)) ∧ w' = w := by
  have e1 : (str x).toList = x := str_list x
  unfold sgnL
  generalize str x = s at *
  by_cases h : x = [43]
  · subst h
    go_enter Tryd.func94, Tryd.ntmps94
    go_wp2
    go_ret
    exact ⟨rfl, rfl⟩
  · have e2 : (x == [43]) = false := beq_eq_false_iff_ne.2 h
    rw [e2, Bool.false_or]
    go_enter Tryd.func94, Tryd.ntmps94
    go_wp2
    go_ret
    exact ⟨rfl, rfl⟩

#print axioms mayBe_calls
end Go.Proofs.YtephoadjnmmbnaaDoor
