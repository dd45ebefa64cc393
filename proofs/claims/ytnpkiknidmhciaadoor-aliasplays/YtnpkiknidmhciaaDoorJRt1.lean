/-
  The document's layer 10: name, filter, shared filters; the law's same. (No statement: contracts that the proofs of the statements use.)
-/
import Derived.Test.YtnpkiknidmhciaaDoorJRt0
import Derived.Test.YtnpkiknidmhciaaDoorJTopics
namespace Go.Proofs.YtnpkiknidmhciaaDoor
open Go.RowKit Go.Lib

set_option maxHeartbeats 1000000 in
theorem r10text_calls (w : World) (l : List UInt8) (hl : l.length ≤ 70000) :
    Calls Tryd.prog 111 #[.string (str l)] w fun e w' => e = .returned (.bool (mayT l)) ∧ Below w.heap.size w w' := by
  have hem := empty_str l
  by_cases h0 : l = []
  · have e : mayT l = false := by simp [mayT, h0]
    rw [e]
    rw [decide_eq_true h0] at hem
    clear h0 e hl
    generalize str l = s at *
    go_enter Tryd.func111, Tryd.ntmps111
    go_wp2
    go_ret
    exact ⟨rfl, Below.refl _ _⟩
  · rw [decide_eq_false h0] at hem
    have c := r2good_calls w l hl
    cases hg : goodB (str l) with
    | false =>
      have e : mayT l = false := by simp [mayT, hg]
      rw [e]
      rw [hg] at c
      go_enter Tryd.func111, Tryd.ntmps111
      go_wp2_with (go_at_call 122; refine c.mono ?_; rintro e w' ⟨rfl, hw⟩)
      go_ret
      exact ⟨rfl, hw⟩
    | true =>
      have e : mayT l = decide ((lev l).length ≤ 32) := by rw [lev_length]; simp only [mayT, hg, Bool.true_and, decide_eq_true h0]; apply decide_eq_decide.2; omega
      rw [e]
      rw [hg] at c
      have c2 := fun w => r10levels_calls w l hl
      clear e
      generalize lev l = ls at *
      have hd : decide ((ls.length : Int) ≤ 32) = decide (ls.length ≤ 32) := by by_cases h : ls.length ≤ 32 <;> simp [h] <;> omega
      go_enter Tryd.func111, Tryd.ntmps111
      go_wp2_with (first
        | (go_at_call 122; refine c.mono ?_; rintro e w1 ⟨rfl, hw⟩)
        | (go_at_call 140; refine (c2 _).mono ?_; rintro e w' ⟨g, cap, rfl, _, _, _, hw2⟩; have HW := Lib.hid (hw.trans (hw2.mono hw.size)); clear hw hw2))
      go_ret
      exact ⟨rfl, HW.out⟩

set_option maxHeartbeats 1000000 in
theorem r10name_calls (w : World) (l : List UInt8) (hl : l.length ≤ 70000) :
    Calls Tryd.prog 66 #[.string (str l)] w fun e w' => e = .returned (.bool (nameB l)) ∧ Below w.heap.size w w' := by
  have c := r10text_calls w l hl
  have c2 := fun w => r10signs_calls w l hl
  unfold nameB
  cases hm : mayT l with
  | false =>
    rw [hm] at c
    rw [Bool.false_and]
    go_enter Tryd.func66, Tryd.ntmps66
    go_wp2_with (go_at_call 111; refine c.mono ?_; rintro e w' ⟨rfl, hw⟩)
    go_ret
    exact ⟨rfl, hw⟩
  | true =>
    rw [hm] at c
    rw [Bool.true_and]
    generalize hasS l = b at *
    go_enter Tryd.func66, Tryd.ntmps66
    go_wp2_with (first
      | (go_at_call 111; refine c.mono ?_; rintro e w1 ⟨rfl, hw⟩)
      | (go_at_call 112; refine (c2 _).mono ?_; rintro e w2 ⟨rfl, hw2⟩; rw [hw2]; clear hw2))
    go_ret
    exact ⟨rfl, hw⟩

/-- What holds in the document's Filter's loop. -/
structure FilJ10 (w : World) (p : Nat) (ls : List (List UInt8)) (M : Bool) (k : Nat) (wr : World) : Prop where
  lv : LevAt wr p ls
  pl : p < wr.heap.size
  be : Below w.heap.size w wr
  eq : M = (filtR (ls.drop k))
theorem FilJ10.next {w wr : World} {p : Nat} {ls : List (List UInt8)} {M : Bool} {k : Nat} {x : List UInt8} (h : FilJ10 w p ls M k wr) (hx : ls[k]? = some x) (ht : ((x == [43] || (x == [35] && (ls.drop (k + 1)).isEmpty)) || !hasS x) = true) : FilJ10 w p ls M (k + 1) wr :=
  ⟨h.lv, h.pl, h.be, by rw [h.eq, drop_at hx, filtR_step, ht, Bool.true_and]⟩

end Go.Proofs.YtnpkiknidmhciaaDoor
