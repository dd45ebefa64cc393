/-
  The answers that the statements through the layers ask for first. (No statement.)
-/
import Derived.Test.YtbdpccfkgekdaaaDoorJTop5
import Derived.Test.YtbdpccfkgekdaaaDoorJPropsA
import Derived.Test.YtbdpccfkgekdaaaDoorJReason
import Derived.ProofKit
namespace Go.Proofs.YtbdpccfkgekdaaaDoor
open Go.ChangeShapes Go.WideShapes Go.ChangeAt Go.RowKit Go.Lib
set_option linter.unusedVariables false

theorem lv1 : sgn ⟨#[195, 169]⟩ = (233, 2) := by decide +kernel
theorem lv2 : varb 3 321 = [193, 2] := by decide +kernel
theorem lv3 : (ruleL 38).kind = 7 := by decide +kernel
theorem lv4 : ofN 3 = 130 := by decide +kernel
theorem lv5 : matchB [97, 47, 43] [97, 47, 98] = true := by decide +kernel
theorem lv6 : matchB [35] [36, 120] = false := by decide +kernel

set_option maxHeartbeats 2000000 in
set_option maxRecDepth 100000 in
theorem live_calls (w : World) (hT : T10 w) : Calls Tryd.prog 23 #[] w fun e w' => e = .returned (.bool true) ∧ Below w.heap.size w w' := by
  have HT := Lib.hid hT
  clear hT
  have c1 := fun w (h : Tabs w) => sign_calls w ⟨#[195, 169]⟩ h
  rw [lv1] at c1
  have c3 := fun w => kind3_calls w 38
  rw [lv3] at c3
  have c4 := fun w => of_calls w 3
  rw [lv4] at c4
  have c5 := fun w (h : T10 w) => match_calls w [97, 47, 43] [97, 47, 98] (by decide) (by decide) h
  rw [lv5] at c5
  have c6 := fun w (h : T10 w) => match_calls w [35] [36, 120] (by decide) (by decide) h
  rw [lv6] at c6
  have e1 : (str [193, 2]).toList = [193, 2] := str_list _
  go_enter Tryd.func23, Tryd.ntmps23
  have g0 := (Below.refl w.heap.size w).alloc (Nat.le_refl _) (.cells #[.slice none 0 0] 35)
  have o0 := OutAt.new w
  have hz : Hid (w.heap.size < (w.alloc (.cells #[.slice none 0 0] 35)).heap.size) := by unfold Hid; simp
  go_wp2_with fail
  refine (c1 _ (HT.out.below g0).tabs).mono ?_
  rintro e v1 ⟨rfl, b1⟩
  have g1 := g0.trans (b1.mono (Nat.le_of_lt hz.out))
  have o1 := o0.below b1
  clear b1 o0 g0
  go_wp2_with fail
  refine (var_calls _ w.heap.size none [] 321 (by decide) (by decide) o1 (by decide)).mono ?_
  rintro e v2 ⟨rfl, r2, o2, s2⟩
  rw [show ([] ++ varb 3 (321 : Int).toNat) = [193, 2] from lv2] at o2
  have g2 := g1.trans (s2.below g1.size (Nat.le_refl _) (fun g hg => by cases hg))
  clear g1 o1 s2
  go_wp2_with fail
  refine (text_calls _ w.heap.size r2 _ o2).mono ?_
  rintro e v3 ⟨rfl, rfl⟩
  clear o2
  go_wp2_with fail
  refine (c3 _).mono ?_
  rintro e v4 ⟨rfl, b⟩
  have g4 := g2.trans (b.mono g2.size)
  clear b g2
  go_wp2_with fail
  refine (c4 _).mono ?_
  rintro e v5 ⟨rfl, rfl⟩
  go_wp2_with fail
  refine (c5 _ (HT.out.below g4)).mono ?_
  rintro e v6 ⟨rfl, b⟩
  have g6 := g4.trans (b.mono g4.size)
  clear b g4
  go_wp2_with fail
  refine (c6 _ (HT.out.below g6)).mono ?_
  rintro e v7 ⟨rfl, b⟩
  have g7 := g6.trans (b.mono g6.size)
  clear b g6
  go_wp2
  go_ret
  exact ⟨rfl, g7⟩
#print axioms live_calls
end Go.Proofs.YtbdpccfkgekdaaaDoor
