/-
  A Connect's flags. (No statement: contracts that the proofs of the statements use.)
-/
import Derived.Test.YtdhdjkpocdfjbabDoorProp14
import Derived.Laws.BitsAllLaws
import Derived.Deep.QuietTactic
import Derived.BigQuiet
namespace Go.Proofs.YtdhdjkpocdfjbabDoor
open Go.RowKit

theorem ret_bool {a b : Bool} (h : a = b) : Ending.returned (.bool a) = .returned (.bool b) := by rw [h]
theorem ret_int {k : IntKind} {a b : Int} (h : a = b) : Ending.returned (.int k a) = .returned (.int k b) := by rw [h]

/-- Is a flag there? -/
def flB (f m : Int) : Bool := bits .and .u8 f m != 0
/-- The two bits of the quality. -/
def quaN (f : Int) : Int := bits .and .u8 (f / 8) 3
/-- May the flags be? -/
def mayF (f : Int) : Bool := if flB f 1 = true then false else if flB f 4 = true then decide (quaN f ≤ 2) else (if quaN f = 0 then !(flB f 32) else false)

theorem flB_ne (f m : Int) : (bits .and .u8 f m != 0) = flB f m := rfl
theorem flB_eq (f m : Int) : (bits .and .u8 f m == 0) = !(flB f m) := by unfold flB; cases h : (bits .and .u8 f m == 0) <;> simp_all [bne]

theorem qua_range (f : Int) (h0 : 0 ≤ f) (h1 : f < 256) : 0 ≤ quaN f ∧ quaN f ≤ 3 := by
  have key : ∀ k : Fin 256, 0 ≤ quaN (k.val : Int) ∧ quaN (k.val : Int) ≤ 3 := by decide +kernel
  obtain ⟨n, rfl⟩ := Int.eq_ofNat_of_zero_le h0
  exact key ⟨n, by omega⟩

theorem bit_calls (w : World) (b : Bool) (n : Int) :
    Calls Tryd.prog 54 #[.bool b, .int .u8 n] w fun e w' => e = .returned (.int .u8 (if b = true then n else 0)) ∧ w' = w := by
  cases b
  all_goals
    go_enter Tryd.func54, Tryd.ntmps54
    go_wp2
    go_ret
    exact ⟨rfl, rfl⟩

theorem qual_calls (w : World) (f : Int) (_h0 : 0 ≤ f) (_h1 : f < 256) :
    Calls Tryd.prog 57 #[.int .u8 f] w fun e w' => e = .returned (.int .u8 (quaN f)) ∧ w = w' := by
  have hq : bits .and .u8 (f / 8) 3 = quaN f := rfl
  go_enter Tryd.func57, Tryd.ntmps57
  go_wp2
  go_ret
  exact ⟨rfl, rfl⟩

set_option maxHeartbeats 1000000 in
theorem maybe_calls (w : World) (f : Int) (h0 : 0 ≤ f) (h1 : f < 256) :
    Calls Tryd.prog 56 #[.int .u8 f] w fun e w' => e = .returned (.bool (mayF f)) ∧ w = w' := by
  have e1 := flB_ne f 1
  have e4 := flB_eq f 4
  have e32 := flB_eq f 32
  have hq := qua_range f h0 h1
  obtain ⟨hq0, hq3⟩ := hq
  have HQ := Lib.hid (qual_calls w f h0 h1)
  unfold mayF
  generalize flB f 1 = b1 at *
  generalize flB f 4 = b4 at *
  generalize flB f 32 = b32 at *
  generalize quaN f = q at *
  cases b1
  · rw [if_neg (by simp)]
    cases b4
    · rw [if_neg (by simp)]
      by_cases hz : q = 0
      · subst hz
        rw [if_pos rfl]
        cases b32
        all_goals
          go_enter Tryd.func56, Tryd.ntmps56
          go_wp2_with fail
          refine HQ.out.mono ?_
          rintro e w1 ⟨rfl, rfl⟩
          go_wp2
          go_ret
          exact ⟨rfl, rfl⟩
      · rw [if_neg hz]
        have hzb : (q == 0) = false := by simpa using hz
        go_enter Tryd.func56, Tryd.ntmps56
        go_wp2_with fail
        refine HQ.out.mono ?_
        rintro e w1 ⟨rfl, rfl⟩
        go_wp2
        go_ret
        exact ⟨rfl, rfl⟩
    · rw [if_pos rfl]
      go_enter Tryd.func56, Tryd.ntmps56
      go_wp2_with fail
      refine HQ.out.mono ?_
      rintro e w1 ⟨rfl, rfl⟩
      go_wp2
      go_ret
      exact ⟨rfl, rfl⟩
  · rw [if_pos rfl]
    go_enter Tryd.func56, Tryd.ntmps56
    go_wp2
    go_ret
    exact ⟨rfl, rfl⟩

#print axioms maybe_calls
end Go.Proofs.YtdhdjkpocdfjbabDoor
