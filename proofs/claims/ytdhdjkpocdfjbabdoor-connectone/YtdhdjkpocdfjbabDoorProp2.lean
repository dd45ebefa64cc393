/-
  Kinds and places of prop; the document's. (No statement: contracts that the proofs of the statements use.)
-/
import Derived.Test.YtdhdjkpocdfjbabDoorProp1
namespace Go.Proofs.YtdhdjkpocdfjbabDoor
open Go.RowKit

theorem ru_f0 (r : Ru) (w : World) : (Instr.field 124 (ruV r) 0).run Tryd.prog w = .ok (.int .i64 r.kind) w := by kernel_rfl
theorem ru_f1 (r : Ru) (w : World) : (Instr.field 124 (ruV r) 1).run Tryd.prog w = .ok (.int .i64 r.inn) w := by kernel_rfl

set_option maxRecDepth 100000 in
theorem kind3_calls (w : World) (i : Int) :
    Calls Tryd.prog 91 #[.int .i64 i] w fun e w' => e = .returned (.int .i64 (ruleL i).kind) ∧ Below w.heap.size w w' := by
  generalize hr : ruleL i = r
  have HR := Lib.hid hr
  clear hr
  have f0 := ru_f0 r
  go_enter Tryd.func91, Tryd.ntmps91
  go_wp2_with fail
  refine (rule_calls _ i).mono ?_
  rintro e w1 ⟨rfl, hb⟩
  rw [HR.out]
  have HB := Lib.hid hb
  clear hb HR
  go_wp2
  go_ret
  exact ⟨rfl, HB.out⟩

/-- A packet's bit; a will's. -/
def placeN (k : Int) (isW : Bool) : Int :=
  if isW = true then 1 else if k < 1 ∨ 15 < k then 0 else ((2 ^ k.toNat : Nat) : Int)

theorem kind_cases (k : Int) : (k = 1 ∨ k = 2 ∨ k = 3 ∨ k = 4 ∨ k = 5 ∨ k = 6 ∨ k = 7 ∨ k = 8 ∨ k = 9 ∨ k = 10 ∨ k = 11 ∨ k = 12 ∨ k = 13 ∨ k = 14 ∨ k = 15) ∨ k < 1 ∨ 15 < k := by omega

set_option maxHeartbeats 4000000 in
theorem place_calls (w : World) (k : Int) (isW : Bool) :
    Calls Tryd.prog 63 #[.int .i64 k, .bool isW] w fun e w' => e = .returned (.int .i64 (placeN k isW)) ∧ w = w' := by
  cases isW with
  | true =>
    go_enter Tryd.func63, Tryd.ntmps63
    go_wp2
    go_ret
    exact ⟨rfl, rfl⟩
  | false =>
    rcases kind_cases k with h | h | h
    · rcases h with rfl | rfl | rfl | rfl | rfl | rfl | rfl | rfl | rfl | rfl | rfl | rfl | rfl | rfl | rfl
      all_goals
        go_enter Tryd.func63, Tryd.ntmps63
        go_wp2
        go_ret
        exact ⟨rfl, rfl⟩
    · have e : placeN k false = 0 := by unfold placeN; rw [if_neg (by simp), if_pos (by omega)]
      rw [e]
      clear e
      go_enter Tryd.func63, Tryd.ntmps63
      go_wp2
      go_ret
      exact ⟨rfl, rfl⟩
    · have e : placeN k false = 0 := by unfold placeN; rw [if_neg (by simp), if_pos (by omega)]
      rw [e]
      have h1 : 1 ≤ k := by omega
      clear e
      go_enter Tryd.func63, Tryd.ntmps63
      go_wp2
      go_ret
      exact ⟨rfl, rfl⟩

/-- May a property be there? -/
def mayP (i k : Int) (isW : Bool) : Bool := bits .and .i64 (ruleL i).inn (placeN k isW) != 0

/-- The document's letters. -/
def whereL (i : Int) : List UInt8 :=
  if i = 1 ∨ i = 2 ∨ i = 3 ∨ i = 8 ∨ i = 9 then [80, 119]
  else if i = 11 then [80, 115]
  else if i = 17 then [67, 99, 100]
  else if i = 18 ∨ i = 19 ∨ i = 26 ∨ i = 36 ∨ i = 37 ∨ i = 40 ∨ i = 41 ∨ i = 42 then [99]
  else if i = 21 ∨ i = 22 then [67, 99, 97]
  else if i = 23 ∨ i = 25 then [67]
  else if i = 24 then [119]
  else if i = 28 then [99, 100]
  else if i = 31 then [99, 52, 53, 54, 55, 116, 118, 100, 97]
  else if i = 33 ∨ i = 34 ∨ i = 39 then [67, 99]
  else if i = 35 then [80]
  else if i = 38 then [67, 99, 80, 119, 52, 53, 54, 55, 115, 116, 117, 118, 100, 97]
  else []

theorem where_none (i : Int) (h : i ∉ idsL) : whereL i = [] := by
  simp only [idsL, List.mem_cons, List.not_mem_nil, or_false] at h
  unfold whereL
  rw [if_neg (by omega), if_neg (by omega), if_neg (by omega), if_neg (by omega), if_neg (by omega), if_neg (by omega), if_neg (by omega), if_neg (by omega), if_neg (by omega), if_neg (by omega), if_neg (by omega), if_neg (by omega)]

set_option maxHeartbeats 4000000 in
theorem where_calls (w : World) (i : Int) :
    Calls Tryd.prog 87 #[.int .i64 i] w fun e w' => e = .returned (.string (str (whereL i))) ∧ w = w' := by
  rcases ids_cases i with h | ⟨⟨h1, h2, h3, h8, h9, h11, h17, h18, h19, h21, h22, h23, h24, h25, h26, h28, h31, h33, h34, h35, h36, h37, h38, h39, h40, h41, h42⟩, h⟩
  · rcases h with rfl | rfl | rfl | rfl | rfl | rfl | rfl | rfl | rfl | rfl | rfl | rfl | rfl | rfl | rfl | rfl | rfl | rfl | rfl | rfl | rfl | rfl | rfl | rfl | rfl | rfl | rfl
    all_goals
      go_enter Tryd.func87, Tryd.ntmps87
      go_wp2
      go_ret
      exact ⟨rfl, rfl⟩
  · have e : whereL i = [] := by
      clear h
      simp only [beq_eq_false_iff_ne, ne_eq] at h1 h2 h3 h8 h9 h11 h17 h18 h19 h21 h22 h23 h24 h25 h26 h28 h31 h33 h34 h35 h36 h37 h38 h39 h40 h41 h42
      unfold whereL
      rw [if_neg (by omega), if_neg (by omega), if_neg (by omega), if_neg (by omega), if_neg (by omega), if_neg (by omega), if_neg (by omega), if_neg (by omega), if_neg (by omega), if_neg (by omega), if_neg (by omega), if_neg (by omega)]
    rw [e]
    clear e h
    go_enter Tryd.func87, Tryd.ntmps87
    go_wp2
    go_ret
    exact ⟨rfl, rfl⟩

set_option maxHeartbeats 4000000 in
theorem r3kind_calls (w : World) (i : Int) :
    Calls Tryd.prog 78 #[.int .i64 i] w fun e w' => e = .returned (.int .i64 (ruleL i).kind) ∧ w = w' := by
  rcases ids_cases i with h | ⟨⟨h1, h2, h3, h8, h9, h11, h17, h18, h19, h21, h22, h23, h24, h25, h26, h28, h31, h33, h34, h35, h36, h37, h38, h39, h40, h41, h42⟩, h⟩
  · rcases h with rfl | rfl | rfl | rfl | rfl | rfl | rfl | rfl | rfl | rfl | rfl | rfl | rfl | rfl | rfl | rfl | rfl | rfl | rfl | rfl | rfl | rfl | rfl | rfl | rfl | rfl | rfl
    all_goals
      go_enter Tryd.func78, Tryd.ntmps78
      go_wp2
      go_ret
      exact ⟨rfl, rfl⟩
  · rw [h]
    clear h
    go_enter Tryd.func78, Tryd.ntmps78
    go_wp2
    go_ret
    exact ⟨rfl, rfl⟩

/-- The letter of a packet. -/
def letterC (k : Int) (isW : Bool) : UInt8 :=
  if isW = true then 119
  else if k = 1 then 67
  else if k = 2 then 99
  else if k = 3 then 80
  else if k = 4 then 52
  else if k = 5 then 53
  else if k = 6 then 54
  else if k = 7 then 55
  else if k = 8 then 115
  else if k = 9 then 116
  else if k = 10 then 117
  else if k = 11 then 118
  else if k = 14 then 100
  else if k = 15 then 97
  else 45

set_option maxHeartbeats 4000000 in
theorem letter_calls (w : World) (k : Int) (isW : Bool) :
    Calls Tryd.prog 88 #[.int .i64 k, .bool isW] w fun e w' => e = .returned (.string (str [letterC k isW])) ∧ w = w' := by
  cases isW with
  | true =>
    go_enter Tryd.func88, Tryd.ntmps88
    go_wp2
    go_ret
    exact ⟨rfl, rfl⟩
  | false =>
    rcases kind_cases k with h | h | h
    · rcases h with rfl | rfl | rfl | rfl | rfl | rfl | rfl | rfl | rfl | rfl | rfl | rfl | rfl | rfl | rfl
      all_goals
        go_enter Tryd.func88, Tryd.ntmps88
        go_wp2
        go_ret
        exact ⟨rfl, rfl⟩
    · have e : letterC k false = 45 := by unfold letterC; rw [if_neg (by simp), if_neg (by omega), if_neg (by omega), if_neg (by omega), if_neg (by omega), if_neg (by omega), if_neg (by omega), if_neg (by omega), if_neg (by omega), if_neg (by omega), if_neg (by omega), if_neg (by omega), if_neg (by omega), if_neg (by omega)]
      rw [e]
      clear e
      go_enter Tryd.func88, Tryd.ntmps88
      go_wp2
      go_ret
      exact ⟨rfl, rfl⟩
    · have e : letterC k false = 45 := by unfold letterC; rw [if_neg (by simp), if_neg (by omega), if_neg (by omega), if_neg (by omega), if_neg (by omega), if_neg (by omega), if_neg (by omega), if_neg (by omega), if_neg (by omega), if_neg (by omega), if_neg (by omega), if_neg (by omega), if_neg (by omega), if_neg (by omega)]
      rw [e]
      have h1 : 1 ≤ k := by omega
      clear e
      go_enter Tryd.func88, Tryd.ntmps88
      go_wp2
      go_ret
      exact ⟨rfl, rfl⟩

#print axioms letter_calls
end Go.Proofs.YtdhdjkpocdfjbabDoor
