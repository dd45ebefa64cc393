/-
  Several texts, one behind the other. (No statement: contracts that the proofs of the statements use.)
-/
import Derived.Test.YtbdpccfkgekdaaaDoorJWords
import Derived.Test.YtbdpccfkgekdaaaDoorJBase
import Derived.Deep.QuietTactic
import Derived.BigQuiet
import Derived.IntWalk
namespace Go.Proofs.YtbdpccfkgekdaaaDoor
open Go.RowKit

/-- A rule. -/
structure Ru where
  kind : Int
  inn : Int
  sev : Int
  least : Int
  most : Int

/-- The rule of an identifier, as the document's table has it. -/
def ruleL (i : Int) : Ru :=
  if i = 1 then ⟨1, 9, 0, 0, 1⟩
  else if i = 2 then ⟨3, 9, 0, 0, 4294967295⟩
  else if i = 3 ∨ i = 8 then ⟨5, 9, 0, 0, 0⟩
  else if i = 9 then ⟨6, 9, 0, 0, 0⟩
  else if i = 11 then ⟨4, 264, 8, 1, 268435455⟩
  else if i = 17 then ⟨3, 16390, 0, 0, 4294967295⟩
  else if i = 18 ∨ i = 26 then ⟨5, 4, 0, 0, 0⟩
  else if i = 19 then ⟨2, 4, 0, 0, 65535⟩
  else if i = 21 then ⟨5, 32774, 0, 0, 0⟩
  else if i = 22 then ⟨6, 32774, 0, 0, 0⟩
  else if i = 23 ∨ i = 25 then ⟨1, 2, 0, 0, 1⟩
  else if i = 24 then ⟨3, 1, 0, 0, 4294967295⟩
  else if i = 28 then ⟨5, 16388, 0, 0, 0⟩
  else if i = 31 then ⟨5, 51956, 0, 0, 0⟩
  else if i = 33 then ⟨2, 6, 0, 1, 65535⟩
  else if i = 34 then ⟨2, 6, 0, 0, 65535⟩
  else if i = 35 then ⟨2, 8, 0, 0, 65535⟩
  else if i = 36 ∨ i = 37 ∨ i = 40 ∨ i = 41 ∨ i = 42 then ⟨1, 4, 0, 0, 1⟩
  else if i = 38 then ⟨7, 53247, 53247, 0, 0⟩
  else if i = 39 then ⟨3, 6, 0, 1, 4294967295⟩
  else ⟨0, 0, 0, 0, 0⟩

/-- The identifiers that there are. -/
def idsL : List Int := [1, 2, 3, 8, 9, 11, 17, 18, 19, 21, 22, 23, 24, 25, 26, 28, 31, 33, 34, 35, 36, 37, 38, 39, 40, 41, 42]

theorem ids_cases (i : Int) : (i = 1 ∨ i = 2 ∨ i = 3 ∨ i = 8 ∨ i = 9 ∨ i = 11 ∨ i = 17 ∨ i = 18 ∨ i = 19 ∨ i = 21 ∨ i = 22 ∨ i = 23 ∨ i = 24 ∨ i = 25 ∨ i = 26 ∨ i = 28 ∨ i = 31 ∨ i = 33 ∨ i = 34 ∨ i = 35 ∨ i = 36 ∨ i = 37 ∨ i = 38 ∨ i = 39 ∨ i = 40 ∨ i = 41 ∨ i = 42) ∨ (((i == 1) = false ∧ (i == 2) = false ∧ (i == 3) = false ∧ (i == 8) = false ∧ (i == 9) = false ∧ (i == 11) = false ∧ (i == 17) = false ∧ (i == 18) = false ∧ (i == 19) = false ∧ (i == 21) = false ∧ (i == 22) = false ∧ (i == 23) = false ∧ (i == 24) = false ∧ (i == 25) = false ∧ (i == 26) = false ∧ (i == 28) = false ∧ (i == 31) = false ∧ (i == 33) = false ∧ (i == 34) = false ∧ (i == 35) = false ∧ (i == 36) = false ∧ (i == 37) = false ∧ (i == 38) = false ∧ (i == 39) = false ∧ (i == 40) = false ∧ (i == 41) = false ∧ (i == 42) = false) ∧ ruleL i = ⟨0, 0, 0, 0, 0⟩) := by
  by_cases h : i = 1 ∨ i = 2 ∨ i = 3 ∨ i = 8 ∨ i = 9 ∨ i = 11 ∨ i = 17 ∨ i = 18 ∨ i = 19 ∨ i = 21 ∨ i = 22 ∨ i = 23 ∨ i = 24 ∨ i = 25 ∨ i = 26 ∨ i = 28 ∨ i = 31 ∨ i = 33 ∨ i = 34 ∨ i = 35 ∨ i = 36 ∨ i = 37 ∨ i = 38 ∨ i = 39 ∨ i = 40 ∨ i = 41 ∨ i = 42
  · exact .inl h
  · refine .inr ⟨by simp; omega, ?_⟩
    unfold ruleL
    rw [if_neg (by omega), if_neg (by omega), if_neg (by omega), if_neg (by omega), if_neg (by omega), if_neg (by omega), if_neg (by omega), if_neg (by omega), if_neg (by omega), if_neg (by omega), if_neg (by omega), if_neg (by omega), if_neg (by omega), if_neg (by omega), if_neg (by omega), if_neg (by omega), if_neg (by omega), if_neg (by omega), if_neg (by omega), if_neg (by omega)]

theorem ids_mem (i : Int) : i ∈ idsL ∨ (((i == 1) = false ∧ (i == 2) = false ∧ (i == 3) = false ∧ (i == 8) = false ∧ (i == 9) = false ∧ (i == 11) = false ∧ (i == 17) = false ∧ (i == 18) = false ∧ (i == 19) = false ∧ (i == 21) = false ∧ (i == 22) = false ∧ (i == 23) = false ∧ (i == 24) = false ∧ (i == 25) = false ∧ (i == 26) = false ∧ (i == 28) = false ∧ (i == 31) = false ∧ (i == 33) = false ∧ (i == 34) = false ∧ (i == 35) = false ∧ (i == 36) = false ∧ (i == 37) = false ∧ (i == 38) = false ∧ (i == 39) = false ∧ (i == 40) = false ∧ (i == 41) = false ∧ (i == 42) = false) ∧ ruleL i = ⟨0, 0, 0, 0, 0⟩) := by
  rcases ids_cases i with h | h
  · left
    simp only [idsL, List.mem_cons, List.not_mem_nil, or_false]
    exact h
  · exact .inr h

abbrev ruV (r : Ru) : Value := .agg #[.int .i64 r.kind, .int .i64 r.inn, .int .i64 r.sev, .int .u32 r.least, .int .u32 r.most]

set_option maxHeartbeats 4000000 in
set_option maxRecDepth 100000 in
theorem rule_calls (w : World) (i : Int) :
    Calls Tryd.prog 113 #[.int .i64 i] w fun e w' => e = .returned (ruV (ruleL i)) ∧ Below w.heap.size w w' := by
  rcases ids_cases i with h | ⟨⟨h1, h2, h3, h8, h9, h11, h17, h18, h19, h21, h22, h23, h24, h25, h26, h28, h31, h33, h34, h35, h36, h37, h38, h39, h40, h41, h42⟩, h⟩
  · rcases h with rfl | rfl | rfl | rfl | rfl | rfl | rfl | rfl | rfl | rfl | rfl | rfl | rfl | rfl | rfl | rfl | rfl | rfl | rfl | rfl | rfl | rfl | rfl | rfl | rfl | rfl | rfl
    all_goals
      go_enter Tryd.func113, Tryd.ntmps113
      go_wp2
      refine bodyPost_ret (v := ruV (ruleL _)) ?_ rfl ⟨rfl, ?_⟩
      · simp [results, Tryd.results113, go_sem]
        exact ⟨rfl, rfl, rfl, rfl, rfl⟩
      · exact below_one w _
  · rw [h]
    clear h
    go_enter Tryd.func113, Tryd.ntmps113
    go_wp2
    refine bodyPost_ret (v := ruV ⟨0, 0, 0, 0, 0⟩) ?_ rfl ⟨rfl, ?_⟩
    · simp [results, Tryd.results113, go_sem]
    · exact below_one w _

#print axioms rule_calls
end Go.Proofs.YtbdpccfkgekdaaaDoor

namespace Go.Proofs.YtbdpccfkgekdaaaDoor
open Go.RowKit

theorem ru_f0 (r : Ru) (w : World) : (Instr.field 136 (ruV r) 0).run Tryd.prog w = .ok (.int .i64 r.kind) w := by kernel_rfl
theorem ru_f1 (r : Ru) (w : World) : (Instr.field 136 (ruV r) 1).run Tryd.prog w = .ok (.int .i64 r.inn) w := by kernel_rfl

set_option maxRecDepth 100000 in
theorem kind3_calls (w : World) (i : Int) :
    Calls Tryd.prog 71 #[.int .i64 i] w fun e w' => e = .returned (.int .i64 (ruleL i).kind) ∧ Below w.heap.size w w' := by
  generalize hr : ruleL i = r
  have HR := Lib.hid hr
  clear hr
  have f0 := ru_f0 r
  go_enter Tryd.func71, Tryd.ntmps71
  go_wp2_with fail
  refine (rule_calls _ i).mono ?_
  rintro e w1 ⟨rfl, hb⟩
  rw [HR.out]
  have HB := Lib.hid hb
  clear hb HR
  go_wp2
  go_ret
  exact ⟨rfl, HB.out⟩

/-- A packet's bit; a will's. -/
def placeN (k : Int) (isW : Bool) : Int :=
  if isW = true then 1 else if k < 1 ∨ 15 < k then 0 else ((2 ^ k.toNat : Nat) : Int)

theorem kind_cases (k : Int) : (k = 1 ∨ k = 2 ∨ k = 3 ∨ k = 4 ∨ k = 5 ∨ k = 6 ∨ k = 7 ∨ k = 8 ∨ k = 9 ∨ k = 10 ∨ k = 11 ∨ k = 12 ∨ k = 13 ∨ k = 14 ∨ k = 15) ∨ k < 1 ∨ 15 < k := by omega

set_option maxHeartbeats 4000000 in
theorem place_calls (w : World) (k : Int) (isW : Bool) :
    Calls Tryd.prog 87 #[.int .i64 k, .bool isW] w fun e w' => e = .returned (.int .i64 (placeN k isW)) ∧ w = w' := by
  cases isW with
  | true =>
    go_enter Tryd.func87, Tryd.ntmps87
    go_wp2
    go_ret
    exact ⟨rfl, rfl⟩
  | false =>
    rcases kind_cases k with h | h | h
    · rcases h with rfl | rfl | rfl | rfl | rfl | rfl | rfl | rfl | rfl | rfl | rfl | rfl | rfl | rfl | rfl
      all_goals
        go_enter Tryd.func87, Tryd.ntmps87
        go_wp2
        go_ret
        exact ⟨rfl, rfl⟩
    · have e : placeN k false = 0 := by unfold placeN; rw [if_neg (by simp), if_pos (by omega)]
      rw [e]
      clear e
      go_enter Tryd.func87, Tryd.ntmps87
      go_wp2
      go_ret
      exact ⟨rfl, rfl⟩
    · have e : placeN k false = 0 := by unfold placeN; rw [if_neg (by simp), if_pos (by omega)]
      rw [e]
      have h1 : 1 ≤ k := by omega
      clear e
      go_enter Tryd.func87, Tryd.ntmps87
      go_wp2
      go_ret
      exact ⟨rfl, rfl⟩

/-- May a property be there? -/
def mayP (i k : Int) (isW : Bool) : Bool := bits .and .i64 (ruleL i).inn (placeN k isW) != 0

/-- The document's letters. -/
def whereL (i : Int) : List UInt8 :=
  if i = 1 ∨ i = 2 ∨ i = 3 ∨ i = 8 ∨ i = 9 then [80, 119]
  else if i = 11 then [80, 115]
  else if i = 17 then [67, 99, 100]
  else if i = 18 ∨ i = 19 ∨ i = 26 ∨ i = 36 ∨ i = 37 ∨ i = 40 ∨ i = 41 ∨ i = 42 then [99]
  else if i = 21 ∨ i = 22 then [67, 99, 97]
  else if i = 23 ∨ i = 25 then [67]
  else if i = 24 then [119]
  else if i = 28 then [99, 100]
  else if i = 31 then [99, 52, 53, 54, 55, 116, 118, 100, 97]
  else if i = 33 ∨ i = 34 ∨ i = 39 then [67, 99]
  else if i = 35 then [80]
  else if i = 38 then [67, 99, 80, 119, 52, 53, 54, 55, 115, 116, 117, 118, 100, 97]
  else []

theorem where_none (i : Int) (h : i ∉ idsL) : whereL i = [] := by
  simp only [idsL, List.mem_cons, List.not_mem_nil, or_false] at h
  unfold whereL
  rw [if_neg (by omega), if_neg (by omega), if_neg (by omega), if_neg (by omega), if_neg (by omega), if_neg (by omega), if_neg (by omega), if_neg (by omega), if_neg (by omega), if_neg (by omega), if_neg (by omega), if_neg (by omega)]

set_option maxHeartbeats 4000000 in
theorem where_calls (w : World) (i : Int) :
    Calls Tryd.prog 117 #[.int .i64 i] w fun e w' => e = .returned (.string (str (whereL i))) ∧ w = w' := by
  rcases ids_cases i with h | ⟨⟨h1, h2, h3, h8, h9, h11, h17, h18, h19, h21, h22, h23, h24, h25, h26, h28, h31, h33, h34, h35, h36, h37, h38, h39, h40, h41, h42⟩, h⟩
  · rcases h with rfl | rfl | rfl | rfl | rfl | rfl | rfl | rfl | rfl | rfl | rfl | rfl | rfl | rfl | rfl | rfl | rfl | rfl | rfl | rfl | rfl | rfl | rfl | rfl | rfl | rfl | rfl
    all_goals
      go_enter Tryd.func117, Tryd.ntmps117
      go_wp2
      go_ret
      exact ⟨rfl, rfl⟩
  · have e : whereL i = [] := by
      clear h
      simp only [beq_eq_false_iff_ne, ne_eq] at h1 h2 h3 h8 h9 h11 h17 h18 h19 h21 h22 h23 h24 h25 h26 h28 h31 h33 h34 h35 h36 h37 h38 h39 h40 h41 h42
      unfold whereL
      rw [if_neg (by omega), if_neg (by omega), if_neg (by omega), if_neg (by omega), if_neg (by omega), if_neg (by omega), if_neg (by omega), if_neg (by omega), if_neg (by omega), if_neg (by omega), if_neg (by omega), if_neg (by omega)]
    rw [e]
    clear e h
    go_enter Tryd.func117, Tryd.ntmps117
    go_wp2
    go_ret
    exact ⟨rfl, rfl⟩

set_option maxHeartbeats 4000000 in
theorem r3kind_calls (w : World) (i : Int) :
    Calls Tryd.prog 30 #[.int .i64 i] w fun e w' => e = .returned (.int .i64 (ruleL i).kind) ∧ w = w' := by
  rcases ids_cases i with h | ⟨⟨h1, h2, h3, h8, h9, h11, h17, h18, h19, h21, h22, h23, h24, h25, h26, h28, h31, h33, h34, h35, h36, h37, h38, h39, h40, h41, h42⟩, h⟩
  · rcases h with rfl | rfl | rfl | rfl | rfl | rfl | rfl | rfl | rfl | rfl | rfl | rfl | rfl | rfl | rfl | rfl | rfl | rfl | rfl | rfl | rfl | rfl | rfl | rfl | rfl | rfl | rfl
    all_goals
      go_enter Tryd.func30, Tryd.ntmps30
      go_wp2
      go_ret
      exact ⟨rfl, rfl⟩
  · rw [h]
    clear h
    go_enter Tryd.func30, Tryd.ntmps30
    go_wp2
    go_ret
    exact ⟨rfl, rfl⟩

/-- The letter of a packet. -/
def letterC (k : Int) (isW : Bool) : UInt8 :=
  if isW = true then 119
  else if k = 1 then 67
  else if k = 2 then 99
  else if k = 3 then 80
  else if k = 4 then 52
  else if k = 5 then 53
  else if k = 6 then 54
  else if k = 7 then 55
  else if k = 8 then 115
  else if k = 9 then 116
  else if k = 10 then 117
  else if k = 11 then 118
  else if k = 14 then 100
  else if k = 15 then 97
  else 45

set_option maxHeartbeats 4000000 in
theorem letter_calls (w : World) (k : Int) (isW : Bool) :
    Calls Tryd.prog 118 #[.int .i64 k, .bool isW] w fun e w' => e = .returned (.string (str [letterC k isW])) ∧ w = w' := by
  cases isW with
  | true =>
    go_enter Tryd.func118, Tryd.ntmps118
    go_wp2
    go_ret
    exact ⟨rfl, rfl⟩
  | false =>
    rcases kind_cases k with h | h | h
    · rcases h with rfl | rfl | rfl | rfl | rfl | rfl | rfl | rfl | rfl | rfl | rfl | rfl | rfl | rfl | rfl
      all_goals
        go_enter Tryd.func118, Tryd.ntmps118
        go_wp2
        go_ret
        exact ⟨rfl, rfl⟩
    · have e : letterC k false = 45 := by unfold letterC; rw [if_neg (by simp), if_neg (by omega), if_neg (by omega), if_neg (by omega), if_neg (by omega), if_neg (by omega), if_neg (by omega), if_neg (by omega), if_neg (by omega), if_neg (by omega), if_neg (by omega), if_neg (by omega), if_neg (by omega), if_neg (by omega)]
      rw [e]
      clear e
      go_enter Tryd.func118, Tryd.ntmps118
      go_wp2
      go_ret
      exact ⟨rfl, rfl⟩
    · have e : letterC k false = 45 := by unfold letterC; rw [if_neg (by simp), if_neg (by omega), if_neg (by omega), if_neg (by omega), if_neg (by omega), if_neg (by omega), if_neg (by omega), if_neg (by omega), if_neg (by omega), if_neg (by omega), if_neg (by omega), if_neg (by omega), if_neg (by omega), if_neg (by omega)]
      rw [e]
      have h1 : 1 ≤ k := by omega
      clear e
      go_enter Tryd.func118, Tryd.ntmps118
      go_wp2
      go_ret
      exact ⟨rfl, rfl⟩

#print axioms letter_calls
end Go.Proofs.YtbdpccfkgekdaaaDoor
