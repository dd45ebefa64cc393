/-
  The rules of prop: kinds, places; the document's. (No statement: contracts that the proofs of the statements use.)
-/
import Derived.Test.YtdhdjkpocdfjbabDoorWord4
import Derived.Test.YtdhdjkpocdfjbabDoorRef1c
import Derived.Deep.QuietTactic
import Derived.BigQuiet
import Derived.IntWalk
namespace Go.Proofs.YtdhdjkpocdfjbabDoor
open Go.RowKit

/-- A rule. -/
structure Ru where
  kind : Int
  inn : Int
  sev : Int
  least : Int
  most : Int

/-- The rule of an identifier, as the document's table has it. -/
def ruleL (i : Int) : Ru :=
  if i = 1 then ⟨1, 9, 0, 0, 1⟩
  else if i = 2 then ⟨3, 9, 0, 0, 4294967295⟩
  else if i = 3 ∨ i = 8 then ⟨5, 9, 0, 0, 0⟩
  else if i = 9 then ⟨6, 9, 0, 0, 0⟩
  else if i = 11 then ⟨4, 264, 8, 1, 268435455⟩
  else if i = 17 then ⟨3, 16390, 0, 0, 4294967295⟩
  else if i = 18 ∨ i = 26 then ⟨5, 4, 0, 0, 0⟩
  else if i = 19 then ⟨2, 4, 0, 0, 65535⟩
  else if i = 21 then ⟨5, 32774, 0, 0, 0⟩
  else if i = 22 then ⟨6, 32774, 0, 0, 0⟩
  else if i = 23 ∨ i = 25 then ⟨1, 2, 0, 0, 1⟩
  else if i = 24 then ⟨3, 1, 0, 0, 4294967295⟩
  else if i = 28 then ⟨5, 16388, 0, 0, 0⟩
  else if i = 31 then ⟨5, 51956, 0, 0, 0⟩
  else if i = 33 then ⟨2, 6, 0, 1, 65535⟩
  else if i = 34 then ⟨2, 6, 0, 0, 65535⟩
  else if i = 35 then ⟨2, 8, 0, 0, 65535⟩
  else if i = 36 ∨ i = 37 ∨ i = 40 ∨ i = 41 ∨ i = 42 then ⟨1, 4, 0, 0, 1⟩
  else if i = 38 then ⟨7, 53247, 53247, 0, 0⟩
  else if i = 39 then ⟨3, 6, 0, 1, 4294967295⟩
  else ⟨0, 0, 0, 0, 0⟩

/-- The identifiers that there are. -/
def idsL : List Int := [1, 2, 3, 8, 9, 11, 17, 18, 19, 21, 22, 23, 24, 25, 26, 28, 31, 33, 34, 35, 36, 37, 38, 39, 40, 41, 42]

theorem ids_cases (i : Int) : (i = 1 ∨ i = 2 ∨ i = 3 ∨ i = 8 ∨ i = 9 ∨ i = 11 ∨ i = 17 ∨ i = 18 ∨ i = 19 ∨ i = 21 ∨ i = 22 ∨ i = 23 ∨ i = 24 ∨ i = 25 ∨ i = 26 ∨ i = 28 ∨ i = 31 ∨ i = 33 ∨ i = 34 ∨ i = 35 ∨ i = 36 ∨ i = 37 ∨ i = 38 ∨ i = 39 ∨ i = 40 ∨ i = 41 ∨ i = 42) ∨ (((i == 1) = false ∧ (i == 2) = false ∧ (i == 3) = false ∧ (i == 8) = false ∧ (i == 9) = false ∧ (i == 11) = false ∧ (i == 17) = false ∧ (i == 18) = false ∧ (i == 19) = false ∧ (i == 21) = false ∧ (i == 22) = false ∧ (i == 23) = false ∧ (i == 24) = false ∧ (i == 25) = false ∧ (i == 26) = false ∧ (i == 28) = false ∧ (i == 31) = false ∧ (i == 33) = false ∧ (i == 34) = false ∧ (i == 35) = false ∧ (i == 36) = false ∧ (i == 37) = false ∧ (i == 38) = false ∧ (i == 39) = false ∧ (i == 40) = false ∧ (i == 41) = false ∧ (i == 42) = false) ∧ ruleL i = ⟨0, 0, 0, 0, 0⟩) := by
  by_cases h : i = 1 ∨ i = 2 ∨ i = 3 ∨ i = 8 ∨ i = 9 ∨ i = 11 ∨ i = 17 ∨ i = 18 ∨ i = 19 ∨ i = 21 ∨ i = 22 ∨ i = 23 ∨ i = 24 ∨ i = 25 ∨ i = 26 ∨ i = 28 ∨ i = 31 ∨ i = 33 ∨ i = 34 ∨ i = 35 ∨ i = 36 ∨ i = 37 ∨ i = 38 ∨ i = 39 ∨ i = 40 ∨ i = 41 ∨ i = 42
  · exact .inl h
  · refine .inr ⟨by simp; omega, ?_⟩
    unfold ruleL
    rw [if_neg (by omega), if_neg (by omega), if_neg (by omega), if_neg (by omega), if_neg (by omega), if_neg (by omega), if_neg (by omega), if_neg (by omega), if_neg (by omega), if_neg (by omega), if_neg (by omega), if_neg (by omega), if_neg (by omega), if_neg (by omega), if_neg (by omega), if_neg (by omega), if_neg (by omega), if_neg (by omega), if_neg (by omega), if_neg (by omega)]

theorem ids_mem (i : Int) : i ∈ idsL ∨ (((i == 1) = false ∧ (i == 2) = false ∧ (i == 3) = false ∧ (i == 8) = false ∧ (i == 9) = false ∧ (i == 11) = false ∧ (i == 17) = false ∧ (i == 18) = false ∧ (i == 19) = false ∧ (i == 21) = false ∧ (i == 22) = false ∧ (i == 23) = false ∧ (i == 24) = false ∧ (i == 25) = false ∧ (i == 26) = false ∧ (i == 28) = false ∧ (i == 31) = false ∧ (i == 33) = false ∧ (i == 34) = false ∧ (i == 35) = false ∧ (i == 36) = false ∧ (i == 37) = false ∧ (i == 38) = false ∧ (i == 39) = false ∧ (i == 40) = false ∧ (i == 41) = false ∧ (i == 42) = false) ∧ ruleL i = ⟨0, 0, 0, 0, 0⟩) := by
  rcases ids_cases i with h | h
  · left
    simp only [idsL, List.mem_cons, List.not_mem_nil, or_false]
    exact h
  · exact .inr h

abbrev ruV (r : Ru) : Value := .agg #[.int .i64 r.kind, .int .i64 r.inn, .int .i64 r.sev, .int .u32 r.least, .int .u32 r.most]

set_option maxHeartbeats 4000000 in
set_option maxRecDepth 100000 in
theorem rule_calls (w : World) (i : Int) :
    Calls Tryd.prog 82 #[.int .i64 i] w fun e w' => e = .returned (ruV (ruleL i)) ∧ Below w.heap.size w w' := by
  rcases ids_cases i with h | ⟨⟨h1, h2, h3, h8, h9, h11, h17, h18, h19, h21, h22, h23, h24, h25, h26, h28, h31, h33, h34, h35, h36, h37, h38, h39, h40, h41, h42⟩, h⟩
  · rcases h with rfl | rfl | rfl | rfl | rfl | rfl | rfl | rfl | rfl | rfl | rfl | rfl | rfl | rfl | rfl | rfl | rfl | rfl | rfl | rfl | rfl | rfl | rfl | rfl | rfl | rfl | rfl
    all_goals
      go_enter Tryd.func82, Tryd.ntmps82
      go_wp2
      refine bodyPost_ret (v := ruV (ruleL _)) ?_ rfl ⟨rfl, ?_⟩
      · simp [results, Tryd.results82, go_sem]
        exact ⟨rfl, rfl, rfl, rfl, rfl⟩
      · exact below_one w _
  · rw [h]
    clear h
    go_enter Tryd.func82, Tryd.ntmps82
    go_wp2
    refine bodyPost_ret (v := ruV ⟨0, 0, 0, 0, 0⟩) ?_ rfl ⟨rfl, ?_⟩
    · simp [results, Tryd.results82, go_sem]
    · exact below_one w _

#print axioms rule_calls
end Go.Proofs.YtdhdjkpocdfjbabDoor
