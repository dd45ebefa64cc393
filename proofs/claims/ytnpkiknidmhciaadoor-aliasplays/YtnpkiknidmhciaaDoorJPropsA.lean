/-
  Several texts, one behind the other. (No statement: contracts that the proofs of the statements use.)
-/
import Derived.Test.YtnpkiknidmhciaaDoorJWords
import Derived.Test.YtnpkiknidmhciaaDoorJBase
import Derived.Deep.QuietTactic
import Derived.BigQuiet
import Derived.IntWalk
import Derived.Deep.RegionHeld3
import Derived.Outline
import Derived.WalkLawsBesides
import Derived.Laws.BitsAllLaws
namespace Go.Proofs.YtnpkiknidmhciaaDoor
open Go.RowKit

/-- A rule. -/
structure Ru where
  kind : Int
  inn : Int
  sev : Int
  least : Int
  most : Int

/-- The rule of an identifier, as the document's table has it. -/
def ruleL (i : Int) : Ru :=
  if i = 1 then ⟨1, 9, 0, 0, 1⟩
  else if i = 2 then ⟨3, 9, 0, 0, 4294967295⟩
  else if i = 3 ∨ i = 8 then ⟨5, 9, 0, 0, 0⟩
  else if i = 9 then ⟨6, 9, 0, 0, 0⟩
  else if i = 11 then ⟨4, 264, 8, 1, 268435455⟩
  else if i = 17 then ⟨3, 16390, 0, 0, 4294967295⟩
  else if i = 18 ∨ i = 26 then ⟨5, 4, 0, 0, 0⟩
  else if i = 19 then ⟨2, 4, 0, 0, 65535⟩
  else if i = 21 then ⟨5, 32774, 0, 0, 0⟩
  else if i = 22 then ⟨6, 32774, 0, 0, 0⟩
  else if i = 23 ∨ i = 25 then ⟨1, 2, 0, 0, 1⟩
  else if i = 24 then ⟨3, 1, 0, 0, 4294967295⟩
  else if i = 28 then ⟨5, 16388, 0, 0, 0⟩
  else if i = 31 then ⟨5, 51956, 0, 0, 0⟩
  else if i = 33 then ⟨2, 6, 0, 1, 65535⟩
  else if i = 34 then ⟨2, 6, 0, 0, 65535⟩
  else if i = 35 then ⟨2, 8, 0, 0, 65535⟩
  else if i = 36 ∨ i = 37 ∨ i = 40 ∨ i = 41 ∨ i = 42 then ⟨1, 4, 0, 0, 1⟩
  else if i = 38 then ⟨7, 53247, 53247, 0, 0⟩
  else if i = 39 then ⟨3, 6, 0, 1, 4294967295⟩
  else ⟨0, 0, 0, 0, 0⟩

/-- The identifiers that there are. -/
def idsL : List Int := [1, 2, 3, 8, 9, 11, 17, 18, 19, 21, 22, 23, 24, 25, 26, 28, 31, 33, 34, 35, 36, 37, 38, 39, 40, 41, 42]

theorem ids_cases (i : Int) : (i = 1 ∨ i = 2 ∨ i = 3 ∨ i = 8 ∨ i = 9 ∨ i = 11 ∨ i = 17 ∨ i = 18 ∨ i = 19 ∨ i = 21 ∨ i = 22 ∨ i = 23 ∨ i = 24 ∨ i = 25 ∨ i = 26 ∨ i = 28 ∨ i = 31 ∨ i = 33 ∨ i = 34 ∨ i = 35 ∨ i = 36 ∨ i = 37 ∨ i = 38 ∨ i = 39 ∨ i = 40 ∨ i = 41 ∨ i = 42) ∨ (((i == 1) = false ∧ (i == 2) = false ∧ (i == 3) = false ∧ (i == 8) = false ∧ (i == 9) = false ∧ (i == 11) = false ∧ (i == 17) = false ∧ (i == 18) = false ∧ (i == 19) = false ∧ (i == 21) = false ∧ (i == 22) = false ∧ (i == 23) = false ∧ (i == 24) = false ∧ (i == 25) = false ∧ (i == 26) = false ∧ (i == 28) = false ∧ (i == 31) = false ∧ (i == 33) = false ∧ (i == 34) = false ∧ (i == 35) = false ∧ (i == 36) = false ∧ (i == 37) = false ∧ (i == 38) = false ∧ (i == 39) = false ∧ (i == 40) = false ∧ (i == 41) = false ∧ (i == 42) = false) ∧ ruleL i = ⟨0, 0, 0, 0, 0⟩) := by
  by_cases h : i = 1 ∨ i = 2 ∨ i = 3 ∨ i = 8 ∨ i = 9 ∨ i = 11 ∨ i = 17 ∨ i = 18 ∨ i = 19 ∨ i = 21 ∨ i = 22 ∨ i = 23 ∨ i = 24 ∨ i = 25 ∨ i = 26 ∨ i = 28 ∨ i = 31 ∨ i = 33 ∨ i = 34 ∨ i = 35 ∨ i = 36 ∨ i = 37 ∨ i = 38 ∨ i = 39 ∨ i = 40 ∨ i = 41 ∨ i = 42
  · exact .inl h
  · refine .inr ⟨by simp; omega, ?_⟩
    unfold ruleL
    rw [if_neg (by omega), if_neg (by omega), if_neg (by omega), if_neg (by omega), if_neg (by omega), if_neg (by omega), if_neg (by omega), if_neg (by omega), if_neg (by omega), if_neg (by omega), if_neg (by omega), if_neg (by omega), if_neg (by omega), if_neg (by omega), if_neg (by omega), if_neg (by omega), if_neg (by omega), if_neg (by omega), if_neg (by omega), if_neg (by omega)]

theorem ids_mem (i : Int) : i ∈ idsL ∨ (((i == 1) = false ∧ (i == 2) = false ∧ (i == 3) = false ∧ (i == 8) = false ∧ (i == 9) = false ∧ (i == 11) = false ∧ (i == 17) = false ∧ (i == 18) = false ∧ (i == 19) = false ∧ (i == 21) = false ∧ (i == 22) = false ∧ (i == 23) = false ∧ (i == 24) = false ∧ (i == 25) = false ∧ (i == 26) = false ∧ (i == 28) = false ∧ (i == 31) = false ∧ (i == 33) = false ∧ (i == 34) = false ∧ (i == 35) = false ∧ (i == 36) = false ∧ (i == 37) = false ∧ (i == 38) = false ∧ (i == 39) = false ∧ (i == 40) = false ∧ (i == 41) = false ∧ (i == 42) = false) ∧ ruleL i = ⟨0, 0, 0, 0, 0⟩) := by
  rcases ids_cases i with h | h
  · left
    simp only [idsL, List.mem_cons, List.not_mem_nil, or_false]
    exact h
  · exact .inr h

abbrev ruV (r : Ru) : Value := .agg #[.int .i64 r.kind, .int .i64 r.inn, .int .i64 r.sev, .int .u32 r.least, .int .u32 r.most]

set_option maxHeartbeats 4000000 in
set_option maxRecDepth 100000 in
theorem rule_calls (w : World) (i : Int) :
    Calls Tryd.prog 141 #[.int .i64 i] w fun e w' => e = .returned (ruV (ruleL i)) ∧ Below w.heap.size w w' := by
  rcases ids_cases i with h | ⟨⟨h1, h2, h3, h8, h9, h11, h17, h18, h19, h21, h22, h23, h24, h25, h26, h28, h31, h33, h34, h35, h36, h37, h38, h39, h40, h41, h42⟩, h⟩
  · rcases h with rfl | rfl | rfl | rfl | rfl | rfl | rfl | rfl | rfl | rfl | rfl | rfl | rfl | rfl | rfl | rfl | rfl | rfl | rfl | rfl | rfl | rfl | rfl | rfl | rfl | rfl | rfl
    all_goals
      go_enter Tryd.func141, Tryd.ntmps141
      go_wp2
      refine bodyPost_ret (v := ruV (ruleL _)) ?_ rfl ⟨rfl, ?_⟩
      · simp [results, Tryd.results141, go_sem]
        exact ⟨rfl, rfl, rfl, rfl, rfl⟩
      · exact below_one w _
  · rw [h]
    clear h
    go_enter Tryd.func141, Tryd.ntmps141
    go_wp2
    refine bodyPost_ret (v := ruV ⟨0, 0, 0, 0, 0⟩) ?_ rfl ⟨rfl, ?_⟩
    · simp [results, Tryd.results141, go_sem]
    · exact below_one w _

#print axioms rule_calls
end Go.Proofs.YtnpkiknidmhciaaDoor

namespace Go.Proofs.YtnpkiknidmhciaaDoor
open Go.RowKit

theorem ru_f0 (r : Ru) (w : World) : (Instr.field 211 (ruV r) 0).run Tryd.prog w = .ok (.int .i64 r.kind) w := by kernel_rfl
theorem ru_f1 (r : Ru) (w : World) : (Instr.field 211 (ruV r) 1).run Tryd.prog w = .ok (.int .i64 r.inn) w := by kernel_rfl

set_option maxRecDepth 100000 in
theorem kind3_calls (w : World) (i : Int) :
    Calls Tryd.prog 150 #[.int .i64 i] w fun e w' => e = .returned (.int .i64 (ruleL i).kind) ∧ Below w.heap.size w w' := by
  generalize hr : ruleL i = r
  have HR := Lib.hid hr
  clear hr
  have f0 := ru_f0 r
  go_enter Tryd.func150, Tryd.ntmps150
  go_wp2_with fail
  refine (rule_calls _ i).mono ?_
  rintro e w1 ⟨rfl, hb⟩
  rw [HR.out]
  have HB := Lib.hid hb
  clear hb HR
  go_wp2
  go_ret
  exact ⟨rfl, HB.out⟩

/-- A packet's bit; a will's. -/
def placeN (k : Int) (isW : Bool) : Int :=
  if isW = true then 1 else if k < 1 ∨ 15 < k then 0 else ((2 ^ k.toNat : Nat) : Int)

theorem kind_cases (k : Int) : (k = 1 ∨ k = 2 ∨ k = 3 ∨ k = 4 ∨ k = 5 ∨ k = 6 ∨ k = 7 ∨ k = 8 ∨ k = 9 ∨ k = 10 ∨ k = 11 ∨ k = 12 ∨ k = 13 ∨ k = 14 ∨ k = 15) ∨ k < 1 ∨ 15 < k := by omega

set_option maxHeartbeats 4000000 in
theorem place_calls (w : World) (k : Int) (isW : Bool) :
    Calls Tryd.prog 120 #[.int .i64 k, .bool isW] w fun e w' => e = .returned (.int .i64 (placeN k isW)) ∧ w = w' := by
  cases isW with
  | true =>
    go_enter Tryd.func120, Tryd.ntmps120
    go_wp2
    go_ret
    exact ⟨rfl, rfl⟩
  | false =>
    rcases kind_cases k with h | h | h
    · rcases h with rfl | rfl | rfl | rfl | rfl | rfl | rfl | rfl | rfl | rfl | rfl | rfl | rfl | rfl | rfl
      all_goals
        go_enter Tryd.func120, Tryd.ntmps120
        go_wp2
        go_ret
        exact ⟨rfl, rfl⟩
    · have e : placeN k false = 0 := by unfold placeN; rw [if_neg (by simp), if_pos (by omega)]
      rw [e]
      clear e
      go_enter Tryd.func120, Tryd.ntmps120
      go_wp2
      go_ret
      exact ⟨rfl, rfl⟩
    · have e : placeN k false = 0 := by unfold placeN; rw [if_neg (by simp), if_pos (by omega)]
      rw [e]
      have h1 : 1 ≤ k := by omega
      clear e
      go_enter Tryd.func120, Tryd.ntmps120
      go_wp2
      go_ret
      exact ⟨rfl, rfl⟩

/-- May a property be there? -/
def mayP (i k : Int) (isW : Bool) : Bool := bits .and .i64 (ruleL i).inn (placeN k isW) != 0

/-- The document's letters. -/
def whereL (i : Int) : List UInt8 :=
  if i = 1 ∨ i = 2 ∨ i = 3 ∨ i = 8 ∨ i = 9 then [80, 119]
  else if i = 11 then [80, 115]
  else if i = 17 then [67, 99, 100]
  else if i = 18 ∨ i = 19 ∨ i = 26 ∨ i = 36 ∨ i = 37 ∨ i = 40 ∨ i = 41 ∨ i = 42 then [99]
  else if i = 21 ∨ i = 22 then [67, 99, 97]
  else if i = 23 ∨ i = 25 then [67]
  else if i = 24 then [119]
  else if i = 28 then [99, 100]
  else if i = 31 then [99, 52, 53, 54, 55, 116, 118, 100, 97]
  else if i = 33 ∨ i = 34 ∨ i = 39 then [67, 99]
  else if i = 35 then [80]
  else if i = 38 then [67, 99, 80, 119, 52, 53, 54, 55, 115, 116, 117, 118, 100, 97]
  else []

theorem where_none (i : Int) (h : i ∉ idsL) : whereL i = [] := by
  simp only [idsL, List.mem_cons, List.not_mem_nil, or_false] at h
  unfold whereL
  rw [if_neg (by omega), if_neg (by omega), if_neg (by omega), if_neg (by omega), if_neg (by omega), if_neg (by omega), if_neg (by omega), if_neg (by omega), if_neg (by omega), if_neg (by omega), if_neg (by omega), if_neg (by omega)]

set_option maxHeartbeats 4000000 in
theorem where_calls (w : World) (i : Int) :
    Calls Tryd.prog 146 #[.int .i64 i] w fun e w' => e = .returned (.string (str (whereL i))) ∧ w = w' := by
  rcases ids_cases i with h | ⟨⟨h1, h2, h3, h8, h9, h11, h17, h18, h19, h21, h22, h23, h24, h25, h26, h28, h31, h33, h34, h35, h36, h37, h38, h39, h40, h41, h42⟩, h⟩
  · rcases h with rfl | rfl | rfl | rfl | rfl | rfl | rfl | rfl | rfl | rfl | rfl | rfl | rfl | rfl | rfl | rfl | rfl | rfl | rfl | rfl | rfl | rfl | rfl | rfl | rfl | rfl | rfl
    all_goals
      go_enter Tryd.func146, Tryd.ntmps146
      go_wp2
      go_ret
      exact ⟨rfl, rfl⟩
  · have e : whereL i = [] := by
      clear h
      simp only [beq_eq_false_iff_ne, ne_eq] at h1 h2 h3 h8 h9 h11 h17 h18 h19 h21 h22 h23 h24 h25 h26 h28 h31 h33 h34 h35 h36 h37 h38 h39 h40 h41 h42
      unfold whereL
      rw [if_neg (by omega), if_neg (by omega), if_neg (by omega), if_neg (by omega), if_neg (by omega), if_neg (by omega), if_neg (by omega), if_neg (by omega), if_neg (by omega), if_neg (by omega), if_neg (by omega), if_neg (by omega)]
    rw [e]
    clear e h
    go_enter Tryd.func146, Tryd.ntmps146
    go_wp2
    go_ret
    exact ⟨rfl, rfl⟩

set_option maxHeartbeats 4000000 in
theorem r3kind_calls (w : World) (i : Int) :
    Calls Tryd.prog 134 #[.int .i64 i] w fun e w' => e = .returned (.int .i64 (ruleL i).kind) ∧ w = w' := by
  rcases ids_cases i with h | ⟨⟨h1, h2, h3, h8, h9, h11, h17, h18, h19, h21, h22, h23, h24, h25, h26, h28, h31, h33, h34, h35, h36, h37, h38, h39, h40, h41, h42⟩, h⟩
  · rcases h with rfl | rfl | rfl | rfl | rfl | rfl | rfl | rfl | rfl | rfl | rfl | rfl | rfl | rfl | rfl | rfl | rfl | rfl | rfl | rfl | rfl | rfl | rfl | rfl | rfl | rfl | rfl
    all_goals
      go_enter Tryd.func134, Tryd.ntmps134
      go_wp2
      go_ret
      exact ⟨rfl, rfl⟩
  · rw [h]
    clear h
    go_enter Tryd.func134, Tryd.ntmps134
    go_wp2
    go_ret
    exact ⟨rfl, rfl⟩

/-- The letter of a packet. -/
def letterC (k : Int) (isW : Bool) : UInt8 :=
  if isW = true then 119
  else if k = 1 then 67
  else if k = 2 then 99
  else if k = 3 then 80
  else if k = 4 then 52
  else if k = 5 then 53
  else if k = 6 then 54
  else if k = 7 then 55
  else if k = 8 then 115
  else if k = 9 then 116
  else if k = 10 then 117
  else if k = 11 then 118
  else if k = 14 then 100
  else if k = 15 then 97
  else 45

set_option maxHeartbeats 4000000 in
theorem letter_calls (w : World) (k : Int) (isW : Bool) :
    Calls Tryd.prog 147 #[.int .i64 k, .bool isW] w fun e w' => e = .returned (.string (str [letterC k isW])) ∧ w = w' := by
  cases isW with
  | true =>
    go_enter Tryd.func147, Tryd.ntmps147
    go_wp2
    go_ret
    exact ⟨rfl, rfl⟩
  | false =>
    rcases kind_cases k with h | h | h
    · rcases h with rfl | rfl | rfl | rfl | rfl | rfl | rfl | rfl | rfl | rfl | rfl | rfl | rfl | rfl | rfl
      all_goals
        go_enter Tryd.func147, Tryd.ntmps147
        go_wp2
        go_ret
        exact ⟨rfl, rfl⟩
    · have e : letterC k false = 45 := by unfold letterC; rw [if_neg (by simp), if_neg (by omega), if_neg (by omega), if_neg (by omega), if_neg (by omega), if_neg (by omega), if_neg (by omega), if_neg (by omega), if_neg (by omega), if_neg (by omega), if_neg (by omega), if_neg (by omega), if_neg (by omega), if_neg (by omega)]
      rw [e]
      clear e
      go_enter Tryd.func147, Tryd.ntmps147
      go_wp2
      go_ret
      exact ⟨rfl, rfl⟩
    · have e : letterC k false = 45 := by unfold letterC; rw [if_neg (by simp), if_neg (by omega), if_neg (by omega), if_neg (by omega), if_neg (by omega), if_neg (by omega), if_neg (by omega), if_neg (by omega), if_neg (by omega), if_neg (by omega), if_neg (by omega), if_neg (by omega), if_neg (by omega), if_neg (by omega)]
      rw [e]
      have h1 : 1 ≤ k := by omega
      clear e
      go_enter Tryd.func147, Tryd.ntmps147
      go_wp2
      go_ret
      exact ⟨rfl, rfl⟩

#print axioms letter_calls
end Go.Proofs.YtnpkiknidmhciaaDoor

namespace Go.Proofs.YtnpkiknidmhciaaDoor
open Go.RowKit

theorem ext_one (l : List UInt8) (k : Nat) (h : k < l.length) : (str l).extract k (k + 1) = str [l.getD k 0] := by
  apply ba_ext
  rw [ba_extract, str_data, str_data]
  rw [show k + 1 - k = 1 by omega, List.drop_eq_getElem_cons h]
  rw [List.take_succ_cons, List.take_zero]
  simp [List.getD, h]

theorem contains_snocB (l : List UInt8) (x n : UInt8) : (l ++ [x]).contains n = (l.contains n || decide (x = n)) := by
  by_cases e : x = n
  · subst e; simp
  · have e' : ¬ n = x := fun h => e h.symm
    simp [e, e']

theorem in_calls (w : World) (l : List UInt8) (c : UInt8) (hl : l.length ≤ 1000) :
    Calls Tryd.prog 145 #[.string (str l), .string (str [c])] w fun e w' => e = .returned (.bool (l.contains c)) ∧ w = w' := by
  generalize hr : l.contains c = r
  have HR := Lib.hid hr
  clear hr
  have hz : (str l).size = l.length := str_size l
  go_enter Tryd.func145, Tryd.ntmps145
  go_wp2
  go_loop [5] (fun i => ∃ k : Nat, k ≤ l.length ∧ i = .int .i64 k ∧ Hid ((l.take k).contains c = false)) (fun i => l.length - (intOf i).toNat)
  case atStart => exact ⟨0, by omega, rfl, Lib.hid (by simp)⟩
  case round =>
    obtain ⟨k, hk, rfl, ht⟩ := hrel
    by_cases hlt : k < l.length
    · have hx := ext_one l k hlt
      have hts : l.take (k + 1) = l.take k ++ [l.getD k 0] := by
        rw [List.take_succ_eq_append_getElem hlt]
        simp [List.getD, hlt]
      have HS := Lib.hid (show (l.take (k + 1)).contains c = ((l.take k).contains c || decide (l.getD k 0 = c)) by rw [hts]; exact contains_snocB _ _ _)
      have HT := Lib.hid (show (l.take (k + 1)).contains c = true → l.contains c = true by
        intro h
        rw [List.contains_iff_mem] at h ⊢
        exact List.mem_of_mem_take h)
      clear hts
      generalize l.getD k 0 = x at *
      by_cases he : x = c
      · have H1 : Hid (r = true) := by
          rw [← HR.out]
          exact HT.out (by rw [HS.out]; simp [he])
        have hb : ((str [x]).toList == (str [c]).toList) = true := by rw [he]; simp
        clear HS HT he
        obtain rfl := H1.out
        clear H1 HR
        go_wp2
        go_ret
        exact ⟨rfl, rfl⟩
      · have hb : ((str [x]).toList == (str [c]).toList) = false := by rw [str_list, str_list]; simpa using he
        have HN := Lib.hid (show (l.take (k + 1)).contains c = false by rw [HS.out, ht.out]; simp [he])
        clear HS HT he
        go_wp2
        go_round
        case rel => exact ⟨k + 1, by omega, by go_num, HN⟩
        case measure => simp [intOf]; omega
    · have H1 : Hid (r = false) := by
        rw [← HR.out]
        show l.contains c = false
        have := ht.out
        rwa [List.take_of_length_le (by omega)] at this
      obtain rfl := H1.out
      clear H1 HR ht
      go_wp2
      go_ret
      exact ⟨rfl, rfl⟩

theorem where_short (i : Int) : (whereL i).length ≤ 14 := by
  rcases ids_mem i with h | ⟨_, h⟩
  · have : ∀ i ∈ idsL, (whereL i).length ≤ 14 := by decide
    exact this i h
  · by_cases hm : i ∈ idsL
    · have : ∀ i ∈ idsL, (whereL i).length ≤ 14 := by decide
      exact this i hm
    · rw [where_none i hm]; decide

/-- The places: a will, the kinds, none. -/
def placesL : List (Int × Bool) := [(0, true), (0, false), (1, false), (2, false), (3, false), (4, false), (5, false), (6, false), (7, false), (8, false), (9, false), (10, false), (11, false), (12, false), (13, false), (14, false), (15, false)]
theorem place_of (k : Int) (isW : Bool) : ∃ q ∈ placesL, placeN k isW = placeN q.1 q.2 ∧ letterC k isW = letterC q.1 q.2 := by
  cases isW with
  | true => exact ⟨(0, true), by decide, rfl, rfl⟩
  | false =>
    rcases kind_cases k with h | h
    · refine ⟨(k, false), ?_, rfl, rfl⟩
      rcases h with rfl | rfl | rfl | rfl | rfl | rfl | rfl | rfl | rfl | rfl | rfl | rfl | rfl | rfl | rfl <;> decide
    · refine ⟨(0, false), by decide, ?_, ?_⟩
      · unfold placeN; rw [if_neg (by simp), if_pos (by omega)]; rfl
      · unfold letterC; rw [if_neg (by simp), if_neg (by omega), if_neg (by omega), if_neg (by omega), if_neg (by omega), if_neg (by omega), if_neg (by omega), if_neg (by omega), if_neg (by omega), if_neg (by omega), if_neg (by omega), if_neg (by omega), if_neg (by omega), if_neg (by omega)]; rfl

theorem and_zero (b : Int) : bits .and .i64 0 b = 0 := by
  simp [bits]
  rfl

theorem may_all : ∀ i ∈ idsL, ∀ q ∈ placesL, mayP i q.1 q.2 = (whereL i).contains (letterC q.1 q.2) := by decide +kernel
theorem mayP_where (i k : Int) (isW : Bool) : mayP i k isW = (whereL i).contains (letterC k isW) := by
  obtain ⟨q, hq, h1, h2⟩ := place_of k isW
  by_cases hm : i ∈ idsL
  · rw [h2, ← may_all i hm q hq]
    unfold mayP
    rw [h1]
  · rcases ids_mem i with h | ⟨_, h⟩
    · exact absurd h hm
    · rw [where_none i hm]
      unfold mayP
      rw [h]
      show (bits .and .i64 0 (placeN k isW) != 0) = false
      rw [and_zero]
      rfl

theorem r3may_calls (w : World) (i k : Int) (isW : Bool) :
    Calls Tryd.prog 125 #[.int .i64 i, .int .i64 k, .bool isW] w fun e w' => e = .returned (.bool (mayP i k isW)) ∧ w = w' := by
  rw [mayP_where]
  have hl := where_short i
  generalize hr : (whereL i).contains (letterC k isW) = r
  have HR := Lib.hid hr
  clear hr
  go_enter Tryd.func125, Tryd.ntmps125
  go_wp2_with fail
  refine (where_calls _ i).mono ?_
  rintro e w1 ⟨rfl, rfl⟩
  go_wp2_with fail
  refine (letter_calls _ k isW).mono ?_
  rintro e w1 ⟨rfl, rfl⟩
  go_wp2_with fail
  refine (in_calls _ (whereL i) (letterC k isW) (by omega)).mono ?_
  rintro e w1 ⟨rfl, rfl⟩
  rw [HR.out]
  go_wp2
  go_ret
  exact ⟨rfl, rfl⟩

#print axioms r3may_calls
end Go.Proofs.YtnpkiknidmhciaaDoor

namespace Go.Proofs.YtnpkiknidmhciaaDoor
open Go.RowKit

/-- A property. -/
structure Pr where
  id : Int
  n : Int
  s : ByteArray
  t : ByteArray

abbrev prV (p : Pr) : Value := .agg #[.int .i64 p.id, .int .u32 p.n, .string p.s, .string p.t]
/-- Its numbers and texts are those of a property. -/
structure Pr.ok (p : Pr) : Prop where
  n0 : 0 ≤ p.n
  n1 : p.n < 4294967296
  s1 : p.s.size ≤ 65535
  t1 : p.t.size ≤ 65535

/-- Block b holds a property. -/
def BoxAt (w : World) (b : Nat) (p : Pr) : Prop := w.heap[b]? = some (.cells #[.int .i64 p.id, .int .u32 p.n, .string p.s, .string p.t] 132 (0, 0))
theorem BoxAt.c0 {w : World} {b : Nat} {p : Pr} (h : BoxAt w b p) : w.cell? ⟨b, 0, none⟩ = some (.int .i64 p.id) := by unfold BoxAt at h; simp [World.cell?, h]
theorem BoxAt.c1 {w : World} {b : Nat} {p : Pr} (h : BoxAt w b p) : w.cell? ⟨b, 1, none⟩ = some (.int .u32 p.n) := by unfold BoxAt at h; simp [World.cell?, h]
theorem BoxAt.c2 {w : World} {b : Nat} {p : Pr} (h : BoxAt w b p) : w.cell? ⟨b, 2, none⟩ = some (.string p.s) := by unfold BoxAt at h; simp [World.cell?, h]
theorem BoxAt.c3 {w : World} {b : Nat} {p : Pr} (h : BoxAt w b p) : w.cell? ⟨b, 3, none⟩ = some (.string p.t) := by unfold BoxAt at h; simp [World.cell?, h]
theorem BoxAt.free {w : World} {b : Nat} {p : Pr} (h : BoxAt w b p) (j : Nat) : w.frozen? ⟨b, j, none⟩ = false := by unfold BoxAt at h; simp [World.frozen?, h]
theorem BoxAt.below {w w' : World} {b : Nat} {p : Pr} (h : BoxAt w b p) (hb : Below w.heap.size w w') : BoxAt w' b p := (hb.block b (lt_of_block h)).trans h
theorem BoxAt.step {w w' : World} {b o : Nat} {r r' : Option Nat} {p : Pr} (h : BoxAt w b p) (hs : Step w w' o r r') (h1 : b ≠ o) (h2 : some b ≠ r) : BoxAt w' b p := (hs.block b (lt_of_block h) h1 h2).trans h

/-- Binary data's bytes. -/
def dataL (s : ByteArray) : List UInt8 := two s.size ++ s.data.toList
/-- What a property says, as bytes. -/
def saysL (k : Int) (p : Pr) : List UInt8 :=
  if k = 1 then [UInt8.ofNat (p.n % 256).toNat] else if k = 2 then two p.n else if k = 3 then two (p.n / 65536) ++ two p.n
  else if k = 4 then varb 3 (min p.n.toNat 268435455) else if k = 7 then dataL p.s ++ dataL p.t else dataL p.s
/-- A property's bytes. -/
def oneL (p : Pr) : List UInt8 := if (ruleL p.id).kind = 0 then [] else varb 3 p.id.toNat ++ saysL (ruleL p.id).kind p

theorem kind_range (i : Int) : ((ruleL i).kind = 0 ∨ (1 ≤ i ∧ i ≤ 42)) ∧ ((ruleL i).kind = 0 ∨ (ruleL i).kind = 1 ∨ (ruleL i).kind = 2 ∨ (ruleL i).kind = 3 ∨ (ruleL i).kind = 4 ∨ (ruleL i).kind = 5 ∨ (ruleL i).kind = 6 ∨ (ruleL i).kind = 7) := by
  rcases ids_mem i with h | ⟨_, h⟩
  · have := (show ∀ i ∈ idsL, ((ruleL i).kind = 0 ∨ (1 ≤ i ∧ i ≤ 42)) ∧ ((ruleL i).kind = 0 ∨ (ruleL i).kind = 1 ∨ (ruleL i).kind = 2 ∨ (ruleL i).kind = 3 ∨ (ruleL i).kind = 4 ∨ (ruleL i).kind = 5 ∨ (ruleL i).kind = 6 ∨ (ruleL i).kind = 7) by decide)
    exact this i h
  · rw [h]; exact ⟨.inl rfl, .inl rfl⟩

theorem data_len (s : ByteArray) (h : s.size ≤ 65535) : (dataL s).length ≤ 65537 := by
  unfold dataL
  rw [List.length_append, two_len, ba_size]; omega
theorem one_len (p : Pr) (h : p.ok) : (oneL p).length ≤ 140000 := by
  have h1 := data_len p.s h.s1
  have h2 := data_len p.t h.t1
  have h3 := varb_len 3 p.id.toNat
  have h4 := varb_len 3 (min p.n.toNat 268435455)
  unfold oneL saysL
  repeat' split
  all_goals (simp only [List.length_append, List.length_cons, List.length_nil, two_len]; omega)

/-- What putOne leaves. -/
def PutP (w : World) (o : Nat) (r : Option Nat) (bs : List UInt8) (e : Ending) (w' : World) : Prop := e = .returned (.tuple #[]) ∧ Put w o r bs w'

set_option maxRecDepth 100000 in
set_option maxHeartbeats 1000000 in
theorem putOne_0 (w : World) (o : Nat) (r : Option Nat) (bs : List UInt8) (p : Pr) (hp : p.ok) (h : OutAt w o r bs) (_hl : bs.length ≤ 900000000) (hk : (ruleL p.id).kind = 0) :
    Calls Tryd.prog 131 #[.pointer (some ⟨o, 0, none⟩), prV p] w (PutP w o r (bs ++ oneL p)) := by
  have hr := (kind_range p.id).1
  have he : oneL p = [] := by unfold oneL saysL; rw [hk]; rfl
  rw [he]
  clear he
  have hst := step_box w (.cells #[.int .i64 p.id, .int .u32 p.n, .string p.s, .string p.t] 132) o r
  have hA := h.alloc (.cells #[.int .i64 p.id, .int .u32 p.n, .string p.s, .string p.t] 132)
  have hbox : BoxAt (w.alloc (.cells #[.int .i64 p.id, .int .u32 p.n, .string p.s, .string p.t] 132)) w.heap.size p := heap_alloc_new w _
  have hbo : w.heap.size ≠ o := by have := h.lt; omega
  have hbr : some w.heap.size ≠ r := fun e => by have := h.row_lt _ e.symm; omega
  obtain ⟨i, n, s, t⟩ := p
  simp only at hk hst hA hbox
  obtain ⟨n0, n1, s1, t1⟩ := hp
  simp only at n0 n1 s1 t1
  have HK := Lib.hid hk
  clear hk h
  clear hr
  go_enter Tryd.func131, Tryd.ntmps131
  go_wp2_with fail
  refine (kind3_calls _ i).mono ?_
  rw [HK.out]
  rintro e w1 ⟨rfl, b1⟩
  have box1 := hbox.below b1
  have out1 := hA.below b1
  have st1 := hst.trans (Step.of_below b1 o r)
  clear b1 hbox hA hst HK
  have HP := Lib.hid (show Put w o r (bs ++ []) w1 by rw [List.append_nil]; exact ⟨r, out1, st1⟩)
  clear out1 st1 box1
  go_wp2
  go_end0
  exact ⟨rfl, HP.out⟩

set_option maxRecDepth 100000 in
set_option maxHeartbeats 1000000 in
theorem putOne_1 (w : World) (o : Nat) (r : Option Nat) (bs : List UInt8) (p : Pr) (hp : p.ok) (h : OutAt w o r bs) (hl : bs.length ≤ 900000000) (hk : (ruleL p.id).kind = 1) :
    Calls Tryd.prog 131 #[.pointer (some ⟨o, 0, none⟩), prV p] w (PutP w o r (bs ++ oneL p)) := by
  have hr := (kind_range p.id).1
  have he : oneL p = varb 3 p.id.toNat ++ [UInt8.ofNat (p.n % 256).toNat] := by unfold oneL saysL; rw [hk]; rfl
  rw [he]
  clear he
  have hst := step_box w (.cells #[.int .i64 p.id, .int .u32 p.n, .string p.s, .string p.t] 132) o r
  have hA := h.alloc (.cells #[.int .i64 p.id, .int .u32 p.n, .string p.s, .string p.t] 132)
  have hbox : BoxAt (w.alloc (.cells #[.int .i64 p.id, .int .u32 p.n, .string p.s, .string p.t] 132)) w.heap.size p := heap_alloc_new w _
  have hbo : w.heap.size ≠ o := by have := h.lt; omega
  have hbr : some w.heap.size ≠ r := fun e => by have := h.row_lt _ e.symm; omega
  obtain ⟨i, n, s, t⟩ := p
  simp only at hk hst hA hbox
  obtain ⟨n0, n1, s1, t1⟩ := hp
  simp only at n0 n1 s1 t1
  have HK := Lib.hid hk
  clear hk h
  have hi : 1 ≤ i ∧ i ≤ 42 := by rcases hr with e | e; (· rw [HK.out] at e; exact absurd e (by decide)); exact e
  obtain ⟨i1, i2⟩ := hi
  simp only
  clear hr
  go_enter Tryd.func131, Tryd.ntmps131
  go_wp2_with fail
  refine (kind3_calls _ i).mono ?_
  rw [HK.out]
  rintro e w1 ⟨rfl, b1⟩
  have box1 := hbox.below b1
  have out1 := hA.below b1
  have st1 := hst.trans (Step.of_below b1 o r)
  clear b1 hbox hA hst HK
  have c0 := box1.c0
  simp only at c0
  go_wp2_with fail
  refine (var_any _ o r bs i i.toNat (by omega) (.inl (by omega)) out1 (by omega)).mono ?_
  rintro e w2 ⟨rfl, r2, h2, s2⟩
  have box2 := box1.step s2 hbo hbr
  have st2 := st1.trans s2
  have hbr2 : some w.heap.size ≠ r2 := by
    rcases s2.row with e | ⟨g, e, hg⟩
    · rw [e]; exact hbr
    · have := lt_of_block box1
      rw [e]; intro e'; injection e' with e'; omega
  have vl := varb_len 3 i.toNat
  generalize hV : varb 3 i.toNat = V at *
  have hL : (bs ++ V).length ≤ 900000004 := by rw [List.length_append]; omega
  clear c0 s2 st1 out1 box1 hbr hV vl
  have c1 := box2.c1
  simp only at c1
  generalize hB : bs ++ V = B at *
  have HBB := Lib.hid hB
  clear hB
  go_wp2_with fail
  refine (byte_calls _ o r2 B _ (by omega) (by omega) h2 (by omega)).mono ?_
  rintro e w3 ⟨rfl, r3, h3, s3⟩
  have HP := Lib.hid (show Put w o r _ w3 from ⟨r3, h3, st2.trans s3⟩)
  clear h2 h3 s3 st2 c1 box2
  go_wp2
  go_end0
  rw [← List.append_assoc, HBB.out]
  exact ⟨rfl, HP.out⟩

set_option maxRecDepth 100000 in
set_option maxHeartbeats 1000000 in
theorem putOne_2 (w : World) (o : Nat) (r : Option Nat) (bs : List UInt8) (p : Pr) (hp : p.ok) (h : OutAt w o r bs) (hl : bs.length ≤ 900000000) (hk : (ruleL p.id).kind = 2) :
    Calls Tryd.prog 131 #[.pointer (some ⟨o, 0, none⟩), prV p] w (PutP w o r (bs ++ oneL p)) := by
  have hr := (kind_range p.id).1
  have he : oneL p = varb 3 p.id.toNat ++ two p.n := by unfold oneL saysL; rw [hk]; rfl
  rw [he]
  clear he
  have hst := step_box w (.cells #[.int .i64 p.id, .int .u32 p.n, .string p.s, .string p.t] 132) o r
  have hA := h.alloc (.cells #[.int .i64 p.id, .int .u32 p.n, .string p.s, .string p.t] 132)
  have hbox : BoxAt (w.alloc (.cells #[.int .i64 p.id, .int .u32 p.n, .string p.s, .string p.t] 132)) w.heap.size p := heap_alloc_new w _
  have hbo : w.heap.size ≠ o := by have := h.lt; omega
  have hbr : some w.heap.size ≠ r := fun e => by have := h.row_lt _ e.symm; omega
  obtain ⟨i, n, s, t⟩ := p
  simp only at hk hst hA hbox
  obtain ⟨n0, n1, s1, t1⟩ := hp
  simp only at n0 n1 s1 t1
  have HK := Lib.hid hk
  clear hk h
  have hi : 1 ≤ i ∧ i ≤ 42 := by rcases hr with e | e; (· rw [HK.out] at e; exact absurd e (by decide)); exact e
  obtain ⟨i1, i2⟩ := hi
  simp only
  clear hr
  go_enter Tryd.func131, Tryd.ntmps131
  go_wp2_with fail
  refine (kind3_calls _ i).mono ?_
  rw [HK.out]
  rintro e w1 ⟨rfl, b1⟩
  have box1 := hbox.below b1
  have out1 := hA.below b1
  have st1 := hst.trans (Step.of_below b1 o r)
  clear b1 hbox hA hst HK
  have c0 := box1.c0
  simp only at c0
  go_wp2_with fail
  refine (var_any _ o r bs i i.toNat (by omega) (.inl (by omega)) out1 (by omega)).mono ?_
  rintro e w2 ⟨rfl, r2, h2, s2⟩
  have box2 := box1.step s2 hbo hbr
  have st2 := st1.trans s2
  have hbr2 : some w.heap.size ≠ r2 := by
    rcases s2.row with e | ⟨g, e, hg⟩
    · rw [e]; exact hbr
    · have := lt_of_block box1
      rw [e]; intro e'; injection e' with e'; omega
  have vl := varb_len 3 i.toNat
  generalize hV : varb 3 i.toNat = V at *
  have hL : (bs ++ V).length ≤ 900000004 := by rw [List.length_append]; omega
  clear c0 s2 st1 out1 box1 hbr hV vl
  have c1 := box2.c1
  simp only at c1
  generalize hB : bs ++ V = B at *
  have HBB := Lib.hid hB
  clear hB
  go_wp2_with fail
  refine (two_calls _ o r2 B n n0 n1 h2 (by omega)).mono ?_
  rintro e w3 ⟨rfl, r3, h3, s3⟩
  have HP := Lib.hid (show Put w o r _ w3 from ⟨r3, h3, st2.trans s3⟩)
  clear h2 h3 s3 st2 c1 box2
  go_wp2
  go_end0
  rw [← List.append_assoc, HBB.out]
  exact ⟨rfl, HP.out⟩

set_option maxRecDepth 100000 in
set_option maxHeartbeats 1000000 in
theorem putOne_3 (w : World) (o : Nat) (r : Option Nat) (bs : List UInt8) (p : Pr) (hp : p.ok) (h : OutAt w o r bs) (hl : bs.length ≤ 900000000) (hk : (ruleL p.id).kind = 3) :
    Calls Tryd.prog 131 #[.pointer (some ⟨o, 0, none⟩), prV p] w (PutP w o r (bs ++ oneL p)) := by
  have hr := (kind_range p.id).1
  have he : oneL p = varb 3 p.id.toNat ++ (two (p.n / 65536) ++ two p.n) := by unfold oneL saysL; rw [hk]; rfl
  rw [he]
  clear he
  have hst := step_box w (.cells #[.int .i64 p.id, .int .u32 p.n, .string p.s, .string p.t] 132) o r
  have hA := h.alloc (.cells #[.int .i64 p.id, .int .u32 p.n, .string p.s, .string p.t] 132)
  have hbox : BoxAt (w.alloc (.cells #[.int .i64 p.id, .int .u32 p.n, .string p.s, .string p.t] 132)) w.heap.size p := heap_alloc_new w _
  have hbo : w.heap.size ≠ o := by have := h.lt; omega
  have hbr : some w.heap.size ≠ r := fun e => by have := h.row_lt _ e.symm; omega
  obtain ⟨i, n, s, t⟩ := p
  simp only at hk hst hA hbox
  obtain ⟨n0, n1, s1, t1⟩ := hp
  simp only at n0 n1 s1 t1
  have HK := Lib.hid hk
  clear hk h
  have hi : 1 ≤ i ∧ i ≤ 42 := by rcases hr with e | e; (· rw [HK.out] at e; exact absurd e (by decide)); exact e
  obtain ⟨i1, i2⟩ := hi
  simp only
  clear hr
  go_enter Tryd.func131, Tryd.ntmps131
  go_wp2_with fail
  refine (kind3_calls _ i).mono ?_
  rw [HK.out]
  rintro e w1 ⟨rfl, b1⟩
  have box1 := hbox.below b1
  have out1 := hA.below b1
  have st1 := hst.trans (Step.of_below b1 o r)
  clear b1 hbox hA hst HK
  have c0 := box1.c0
  simp only at c0
  go_wp2_with fail
  refine (var_any _ o r bs i i.toNat (by omega) (.inl (by omega)) out1 (by omega)).mono ?_
  rintro e w2 ⟨rfl, r2, h2, s2⟩
  have box2 := box1.step s2 hbo hbr
  have st2 := st1.trans s2
  have hbr2 : some w.heap.size ≠ r2 := by
    rcases s2.row with e | ⟨g, e, hg⟩
    · rw [e]; exact hbr
    · have := lt_of_block box1
      rw [e]; intro e'; injection e' with e'; omega
  have vl := varb_len 3 i.toNat
  generalize hV : varb 3 i.toNat = V at *
  have hL : (bs ++ V).length ≤ 900000004 := by rw [List.length_append]; omega
  clear c0 s2 st1 out1 box1 hbr hV vl
  have c1 := box2.c1
  simp only at c1
  generalize hB : bs ++ V = B at *
  have HBB := Lib.hid hB
  clear hB
  go_wp2_with fail
  refine (four_calls _ o r2 B n n0 n1 h2 (by omega)).mono ?_
  rintro e w3 ⟨rfl, r3, h3, s3⟩
  have HP := Lib.hid (show Put w o r _ w3 from ⟨r3, h3, st2.trans s3⟩)
  clear h2 h3 s3 st2 c1 box2
  go_wp2
  go_end0
  rw [← List.append_assoc, HBB.out]
  exact ⟨rfl, HP.out⟩

set_option maxRecDepth 100000 in
set_option maxHeartbeats 1000000 in
theorem putOne_4 (w : World) (o : Nat) (r : Option Nat) (bs : List UInt8) (p : Pr) (hp : p.ok) (h : OutAt w o r bs) (hl : bs.length ≤ 900000000) (hk : (ruleL p.id).kind = 4) :
    Calls Tryd.prog 131 #[.pointer (some ⟨o, 0, none⟩), prV p] w (PutP w o r (bs ++ oneL p)) := by
  have hr := (kind_range p.id).1
  have he : oneL p = varb 3 p.id.toNat ++ varb 3 (min p.n.toNat 268435455) := by unfold oneL saysL; rw [hk]; rfl
  rw [he]
  clear he
  have hst := step_box w (.cells #[.int .i64 p.id, .int .u32 p.n, .string p.s, .string p.t] 132) o r
  have hA := h.alloc (.cells #[.int .i64 p.id, .int .u32 p.n, .string p.s, .string p.t] 132)
  have hbox : BoxAt (w.alloc (.cells #[.int .i64 p.id, .int .u32 p.n, .string p.s, .string p.t] 132)) w.heap.size p := heap_alloc_new w _
  have hbo : w.heap.size ≠ o := by have := h.lt; omega
  have hbr : some w.heap.size ≠ r := fun e => by have := h.row_lt _ e.symm; omega
  obtain ⟨i, n, s, t⟩ := p
  simp only at hk hst hA hbox
  obtain ⟨n0, n1, s1, t1⟩ := hp
  simp only at n0 n1 s1 t1
  have HK := Lib.hid hk
  clear hk h
  have hi : 1 ≤ i ∧ i ≤ 42 := by rcases hr with e | e; (· rw [HK.out] at e; exact absurd e (by decide)); exact e
  obtain ⟨i1, i2⟩ := hi
  simp only
  clear hr
  go_enter Tryd.func131, Tryd.ntmps131
  go_wp2_with fail
  refine (kind3_calls _ i).mono ?_
  rw [HK.out]
  rintro e w1 ⟨rfl, b1⟩
  have box1 := hbox.below b1
  have out1 := hA.below b1
  have st1 := hst.trans (Step.of_below b1 o r)
  clear b1 hbox hA hst HK
  have c0 := box1.c0
  simp only at c0
  go_wp2_with fail
  refine (var_any _ o r bs i i.toNat (by omega) (.inl (by omega)) out1 (by omega)).mono ?_
  rintro e w2 ⟨rfl, r2, h2, s2⟩
  have box2 := box1.step s2 hbo hbr
  have st2 := st1.trans s2
  have hbr2 : some w.heap.size ≠ r2 := by
    rcases s2.row with e | ⟨g, e, hg⟩
    · rw [e]; exact hbr
    · have := lt_of_block box1
      rw [e]; intro e'; injection e' with e'; omega
  have vl := varb_len 3 i.toNat
  generalize hV : varb 3 i.toNat = V at *
  have hL : (bs ++ V).length ≤ 900000004 := by rw [List.length_append]; omega
  clear c0 s2 st1 out1 box1 hbr hV vl
  have c1 := box2.c1
  simp only at c1
  generalize hB : bs ++ V = B at *
  have HBB := Lib.hid hB
  clear hB
  go_wp2_with fail
  refine (var_any _ o r2 B n _ (by omega) (min_clamp n n0 n1) h2 (by omega)).mono ?_
  rintro e w3 ⟨rfl, r3, h3, s3⟩
  have HP := Lib.hid (show Put w o r _ w3 from ⟨r3, h3, st2.trans s3⟩)
  clear h2 h3 s3 st2 c1 box2
  go_wp2
  go_end0
  rw [← List.append_assoc, HBB.out]
  exact ⟨rfl, HP.out⟩

set_option maxRecDepth 100000 in
set_option maxHeartbeats 1000000 in
theorem putOne_5 (w : World) (o : Nat) (r : Option Nat) (bs : List UInt8) (p : Pr) (hp : p.ok) (h : OutAt w o r bs) (hl : bs.length ≤ 900000000) (hk : (ruleL p.id).kind = 5) :
    Calls Tryd.prog 131 #[.pointer (some ⟨o, 0, none⟩), prV p] w (PutP w o r (bs ++ oneL p)) := by
  have hr := (kind_range p.id).1
  have he : oneL p = varb 3 p.id.toNat ++ (two p.s.size ++ p.s.data.toList) := by unfold oneL saysL; rw [hk]; rfl
  rw [he]
  clear he
  have hst := step_box w (.cells #[.int .i64 p.id, .int .u32 p.n, .string p.s, .string p.t] 132) o r
  have hA := h.alloc (.cells #[.int .i64 p.id, .int .u32 p.n, .string p.s, .string p.t] 132)
  have hbox : BoxAt (w.alloc (.cells #[.int .i64 p.id, .int .u32 p.n, .string p.s, .string p.t] 132)) w.heap.size p := heap_alloc_new w _
  have hbo : w.heap.size ≠ o := by have := h.lt; omega
  have hbr : some w.heap.size ≠ r := fun e => by have := h.row_lt _ e.symm; omega
  obtain ⟨i, n, s, t⟩ := p
  simp only at hk hst hA hbox
  obtain ⟨n0, n1, s1, t1⟩ := hp
  simp only at n0 n1 s1 t1
  have HK := Lib.hid hk
  clear hk h
  have hi : 1 ≤ i ∧ i ≤ 42 := by rcases hr with e | e; (· rw [HK.out] at e; exact absurd e (by decide)); exact e
  obtain ⟨i1, i2⟩ := hi
  simp only
  clear hr
  go_enter Tryd.func131, Tryd.ntmps131
  go_wp2_with fail
  refine (kind3_calls _ i).mono ?_
  rw [HK.out]
  rintro e w1 ⟨rfl, b1⟩
  have box1 := hbox.below b1
  have out1 := hA.below b1
  have st1 := hst.trans (Step.of_below b1 o r)
  clear b1 hbox hA hst HK
  have c0 := box1.c0
  simp only at c0
  go_wp2_with fail
  refine (var_any _ o r bs i i.toNat (by omega) (.inl (by omega)) out1 (by omega)).mono ?_
  rintro e w2 ⟨rfl, r2, h2, s2⟩
  have box2 := box1.step s2 hbo hbr
  have st2 := st1.trans s2
  have hbr2 : some w.heap.size ≠ r2 := by
    rcases s2.row with e | ⟨g, e, hg⟩
    · rw [e]; exact hbr
    · have := lt_of_block box1
      rw [e]; intro e'; injection e' with e'; omega
  have vl := varb_len 3 i.toNat
  generalize hV : varb 3 i.toNat = V at *
  have hL : (bs ++ V).length ≤ 900000004 := by rw [List.length_append]; omega
  clear c0 s2 st1 out1 box1 hbr hV vl
  have c1 := box2.c2
  simp only at c1
  generalize hB : bs ++ V = B at *
  have HBB := Lib.hid hB
  clear hB
  go_wp2_with fail
  refine (data_calls _ o r2 B s h2 s1 (by omega)).mono ?_
  rintro e w3 ⟨rfl, r3, h3, s3⟩
  have HP := Lib.hid (show Put w o r _ w3 from ⟨r3, h3, st2.trans s3⟩)
  clear h2 h3 s3 st2 c1 box2
  go_wp2
  go_end0
  rw [← List.append_assoc, HBB.out]
  exact ⟨rfl, HP.out⟩

set_option maxRecDepth 100000 in
set_option maxHeartbeats 1000000 in
theorem putOne_6 (w : World) (o : Nat) (r : Option Nat) (bs : List UInt8) (p : Pr) (hp : p.ok) (h : OutAt w o r bs) (hl : bs.length ≤ 900000000) (hk : (ruleL p.id).kind = 6) :
    Calls Tryd.prog 131 #[.pointer (some ⟨o, 0, none⟩), prV p] w (PutP w o r (bs ++ oneL p)) := by
  have hr := (kind_range p.id).1
  have he : oneL p = varb 3 p.id.toNat ++ (two p.s.size ++ p.s.data.toList) := by unfold oneL saysL; rw [hk]; rfl
  rw [he]
  clear he
  have hst := step_box w (.cells #[.int .i64 p.id, .int .u32 p.n, .string p.s, .string p.t] 132) o r
  have hA := h.alloc (.cells #[.int .i64 p.id, .int .u32 p.n, .string p.s, .string p.t] 132)
  have hbox : BoxAt (w.alloc (.cells #[.int .i64 p.id, .int .u32 p.n, .string p.s, .string p.t] 132)) w.heap.size p := heap_alloc_new w _
  have hbo : w.heap.size ≠ o := by have := h.lt; omega
  have hbr : some w.heap.size ≠ r := fun e => by have := h.row_lt _ e.symm; omega
  obtain ⟨i, n, s, t⟩ := p
  simp only at hk hst hA hbox
  obtain ⟨n0, n1, s1, t1⟩ := hp
  simp only at n0 n1 s1 t1
  have HK := Lib.hid hk
  clear hk h
  have hi : 1 ≤ i ∧ i ≤ 42 := by rcases hr with e | e; (· rw [HK.out] at e; exact absurd e (by decide)); exact e
  obtain ⟨i1, i2⟩ := hi
  simp only
  clear hr
  go_enter Tryd.func131, Tryd.ntmps131
  go_wp2_with fail
  refine (kind3_calls _ i).mono ?_
  rw [HK.out]
  rintro e w1 ⟨rfl, b1⟩
  have box1 := hbox.below b1
  have out1 := hA.below b1
  have st1 := hst.trans (Step.of_below b1 o r)
  clear b1 hbox hA hst HK
  have c0 := box1.c0
  simp only at c0
  go_wp2_with fail
  refine (var_any _ o r bs i i.toNat (by omega) (.inl (by omega)) out1 (by omega)).mono ?_
  rintro e w2 ⟨rfl, r2, h2, s2⟩
  have box2 := box1.step s2 hbo hbr
  have st2 := st1.trans s2
  have hbr2 : some w.heap.size ≠ r2 := by
    rcases s2.row with e | ⟨g, e, hg⟩
    · rw [e]; exact hbr
    · have := lt_of_block box1
      rw [e]; intro e'; injection e' with e'; omega
  have vl := varb_len 3 i.toNat
  generalize hV : varb 3 i.toNat = V at *
  have hL : (bs ++ V).length ≤ 900000004 := by rw [List.length_append]; omega
  clear c0 s2 st1 out1 box1 hbr hV vl
  have c1 := box2.c2
  simp only at c1
  generalize hB : bs ++ V = B at *
  have HBB := Lib.hid hB
  clear hB
  go_wp2_with fail
  refine (data_calls _ o r2 B s h2 s1 (by omega)).mono ?_
  rintro e w3 ⟨rfl, r3, h3, s3⟩
  have HP := Lib.hid (show Put w o r _ w3 from ⟨r3, h3, st2.trans s3⟩)
  clear h2 h3 s3 st2 c1 box2
  go_wp2
  go_end0
  rw [← List.append_assoc, HBB.out]
  exact ⟨rfl, HP.out⟩

end Go.Proofs.YtnpkiknidmhciaaDoor

namespace Go.Proofs.YtnpkiknidmhciaaDoor
open Go.RowKit

theorem Step.drew {w w' : World} {o : Nat} {r r' : Option Nat} (h : Step w w' o r r') : Step w w'.drew o r r' := ⟨h.os, h.tape, h.output, h.size, h.block, h.row⟩
theorem row_other {w w' : World} {o b : Nat} {r r' : Option Nat} (h : Step w w' o r r') (hb : b < w.heap.size) (hne : some b ≠ r) : some b ≠ r' := by
  rcases h.row with e | ⟨g, e, hg⟩
  · rw [e]; exact hne
  · rw [e]; intro e'; injection e' with e'; omega

set_option maxRecDepth 100000 in
set_option maxHeartbeats 1000000 in
theorem putOne_7 (w : World) (o : Nat) (r : Option Nat) (bs : List UInt8) (p : Pr) (hp : p.ok) (h : OutAt w o r bs) (hl : bs.length ≤ 900000000) (hk : (ruleL p.id).kind = 7) :
    Calls Tryd.prog 131 #[.pointer (some ⟨o, 0, none⟩), prV p] w (PutP w o r (bs ++ oneL p)) := by
  have hr := (kind_range p.id).1
  have he : oneL p = varb 3 p.id.toNat ++ ((two p.s.size ++ p.s.data.toList) ++ (two p.t.size ++ p.t.data.toList)) := by unfold oneL saysL; rw [hk]; rfl
  rw [he]
  clear he
  have hst := step_box w (.cells #[.int .i64 p.id, .int .u32 p.n, .string p.s, .string p.t] 132) o r
  have hA := h.alloc (.cells #[.int .i64 p.id, .int .u32 p.n, .string p.s, .string p.t] 132)
  have hbox : BoxAt (w.alloc (.cells #[.int .i64 p.id, .int .u32 p.n, .string p.s, .string p.t] 132)) w.heap.size p := heap_alloc_new w _
  have hbo : w.heap.size ≠ o := by have := h.lt; omega
  have hbr : some w.heap.size ≠ r := fun e => by have := h.row_lt _ e.symm; omega
  obtain ⟨i, n, s, t⟩ := p
  simp only at hk hst hA hbox
  obtain ⟨n0, n1, s1, t1⟩ := hp
  simp only at n0 n1 s1 t1
  have HK := Lib.hid hk
  clear hk h
  have hi : 1 ≤ i ∧ i ≤ 42 := by rcases hr with e | e; (· rw [HK.out] at e; exact absurd e (by decide)); exact e
  obtain ⟨i1, i2⟩ := hi
  simp only
  clear hr
  go_enter Tryd.func131, Tryd.ntmps131
  go_wp2_with fail
  refine (kind3_calls _ i).mono ?_
  rw [HK.out]
  rintro e w1 ⟨rfl, b1⟩
  have box1 := hbox.below b1
  have out1 := hA.below b1
  have st1 := hst.trans (Step.of_below b1 o r)
  clear b1 hbox hA hst HK
  have c0 := box1.c0
  simp only at c0
  go_wp2_with fail
  refine (var_any _ o r bs i i.toNat (by omega) (.inl (by omega)) out1 (by omega)).mono ?_
  rintro e w2 ⟨rfl, r2, h2, s2⟩
  have box2 := box1.step s2 hbo hbr
  have st2 := st1.trans s2
  have hbr2 : some w.heap.size ≠ r2 := by
    rcases s2.row with e | ⟨g, e, hg⟩
    · rw [e]; exact hbr
    · have := lt_of_block box1
      rw [e]; intro e'; injection e' with e'; omega
  have vl := varb_len 3 i.toNat
  generalize hV : varb 3 i.toNat = V at *
  have hL : (bs ++ V).length ≤ 900000004 := by rw [List.length_append]; omega
  clear c0 s2 st1 out1 box1 hbr hV vl
  have c2 := box2.c2
  have c3 := box2.c3
  simp only at c2 c3
  generalize hB : bs ++ V = B at *
  have HBB := Lib.hid hB
  clear hB
  have hd1 : (two s.size ++ s.data.toList).length ≤ 65537 := data_len s s1
  generalize hD1 : two s.size ++ s.data.toList = D1 at *
  generalize hD2 : two t.size ++ t.data.toList = D2 at *
  have HD1 := Lib.hid hD1
  have HD2 := Lib.hid hD2
  clear hD1 hD2
  go_wp2_with fail
  have od : OutAt w2.drew o r2 B := h2
  have OD := Lib.hid od
  have hS0 : w2.drew.cell? ⟨w.heap.size, 2, none⟩ = some (.string s) ∧ w2.drew.cell? ⟨w.heap.size, 3, none⟩ = some (.string t) := ⟨c2, c3⟩
  have HS0 := Lib.hid hS0
  have bd : BoxAt w2.drew w.heap.size ⟨i, n, s, t⟩ := box2
  have BD := Lib.hid bd
  have sd : Step w w2.drew o r r2 := st2.drew
  have SD := Lib.hid sd
  clear od hS0 bd sd
  go_region_held3 (fun wx => wx.cell? ⟨w.heap.size, 2, none⟩ = some (.string s) ∧ wx.cell? ⟨w.heap.size, 3, none⟩ = some (.string t))
    (first | exact HS0.out | exact K3.out | exact K4.out | fail)
    (first
      | (go_at_call 86; (with_reducible refine (data_calls _ o r2 B s OD.out s1 (by omega)).mono ?_); rw [HD1.out]; rintro e w3 ⟨rfl, r3, h3, s3⟩; have box3 := BD.out.step s3 hbo hbr2; have K3 := Lib.hid (show w3.cell? ⟨w.heap.size, 2, none⟩ = some (.string s) ∧ w3.cell? ⟨w.heap.size, 3, none⟩ = some (.string t) from ⟨box3.c2, box3.c3⟩); have hbr3 := row_other s3 (lt_of_block BD.out) hbr2; have BX3 := Lib.hid box3; have S3 := Lib.hid s3; clear box3 s3)
      | (go_at_call 86; (with_reducible refine (data_calls _ o r3 _ t h3 t1 (by rw [List.length_append]; omega)).mono ?_); rw [HD2.out]; rintro e w4 ⟨rfl, r4, h4, s4⟩; have box4 := BX3.out.step s4 hbo hbr3; have K4 := Lib.hid (show w4.cell? ⟨w.heap.size, 2, none⟩ = some (.string s) ∧ w4.cell? ⟨w.heap.size, 3, none⟩ = some (.string t) from ⟨box4.c2, box4.c3⟩); clear box4))
  rename_i hHeld
  have HP := Lib.hid (show Put w o r _ w4 from ⟨r4, h4, (SD.out.trans S3.out).trans s4⟩)
  clear hHeld h4 s4 h3 S3 BX3 K3 K4 SD BD HS0 OD h2 st2 box2 c2 c3
  go_wp2
  go_end0
  refine ⟨rfl, ?_⟩
  rw [← List.append_assoc, HBB.out, ← List.append_assoc]
  exact HP.out

theorem putOne_calls (w : World) (o : Nat) (r : Option Nat) (bs : List UInt8) (p : Pr) (hp : p.ok) (h : OutAt w o r bs) (hl : bs.length ≤ 900000000) :
    Calls Tryd.prog 131 #[.pointer (some ⟨o, 0, none⟩), prV p] w (PutP w o r (bs ++ oneL p)) := by
  rcases (kind_range p.id).2 with h0 | h0 | h0 | h0 | h0 | h0 | h0 | h0
  · exact putOne_0 w o r bs p hp h hl h0
  · exact putOne_1 w o r bs p hp h hl h0
  · exact putOne_2 w o r bs p hp h hl h0
  · exact putOne_3 w o r bs p hp h hl h0
  · exact putOne_4 w o r bs p hp h hl h0
  · exact putOne_5 w o r bs p hp h hl h0
  · exact putOne_6 w o r bs p hp h hl h0
  · exact putOne_7 w o r bs p hp h hl h0

#print axioms putOne_calls
end Go.Proofs.YtnpkiknidmhciaaDoor

namespace Go.Proofs.YtnpkiknidmhciaaDoor
open Go.RowKit

/-- The cells of a property. -/
def prC (p : Pr) : List Value := [.int .i64 p.id, .int .u32 p.n, .string p.s, .string p.t]

theorem prC_at : ∀ (P : List Pr) (i k : Nat), k < 4 → (P.flatMap prC)[i * 4 + k]? = (P[i]?).bind fun p => (prC p)[k]?
  | [], i, k, _ => by simp
  | p :: P, 0, k, hk => by
    rw [List.flatMap_cons, List.getElem?_append_left (by simp [prC]; omega)]
    simp
  | p :: P, i + 1, k, hk => by
    rw [List.flatMap_cons, List.getElem?_append_right (by simp [prC]; omega)]
    have : (i + 1) * 4 + k - (prC p).length = i * 4 + k := by simp [prC]; omega
    rw [this, prC_at P i k hk]
    simp
theorem prC_len (P : List Pr) : (P.flatMap prC).length = P.length * 4 := by
  induction P with
  | nil => rfl
  | cons p P ih => rw [List.flatMap_cons, List.length_append, ih]; simp [prC]; omega
theorem prC_one (P : List Pr) : ∀ u ∈ P.flatMap prC, u.oneCell' = true := by
  intro u hu
  obtain ⟨p, _, hp⟩ := List.mem_flatMap.1 hu
  simp [prC] at hp
  rcases hp with rfl | rfl | rfl | rfl <;> rfl

/-- A slice that reads as a list of properties. -/
def PropsAt (W : World) (v : Value) (P : List Pr) : Prop :=
  ∃ A cap, v = .slice A P.length cap ∧ ∀ (i : Nat) (x : Pr), P[i]? = some x →
    ∃ b off, A = some ⟨b, off, none⟩ ∧ b < W.heap.size ∧ W.cell? ⟨b, off + i * 4, none⟩ = some (.int .i64 x.id) ∧ W.cell? ⟨b, off + i * 4 + 1, none⟩ = some (.int .u32 x.n) ∧
      W.cell? ⟨b, off + i * 4 + 2, none⟩ = some (.string x.s) ∧ W.cell? ⟨b, off + i * 4 + 3, none⟩ = some (.string x.t)

theorem PropsAt.below {W W' : World} {v : Value} {P : List Pr} (h : PropsAt W v P) (hb : Below W.heap.size W W') : PropsAt W' v P := by
  obtain ⟨A, cap, rfl, hc⟩ := h
  refine ⟨A, cap, rfl, fun i x hx => ?_⟩
  obtain ⟨b, off, hA, hl, c0, c1, c2, c3⟩ := hc i x hx
  exact ⟨b, off, hA, Nat.lt_of_lt_of_le hl hb.size, (hb.cell (p := ⟨b, _, none⟩) hl).trans c0, (hb.cell (p := ⟨b, _, none⟩) hl).trans c1, (hb.cell (p := ⟨b, _, none⟩) hl).trans c2, (hb.cell (p := ⟨b, _, none⟩) hl).trans c3⟩

/-- A row of properties of the call's own, from block B on; its elements' type is e. -/
def OwnP (B : Nat) (e : TypeId) (w : World) (v : Value) (P : List Pr) : Prop := w.ownsRow B e 4 v P.length (P.flatMap prC)

theorem OwnP.props {B : Nat} {e : TypeId} {w : World} {v : Value} {P : List Pr} (h : OwnP B e w v P) : PropsAt w v P := by
  rcases h.2 with ⟨rfl, h0⟩ | ⟨g, cap, cur, rfl, _, hg, hrest⟩
  · have : P = [] := List.eq_nil_of_length_eq_zero h0
    subst this
    exact ⟨none, 0, rfl, fun i x hx => by simp at hx⟩
  · refine ⟨_, cap, rfl, fun i x hx => ⟨g, 0, rfl, lt_of_block hg, ?_⟩⟩
    have hi : i < P.length := (List.getElem?_eq_some_iff.1 hx).1
    have hcell : ∀ k, k < 4 → w.cell? ⟨g, i * 4 + k, none⟩ = (prC x)[k]? := by
      intro k hk
      have := World.ownsRow.cellAt h (i * 4 + k) (by omega)
      rw [this, prC_at P i k hk, hx]
      rfl
    refine ⟨?_, ?_, ?_, ?_⟩
    · rw [Nat.zero_add]; exact hcell 0 (by omega)
    · rw [Nat.zero_add]; exact hcell 1 (by omega)
    · rw [Nat.zero_add]; exact hcell 2 (by omega)
    · rw [Nat.zero_add]; exact hcell 3 (by omega)

/-- The bytes of properties, without and with how many. -/
def bodyL (P : List Pr) : List UInt8 := P.flatMap oneL
def propsL (P : List Pr) : List UInt8 := varb 3 (bodyL P).length ++ bodyL P

theorem bodyL_len (P : List Pr) (h : ∀ p ∈ P, p.ok) : (bodyL P).length ≤ 140000 * P.length := by
  induction P with
  | nil => simp [bodyL]
  | cons p P ih =>
    have h1 := one_len p (h p (by simp))
    have h2 := ih (fun q hq => h q (by simp [hq]))
    unfold bodyL at *
    rw [List.flatMap_cons, List.length_append, List.length_cons]
    omega
theorem bodyL_snoc (P : List Pr) (k : Nat) (x : Pr) (h : P[k]? = some x) : bodyL (P.take (k + 1)) = bodyL (P.take k) ++ oneL x := by
  obtain ⟨hk, rfl⟩ := List.getElem?_eq_some_iff.1 h
  rw [bodyL, bodyL, List.take_succ_eq_append_getElem hk, List.flatMap_append]
  simp

set_option maxRecDepth 100000 in
set_option maxHeartbeats 2000000 in
theorem put3_calls (w : World) (o : Nat) (r : Option Nat) (bs : List UInt8) (v : Value) (P : List Pr) (hP : PropsAt w v P) (hok : ∀ p ∈ P, p.ok) (hn : P.length ≤ 1000) (h : OutAt w o r bs) (hl : bs.length ≤ 500000000) :
    Calls Tryd.prog 90 #[.pointer (some ⟨o, 0, none⟩), v] w (PutP w o r (bs ++ propsL P)) := by
  have hbl := bodyL_len P hok
  obtain ⟨A, cap, rfl, hc⟩ := hP
  have HC := Lib.hid hc
  have HOK := Lib.hid hok
  have HO := Lib.hid h
  clear hc hok h
  generalize hR : propsL P = R
  have HR := Lib.hid hR
  clear hR
  go_enter Tryd.func90, Tryd.ntmps90
  go_wp2
  go_loopw [9] (fun i wr => ∃ (k : Nat) (r' : Option Nat), k ≤ P.length ∧ i = .int .i64 k ∧ OutAt wr w.heap.size r' (bodyL (P.take k)) ∧ (∀ g, r' = some g → w.heap.size ≤ g) ∧ Below w.heap.size w wr) (fun i _ => P.length - (intOf i).toNat)
  case atStart => exact ⟨0, none, by omega, rfl, OutAt.new w, (fun g hg => by cases hg), below_one w _⟩
  case round =>
    obtain ⟨k, r', hk, rfl, hout, hrow, hb⟩ := hrel
    have HW := Lib.hid hrow
    have HB := Lib.hid hb
    have hz := hb.size
    clear hrow hb
    by_cases hlt : k < P.length
    · obtain ⟨x, hx⟩ : ∃ x, P[k]? = some x := ⟨_, List.getElem?_eq_getElem hlt⟩
      obtain ⟨b, off, hA, hbl2, c0, c1, c2, c3⟩ := HC.out k x hx
      rw [← HB.out.cell (p := ⟨b, _, none⟩) hbl2] at c0 c1 c2 c3
      subst hA
      have HX := Lib.hid hx
      have hxok := HOK.out x (List.mem_of_getElem? hx)
      have HXO := Lib.hid hxok
      have hbl3 : (bodyL (P.take k)).length ≤ 140000 * k := by
        have := bodyL_len (P.take k) (fun p hp => HOK.out p (List.mem_of_mem_take hp))
        rw [List.length_take] at this
        omega
      have HL := Lib.hid hbl3
      have HOU := Lib.hid hout
      clear hx hxok hbl3 hout
      go_wp2_with fail
      refine (putOne_calls _ w.heap.size r' _ x HXO.out (HOU.out.alloc _) (by have := HL.out; omega)).mono ?_
      rintro e w1 ⟨rfl, r1, h1, s1⟩
      have hb1 : Below w.heap.size w w1 := (HB.out.alloc hz _).trans (s1.below (by simp; omega) (Nat.le_refl _) HW.out)
      have hr1 := s1.row_ge (B := w.heap.size) (by simp; omega) HW.out
      rw [← bodyL_snoc P k x HX.out] at h1
      have HB1 := Lib.hid hb1
      have HR1 := Lib.hid hr1
      have HO1 := Lib.hid h1
      clear s1 HW HB h1 hb1 hr1 HOU HXO c0 c1 c2 c3
      go_wp2
      go_roundw
      case rel => exact ⟨k + 1, r1, by omega, by go_num, HO1.out, HR1.out, HB1.out⟩
      case measure => simp [intOf]; omega
    · obtain rfl : k = P.length := by omega
      rw [List.take_length] at hout
      clear hk hlt
      have hol : o < w.heap.size := HO.out.lt
      have hrl : ∀ g, r = some g → g < w.heap.size := HO.out.row_lt
      have ho2 := HO.out.below HB.out
      have HRL := Lib.hid hrl
      clear hrl
      have hRL : (bodyL P).length < 268435455 := by omega
      have HQ : Hid (∀ wx r2, Step wr wx o r r2 → OutAt wx w.heap.size r' (bodyL P)) := by
        intro wx r2 hs
        refine hout.keep (hs.block _ hout.lt (by omega) (fun e => by have := HRL.out _ e.symm; omega)) (fun g hg => ?_)
        have h1 := HW.out g hg
        exact hs.block g (hout.row_lt g hg) (by omega) (fun e => by have := HRL.out _ e.symm; omega)
      have HR2 := HR.out
      unfold propsL at HR2
      have HR3 := Lib.hid HR2
      clear HR2 HR
      generalize bodyL P = D at *
      go_wp2_with fail
      refine (len_calls _ _ r' _ hout).mono ?_
      rintro e w1 ⟨rfl, rfl⟩
      clear hout
      go_wp2_with fail
      refine (var_any _ o r bs D.length D.length (by omega) (.inl rfl) ho2 (by omega)).mono ?_
      rintro e w2 ⟨rfl, r2, h2, s2⟩
      have hout2 := HQ.out w2 r2 s2
      have hvl := varb_len 3 D.length
      have HS2 := Lib.hid s2
      clear HQ s2 ho2
      go_wp2_with fail
      refine (text_calls _ _ r' _ hout2).mono ?_
      rintro e w3 ⟨rfl, rfl⟩
      clear hout2
      go_wp2_with fail
      refine (raw_calls _ o r2 _ (str D) h2 (by rw [str_size, List.length_append]; omega)).mono ?_
      rw [str_data, List.append_assoc, HR3.out]
      rintro e w4 ⟨rfl, r4, h4, s4⟩
      have HP := Lib.hid (show Put w o r (bs ++ R) w4 from ⟨r4, h4, ((Step.of_below HB.out o r).trans HS2.out).trans s4⟩)
      clear h2 h4 s4 HS2 HB HW
      go_wp2
      go_end0
      exact ⟨rfl, HP.out⟩

#print axioms put3_calls
end Go.Proofs.YtnpkiknidmhciaaDoor

namespace Go.Proofs.YtnpkiknidmhciaaDoor
open Go.RowKit

/-- A string taken. -/
def strT (s : ByteArray) (x : Int) : ByteArray × ByteArray × Int :=
  if goodB (rawT (rawT s x 2).2.1 (rawT s x 2).2.2 (numL (rawT s x 2).1.data.toList)).1 = true then rawT (rawT s x 2).2.1 (rawT s x 2).2.2 (numL (rawT s x 2).1.data.toList)
  else (⟨#[]⟩, (rawT (rawT s x 2).2.1 (rawT s x 2).2.2 (numL (rawT s x 2).1.data.toList)).2.1, 2)

theorem TakS.eq {s a s2 : ByteArray} {x x2 : Int} (h : TakS s x a s2 x2) : strT s x = (a, s2, x2) := by
  obtain ⟨t, s1, x1, t2, y, hr, hr2, rfl, rfl, _, _⟩ := h.out
  unfold strT
  rw [hr]
  dsimp only
  rw [hr2]
  dsimp only
  cases goodB t2 <;> rfl
theorem strT_tak (s : ByteArray) (x : Int) : TakS s x (strT s x).1 (strT s x).2.1 (strT s x).2.2 := by
  obtain ⟨a, s2, x2, h⟩ := takS s x
  rw [h.eq]
  exact h

/-- Binary data taken. -/
def datT (s : ByteArray) (x : Int) : ByteArray × ByteArray × Int := rawT (rawT s x 2).2.1 (rawT s x 2).2.2 (numL (rawT s x 2).1.data.toList)

/-- What a property says, taken: the property, what is left, the error. -/
def oneT (kd i : Int) (s : ByteArray) : Pr × ByteArray × Int :=
  if kd = 1 then (⟨i, numL (rawT s 0 1).1.data.toList, ⟨#[]⟩, ⟨#[]⟩⟩, (rawT s 0 1).2)
  else if kd = 2 then (⟨i, numL (rawT s 0 2).1.data.toList, ⟨#[]⟩, ⟨#[]⟩⟩, (rawT s 0 2).2)
  else if kd = 3 then (⟨i, numL (rawT s 0 4).1.data.toList, ⟨#[]⟩, ⟨#[]⟩⟩, (rawT s 0 4).2)
  else if kd = 4 then (⟨i, (varT 3 0 0 s 0).1, ⟨#[]⟩, ⟨#[]⟩⟩, (varT 3 0 0 s 0).2)
  else if kd = 5 then (⟨i, 0, (strT s 0).1, ⟨#[]⟩⟩, (strT s 0).2)
  else if kd = 6 then (⟨i, 0, (datT s 0).1, ⟨#[]⟩⟩, (datT s 0).2)
  else (⟨i, 0, if (strT (strT s 0).2.1 (strT s 0).2.2).2.2 = 0 then (strT s 0).1 else ⟨#[]⟩, if (strT (strT s 0).2.1 (strT s 0).2.2).2.2 = 0 then (strT (strT s 0).2.1 (strT s 0).2.2).1 else ⟨#[]⟩⟩, (strT (strT s 0).2.1 (strT s 0).2.2).2)

theorem Chg.setNew {p b j : Nat} {w w1 : World} {u : Value} (h : Chg p w w1) (hb : w.heap.size ≤ b) : Chg p w (w1.setCell ⟨b, j, none⟩ u) :=
  ⟨h.os, h.tape, h.output, by simpa [World.setCell] using h.size, fun k hk hne => (Below.heap_setCell w1 ⟨b, j, none⟩ u k (by show k ≠ b; omega)).trans (h.block k hk hne)⟩

theorem InAt.setOther {w : World} {p b j : Nat} {s : ByteArray} {x : Int} {u : Value} (h : InAt w p s x) (hne : p ≠ b) : InAt (w.setCell ⟨b, j, none⟩ u) p s x := h.keep (Below.heap_setCell w ⟨b, j, none⟩ u p hne)

/-- Four cells of a block. -/
theorem four_cells {w : World} {b : Nat} {a c d e : Value} {t : TypeId} (h : w.heap[b]? = some (.cells #[a, c, d, e] t (0, 0))) :
    (w.cell? ⟨b, 0, none⟩ = some a ∧ w.cell? ⟨b, 1, none⟩ = some c ∧ w.cell? ⟨b, 2, none⟩ = some d ∧ w.cell? ⟨b, 3, none⟩ = some e) ∧
    (w.frozen? ⟨b, 0, none⟩ = false ∧ w.frozen? ⟨b, 1, none⟩ = false ∧ w.frozen? ⟨b, 2, none⟩ = false ∧ w.frozen? ⟨b, 3, none⟩ = false) := by
  simp [World.cell?, World.frozen?, h]

/-- What takeOne answers, and leaves. -/
def TookP (w : World) (p : Nat) (r : Pr × ByteArray × Int) (e : Ending) (w' : World) : Prop := e = .returned (prV r.1) ∧ TookS w p r.2.1 r.2.2 w'

/-- Behind a call, ahead of the stores: both blocks are there. -/
theorem boxes_kept {w w1 : World} {p : Nat} {o1 o2 : Obj} (hp : p < w.heap.size) (h : Chg p ((w.alloc o1).alloc o2) w1) : w1.heap[w.heap.size]? = some o1 ∧ w1.heap[w.heap.size + 1]? = some o2 ∧ w.heap.size + 2 ≤ w1.heap.size ∧ Chg p w w1 := by
  have h1 : ((w.alloc o1).alloc o2).heap[w.heap.size]? = some o1 := (Below.heap_alloc _ o2 _ (by simp)).trans (heap_alloc_new w o1)
  have h2 : ((w.alloc o1).alloc o2).heap[w.heap.size + 1]? = some o2 := by have := heap_alloc_new (w.alloc o1) o2; simpa using this
  refine ⟨(h.block _ (by simp; omega) (fun e => by injection e; omega)).trans h1, (h.block _ (by simp) (fun e => by injection e; omega)).trans h2, by simpa using h.size, ?_⟩
  exact (Chg.of_below (below_two w o1 o2)).trans h

set_option maxRecDepth 100000 in
set_option maxHeartbeats 1000000 in
theorem takeOne_1 (w : World) (p : Nat) (s : ByteArray) (i : Int) (h : InAt w p s 0) (hT : Tabs w) :
    Calls Tryd.prog 142 #[.pointer (some ⟨p, 0, none⟩), .int .i64 i, .int .i64 1] w (TookP w p (oneT 1 i s)) := by
  generalize hr : rawT s 0 1 = R
  obtain ⟨t, s', x'⟩ := R
  have he : oneT 1 i s = (⟨i, numL t.data.toList, ⟨#[]⟩, ⟨#[]⟩⟩, s', x') := by show (_, _) = _; rw [hr]
  have hlt := num_lt1 s 0 t s' x' hr
  rw [he]
  have HR := Lib.hid hr
  clear hr he
  generalize hN : numL t.data.toList = N at *
  have HN := Lib.hid hN
  clear hN
  have hp := h.lt
  have hI := InAt.below h (below_two w (.cells #[.int .i64 0, .int .u32 0, .string ⟨#[]⟩, .string ⟨#[]⟩] 132) (.cells #[.int .i64 i, .int .u32 0, .string ⟨#[]⟩, .string ⟨#[]⟩] 132))
  have HTT := Lib.hid (hT.below (below_two w (.cells #[.int .i64 0, .int .u32 0, .string ⟨#[]⟩, .string ⟨#[]⟩] 132) (.cells #[.int .i64 i, .int .u32 0, .string ⟨#[]⟩, .string ⟨#[]⟩] 132)))
  clear h hT
  go_enter Tryd.func142, Tryd.ntmps142
  go_wp2_with fail
  refine (byteIn_calls _ p s 0 t s' x' HR.out hI).mono ?_
  rw [HN.out]
  rintro e w1 ⟨rfl, hi, hc⟩
  obtain ⟨k6, k7, hz, hchg⟩ := boxes_kept hp (Chg.of_only hc)
  obtain ⟨⟨c0, c1, c2, c3⟩, f0, f1, f2, f3⟩ := four_cells k6
  obtain ⟨⟨d0, d1, d2, d3⟩, g0, g1, g2, g3⟩ := four_cells k7
  have HI := Lib.hid hi
  have HC := Lib.hid hchg
  clear hi hc hchg k6 k7 hI HTT
  go_wp2
  refine bodyPost_ret (v := prV ⟨i, N, ⟨#[]⟩, ⟨#[]⟩⟩) ?_ rfl ⟨rfl, ?_, ?_⟩
  · simp [results, Tryd.results142, go_sem, c0, c1, c2, c3]
  · repeat (refine InAt.setOther ?_ (by omega))
    exact HI.out
  · repeat (refine Chg.setNew ?_ (by omega))
    exact HC.out

set_option maxRecDepth 100000 in
set_option maxHeartbeats 1000000 in
theorem takeOne_2 (w : World) (p : Nat) (s : ByteArray) (i : Int) (h : InAt w p s 0) (hT : Tabs w) :
    Calls Tryd.prog 142 #[.pointer (some ⟨p, 0, none⟩), .int .i64 i, .int .i64 2] w (TookP w p (oneT 2 i s)) := by
  generalize hr : rawT s 0 2 = R
  obtain ⟨t, s', x'⟩ := R
  have he : oneT 2 i s = (⟨i, numL t.data.toList, ⟨#[]⟩, ⟨#[]⟩⟩, s', x') := by show (_, _) = _; rw [hr]
  rw [he]
  have HR := Lib.hid hr
  clear hr he
  generalize hN : numL t.data.toList = N at *
  have HN := Lib.hid hN
  clear hN
  have hp := h.lt
  have hI := InAt.below h (below_two w (.cells #[.int .i64 0, .int .u32 0, .string ⟨#[]⟩, .string ⟨#[]⟩] 132) (.cells #[.int .i64 i, .int .u32 0, .string ⟨#[]⟩, .string ⟨#[]⟩] 132))
  have HTT := Lib.hid (hT.below (below_two w (.cells #[.int .i64 0, .int .u32 0, .string ⟨#[]⟩, .string ⟨#[]⟩] 132) (.cells #[.int .i64 i, .int .u32 0, .string ⟨#[]⟩, .string ⟨#[]⟩] 132)))
  clear h hT
  go_enter Tryd.func142, Tryd.ntmps142
  go_wp2_with fail
  refine (twoIn_calls _ p s 0 t s' x' HR.out hI).mono ?_
  rw [HN.out]
  rintro e w1 ⟨rfl, hi, hc⟩
  obtain ⟨k6, k7, hz, hchg⟩ := boxes_kept hp (Chg.of_only hc)
  obtain ⟨⟨c0, c1, c2, c3⟩, f0, f1, f2, f3⟩ := four_cells k6
  obtain ⟨⟨d0, d1, d2, d3⟩, g0, g1, g2, g3⟩ := four_cells k7
  have HI := Lib.hid hi
  have HC := Lib.hid hchg
  clear hi hc hchg k6 k7 hI HTT
  go_wp2
  refine bodyPost_ret (v := prV ⟨i, N, ⟨#[]⟩, ⟨#[]⟩⟩) ?_ rfl ⟨rfl, ?_, ?_⟩
  · simp [results, Tryd.results142, go_sem, c0, c1, c2, c3]
  · repeat (refine InAt.setOther ?_ (by omega))
    exact HI.out
  · repeat (refine Chg.setNew ?_ (by omega))
    exact HC.out

set_option maxRecDepth 100000 in
set_option maxHeartbeats 1000000 in
theorem takeOne_3 (w : World) (p : Nat) (s : ByteArray) (i : Int) (h : InAt w p s 0) (hT : Tabs w) :
    Calls Tryd.prog 142 #[.pointer (some ⟨p, 0, none⟩), .int .i64 i, .int .i64 3] w (TookP w p (oneT 3 i s)) := by
  generalize hr : rawT s 0 4 = R
  obtain ⟨t, s', x'⟩ := R
  have he : oneT 3 i s = (⟨i, numL t.data.toList, ⟨#[]⟩, ⟨#[]⟩⟩, s', x') := by show (_, _) = _; rw [hr]
  rw [he]
  have HR := Lib.hid hr
  clear hr he
  generalize hN : numL t.data.toList = N at *
  have HN := Lib.hid hN
  clear hN
  have hp := h.lt
  have hI := InAt.below h (below_two w (.cells #[.int .i64 0, .int .u32 0, .string ⟨#[]⟩, .string ⟨#[]⟩] 132) (.cells #[.int .i64 i, .int .u32 0, .string ⟨#[]⟩, .string ⟨#[]⟩] 132))
  have HTT := Lib.hid (hT.below (below_two w (.cells #[.int .i64 0, .int .u32 0, .string ⟨#[]⟩, .string ⟨#[]⟩] 132) (.cells #[.int .i64 i, .int .u32 0, .string ⟨#[]⟩, .string ⟨#[]⟩] 132)))
  clear h hT
  go_enter Tryd.func142, Tryd.ntmps142
  go_wp2_with fail
  refine (fourIn_calls _ p s 0 t s' x' HR.out hI).mono ?_
  rw [HN.out]
  rintro e w1 ⟨rfl, hi, hc⟩
  obtain ⟨k6, k7, hz, hchg⟩ := boxes_kept hp (Chg.of_only hc)
  obtain ⟨⟨c0, c1, c2, c3⟩, f0, f1, f2, f3⟩ := four_cells k6
  obtain ⟨⟨d0, d1, d2, d3⟩, g0, g1, g2, g3⟩ := four_cells k7
  have HI := Lib.hid hi
  have HC := Lib.hid hchg
  clear hi hc hchg k6 k7 hI HTT
  go_wp2
  refine bodyPost_ret (v := prV ⟨i, N, ⟨#[]⟩, ⟨#[]⟩⟩) ?_ rfl ⟨rfl, ?_, ?_⟩
  · simp [results, Tryd.results142, go_sem, c0, c1, c2, c3]
  · repeat (refine InAt.setOther ?_ (by omega))
    exact HI.out
  · repeat (refine Chg.setNew ?_ (by omega))
    exact HC.out

set_option maxRecDepth 100000 in
set_option maxHeartbeats 1000000 in
theorem takeOne_4 (w : World) (p : Nat) (s : ByteArray) (i : Int) (h : InAt w p s 0) (hT : Tabs w) :
    Calls Tryd.prog 142 #[.pointer (some ⟨p, 0, none⟩), .int .i64 i, .int .i64 4] w (TookP w p (oneT 4 i s)) := by
  generalize hr : varT 3 0 0 s 0 = R
  obtain ⟨N, s', x'⟩ := R
  have he : oneT 4 i s = (⟨i, N, ⟨#[]⟩, ⟨#[]⟩⟩, s', x') := by show (_, _) = _; rw [hr]
  rw [he]
  have HR := Lib.hid hr
  clear hr he
  have hp := h.lt
  have hI := InAt.below h (below_two w (.cells #[.int .i64 0, .int .u32 0, .string ⟨#[]⟩, .string ⟨#[]⟩] 132) (.cells #[.int .i64 i, .int .u32 0, .string ⟨#[]⟩, .string ⟨#[]⟩] 132))
  have HTT := Lib.hid (hT.below (below_two w (.cells #[.int .i64 0, .int .u32 0, .string ⟨#[]⟩, .string ⟨#[]⟩] 132) (.cells #[.int .i64 i, .int .u32 0, .string ⟨#[]⟩, .string ⟨#[]⟩] 132)))
  clear h hT
  go_enter Tryd.func142, Tryd.ntmps142
  go_wp2_with fail
  refine (varIn_calls _ p s 0 N s' x' HR.out hI).mono ?_
  rintro e w1 ⟨rfl, hi, hc⟩
  obtain ⟨k6, k7, hz, hchg⟩ := boxes_kept hp (Chg.of_only hc)
  obtain ⟨⟨c0, c1, c2, c3⟩, f0, f1, f2, f3⟩ := four_cells k6
  obtain ⟨⟨d0, d1, d2, d3⟩, g0, g1, g2, g3⟩ := four_cells k7
  have HI := Lib.hid hi
  have HC := Lib.hid hchg
  clear hi hc hchg k6 k7 hI HTT
  go_wp2
  refine bodyPost_ret (v := prV ⟨i, N, ⟨#[]⟩, ⟨#[]⟩⟩) ?_ rfl ⟨rfl, ?_, ?_⟩
  · simp [results, Tryd.results142, go_sem, c0, c1, c2, c3]
  · repeat (refine InAt.setOther ?_ (by omega))
    exact HI.out
  · repeat (refine Chg.setNew ?_ (by omega))
    exact HC.out

set_option maxRecDepth 100000 in
set_option maxHeartbeats 1000000 in
theorem takeOne_5 (w : World) (p : Nat) (s : ByteArray) (i : Int) (h : InAt w p s 0) (hT : Tabs w) :
    Calls Tryd.prog 142 #[.pointer (some ⟨p, 0, none⟩), .int .i64 i, .int .i64 5] w (TookP w p (oneT 5 i s)) := by
  have hk := strT_tak s 0
  generalize hr : strT s 0 = R at hk
  obtain ⟨a, s', x'⟩ := R
  have he : oneT 5 i s = (⟨i, 0, a, ⟨#[]⟩⟩, s', x') := by show (_, _) = _; rw [hr]
  rw [he]
  have HK := Lib.hid hk
  clear hr he hk
  have hp := h.lt
  have hI := InAt.below h (below_two w (.cells #[.int .i64 0, .int .u32 0, .string ⟨#[]⟩, .string ⟨#[]⟩] 132) (.cells #[.int .i64 i, .int .u32 0, .string ⟨#[]⟩, .string ⟨#[]⟩] 132))
  have HTT := Lib.hid (hT.below (below_two w (.cells #[.int .i64 0, .int .u32 0, .string ⟨#[]⟩, .string ⟨#[]⟩] 132) (.cells #[.int .i64 i, .int .u32 0, .string ⟨#[]⟩, .string ⟨#[]⟩] 132)))
  clear h hT
  go_enter Tryd.func142, Tryd.ntmps142
  go_wp2_with fail
  refine (takeS_calls _ p s 0 a s' x' HK.out hI HTT.out).mono ?_
  rintro e w1 ⟨rfl, hi, hc⟩
  obtain ⟨k6, k7, hz, hchg⟩ := boxes_kept hp hc
  obtain ⟨⟨c0, c1, c2, c3⟩, f0, f1, f2, f3⟩ := four_cells k6
  obtain ⟨⟨d0, d1, d2, d3⟩, g0, g1, g2, g3⟩ := four_cells k7
  have HI := Lib.hid hi
  have HC := Lib.hid hchg
  clear hi hc hchg k6 k7 hI HTT
  go_wp2
  refine bodyPost_ret (v := prV ⟨i, 0, a, ⟨#[]⟩⟩) ?_ rfl ⟨rfl, ?_, ?_⟩
  · simp [results, Tryd.results142, go_sem, c0, c1, c2, c3]
  · repeat (refine InAt.setOther ?_ (by omega))
    exact HI.out
  · repeat (refine Chg.setNew ?_ (by omega))
    exact HC.out

set_option maxRecDepth 100000 in
set_option maxHeartbeats 1000000 in
theorem takeOne_6 (w : World) (p : Nat) (s : ByteArray) (i : Int) (h : InAt w p s 0) (hT : Tabs w) :
    Calls Tryd.prog 142 #[.pointer (some ⟨p, 0, none⟩), .int .i64 i, .int .i64 6] w (TookP w p (oneT 6 i s)) := by
  have hd : datT s 0 = rawT (rawT s 0 2).2.1 (rawT s 0 2).2.2 (numL (rawT s 0 2).1.data.toList) := rfl
  generalize hr : rawT s 0 2 = R at hd
  obtain ⟨t, s1, x1⟩ := R
  dsimp only at hd
  generalize hr2 : rawT s1 x1 (numL t.data.toList) = R2 at hd
  obtain ⟨a, s', x'⟩ := R2
  have he : oneT 6 i s = (⟨i, 0, a, ⟨#[]⟩⟩, s', x') := by show (_, _) = _; rw [hd]
  rw [he]
  have HR := Lib.hid hr
  have HR2 := Lib.hid hr2
  clear hr hr2 he hd
  have hp := h.lt
  have hI := InAt.below h (below_two w (.cells #[.int .i64 0, .int .u32 0, .string ⟨#[]⟩, .string ⟨#[]⟩] 132) (.cells #[.int .i64 i, .int .u32 0, .string ⟨#[]⟩, .string ⟨#[]⟩] 132))
  have HTT := Lib.hid (hT.below (below_two w (.cells #[.int .i64 0, .int .u32 0, .string ⟨#[]⟩, .string ⟨#[]⟩] 132) (.cells #[.int .i64 i, .int .u32 0, .string ⟨#[]⟩, .string ⟨#[]⟩] 132)))
  clear h hT
  go_enter Tryd.func142, Tryd.ntmps142
  go_wp2_with fail
  refine (dataIn_calls _ p s 0 t s1 x1 HR.out a s' x' HR2.out hI).mono ?_
  rintro e w1 ⟨rfl, hi, hc⟩
  obtain ⟨k6, k7, hz, hchg⟩ := boxes_kept hp (Chg.of_only hc)
  obtain ⟨⟨c0, c1, c2, c3⟩, f0, f1, f2, f3⟩ := four_cells k6
  obtain ⟨⟨d0, d1, d2, d3⟩, g0, g1, g2, g3⟩ := four_cells k7
  have HI := Lib.hid hi
  have HC := Lib.hid hchg
  clear hi hc hchg k6 k7 hI HTT
  go_wp2
  refine bodyPost_ret (v := prV ⟨i, 0, a, ⟨#[]⟩⟩) ?_ rfl ⟨rfl, ?_, ?_⟩
  · simp [results, Tryd.results142, go_sem, c0, c1, c2, c3]
  · repeat (refine InAt.setOther ?_ (by omega))
    exact HI.out
  · repeat (refine Chg.setNew ?_ (by omega))
    exact HC.out

set_option maxRecDepth 100000 in
set_option maxHeartbeats 1000000 in
theorem takeOne_7 (w : World) (p : Nat) (s : ByteArray) (i : Int) (h : InAt w p s 0) (hT : Tabs w) :
    Calls Tryd.prog 142 #[.pointer (some ⟨p, 0, none⟩), .int .i64 i, .int .i64 7] w (TookP w p (oneT 7 i s)) := by
  have hk := strT_tak s 0
  generalize hr : strT s 0 = R at hk
  obtain ⟨a, s1, x1⟩ := R
  dsimp only at hk
  have hk2 := strT_tak s1 x1
  generalize hr2 : strT s1 x1 = R2 at hk2
  obtain ⟨b, s', x'⟩ := R2
  dsimp only at hk2
  have he : oneT 7 i s = (⟨i, 0, if x' = 0 then a else ⟨#[]⟩, if x' = 0 then b else ⟨#[]⟩⟩, s', x') := by show (_, _) = _; rw [hr]; dsimp only; rw [hr2]
  rw [he]
  have HK := Lib.hid hk
  have HK2 := Lib.hid hk2
  clear hr hr2 he hk hk2
  generalize hA : (if x' = 0 then a else ⟨#[]⟩) = A
  generalize hB : (if x' = 0 then b else ⟨#[]⟩) = B
  have HA := Lib.hid hA
  have HB := Lib.hid hB
  clear hA hB
  have hp := h.lt
  have hI := InAt.below h (below_two w (.cells #[.int .i64 0, .int .u32 0, .string ⟨#[]⟩, .string ⟨#[]⟩] 132) (.cells #[.int .i64 i, .int .u32 0, .string ⟨#[]⟩, .string ⟨#[]⟩] 132))
  have HTT := Lib.hid (hT.below (below_two w (.cells #[.int .i64 0, .int .u32 0, .string ⟨#[]⟩, .string ⟨#[]⟩] 132) (.cells #[.int .i64 i, .int .u32 0, .string ⟨#[]⟩, .string ⟨#[]⟩] 132)))
  clear h hT
  go_enter Tryd.func142, Tryd.ntmps142
  go_wp2_with fail
  refine (takePair_calls _ p s 0 a s1 x1 HK.out b s' x' HK2.out hI HTT.out).mono ?_
  rw [HA.out, HB.out]
  rintro e w1 ⟨rfl, hi, hc⟩
  obtain ⟨k6, k7, hz, hchg⟩ := boxes_kept hp hc
  obtain ⟨⟨c0, c1, c2, c3⟩, f0, f1, f2, f3⟩ := four_cells k6
  obtain ⟨⟨d0, d1, d2, d3⟩, g0, g1, g2, g3⟩ := four_cells k7
  have HI := Lib.hid hi
  have HC := Lib.hid hchg
  clear hi hc hchg k6 k7 hI HTT
  go_wp2
  refine bodyPost_ret (v := prV ⟨i, 0, A, B⟩) ?_ rfl ⟨rfl, ?_, ?_⟩
  · simp [results, Tryd.results142, go_sem, c0, c1, c2, c3]
  · repeat (refine InAt.setOther ?_ (by omega))
    exact HI.out
  · repeat (refine Chg.setNew ?_ (by omega))
    exact HC.out

theorem takeOne_calls (w : World) (p : Nat) (s : ByteArray) (i k : Int) (hk : k = 1 ∨ k = 2 ∨ k = 3 ∨ k = 4 ∨ k = 5 ∨ k = 6 ∨ k = 7) (h : InAt w p s 0) (hT : Tabs w) :
    Calls Tryd.prog 142 #[.pointer (some ⟨p, 0, none⟩), .int .i64 i, .int .i64 k] w (TookP w p (oneT k i s)) := by
  rcases hk with rfl | rfl | rfl | rfl | rfl | rfl | rfl
  · exact takeOne_1 w p s i h hT
  · exact takeOne_2 w p s i h hT
  · exact takeOne_3 w p s i h hT
  · exact takeOne_4 w p s i h hT
  · exact takeOne_5 w p s i h hT
  · exact takeOne_6 w p s i h hT
  · exact takeOne_7 w p s i h hT

#print axioms takeOne_calls
end Go.Proofs.YtnpkiknidmhciaaDoor

namespace Go.Proofs.YtnpkiknidmhciaaDoor
open Go.RowKit

/-- Is an identifier there? -/
def hasP (acc : List Pr) (i : Int) : Bool := acc.any fun p => p.id == i

/-- A step: an error, or a property and what is left. -/
def stepP (q : Int) (acc : List Pr) (s : ByteArray) : Int ⊕ (Pr × ByteArray) :=
  if bits .and .i64 (ruleL (varT 3 0 0 s 0).1).inn q = 0 then .inl 2
  else if hasP acc (varT 3 0 0 s 0).1 = true ∧ bits .and .i64 (ruleL (varT 3 0 0 s 0).1).sev q = 0 then .inl 3
  else if (oneT (ruleL (varT 3 0 0 s 0).1).kind (varT 3 0 0 s 0).1 (varT 3 0 0 s 0).2.1).2.2 ≠ 0 then .inl 2
  else if (oneT (ruleL (varT 3 0 0 s 0).1).kind (varT 3 0 0 s 0).1 (varT 3 0 0 s 0).2.1).1.n < (ruleL (varT 3 0 0 s 0).1).least ∨ (ruleL (varT 3 0 0 s 0).1).most < (oneT (ruleL (varT 3 0 0 s 0).1).kind (varT 3 0 0 s 0).1 (varT 3 0 0 s 0).2.1).1.n then .inl 3
  else .inr ((oneT (ruleL (varT 3 0 0 s 0).1).kind (varT 3 0 0 s 0).1 (varT 3 0 0 s 0).2.1).1, (oneT (ruleL (varT 3 0 0 s 0).1).kind (varT 3 0 0 s 0).1 (varT 3 0 0 s 0).2.1).2.1)

/-- All of them. -/
def runP (q : Int) : Nat → List Pr → ByteArray → List Pr × Int
  | 0, acc, _ => (acc, 0)
  | f + 1, acc, s => if s.size = 0 then (acc, 0) else
    match stepP q acc s with
    | .inl e => ([], e)
    | .inr y => runP q f (acc ++ [y.1]) y.2

/-- A step, in parts. -/
theorem step_parts (q : Int) (acc : List Pr) (s : ByteArray) (n : Nat) (s1 : ByteArray) (x1 : Int) (r : Ru) (y : Pr) (s2 : ByteArray) (x2 : Int) (hv : varT 3 0 0 s 0 = (n, s1, x1)) (hr : ruleL n = r) (ho : oneT r.kind n s1 = (y, s2, x2)) :
    stepP q acc s = if bits .and .i64 r.inn q = 0 then .inl 2 else if hasP acc n = true ∧ bits .and .i64 r.sev q = 0 then .inl 3 else if x2 ≠ 0 then .inl 2 else if y.n < r.least ∨ r.most < y.n then .inl 3 else .inr (y, s2) := by
  unfold stepP
  rw [hv]
  dsimp only
  rw [hr, ho]

theorem raw_left (s : ByteArray) (x n : Int) : (rawT s x n).2.1.size ≤ s.size := by
  unfold rawT
  split
  · exact Nat.le_refl _
  · split
    · exact Nat.le_refl _
    · split
      · exact Nat.le_refl _
      · simp [ByteArray.size_extract]
theorem raw_one (s : ByteArray) (x : Int) (h : (rawT s x 1).2.2 = 0) : (rawT s x 1).2.1.size < s.size := by
  unfold rawT at h ⊢
  split at h
  · rename_i hx; exact absurd h hx
  · split at h
    · exact absurd (show (1 : Int) = 0 from h) (by decide)
    · rename_i h1 h2
      rw [if_neg h1, if_neg h2, if_neg (by decide)]
      simp [ByteArray.size_extract]
      omega
theorem rawT_keeps (s : ByteArray) (x n : Int) (h : (rawT s x n).2.2 = 0) : x = 0 := by
  by_cases hx : x = 0
  · exact hx
  · rw [rawT_err s x n hx] at h; exact absurd h hx
theorem var_left : ∀ (k i n : Nat) (s : ByteArray) (x : Int), (varT k i n s x).2.1.size ≤ s.size ∧ ((varT k i n s x).2.2 = 0 → x = 0 ∧ (varT k i n s x).2.1.size < s.size)
  | 0, i, n, s, x => by
    have h1 := raw_left s x 1
    have h2 := raw_one s x
    have h3 := rawT_keeps s x 1
    generalize hr : rawT s x 1 = R at *
    obtain ⟨t, s2, x2⟩ := R
    dsimp only at h1 h2 h3
    rw [varT_end hr (.inl rfl), varEnd]
    dsimp only
    refine ⟨h1, fun h => ?_⟩
    split at h
    · exact absurd h (failed_ne _)
    · exact ⟨h3 h, h2 h⟩
  | k + 1, i, n, s, x => by
    have h1 := raw_left s x 1
    have h2 := raw_one s x
    have h3 := rawT_keeps s x 1
    generalize hr : rawT s x 1 = R at *
    obtain ⟨t, s2, x2⟩ := R
    dsimp only at h1 h2 h3
    by_cases hc : 128 ≤ numL t.data.toList
    · rw [varT_go hr hc]
      have ih := var_left k (i + 1) (n + numL t.data.toList % 128 * 128 ^ i) s2 x2
      refine ⟨by omega, fun h => ?_⟩
      have := ih.2 h
      exact ⟨h3 this.1, by omega⟩
    · rw [varT_end hr (.inr (by omega)), varEnd]
      dsimp only
      refine ⟨h1, fun h => ?_⟩
      split at h
      · exact absurd h (failed_ne _)
      · exact ⟨h3 h, h2 h⟩

theorem var_bound : ∀ (k i n : Nat) (s : ByteArray) (x : Int), (varT k i n s x).1 + 128 ^ i ≤ n + 128 ^ (k + 1) * 128 ^ i
  | 0, i, n, s, x => by
    have h : numL (rawT s x 1).1.data.toList % 128 ≤ 127 := by omega
    have h2 := Nat.mul_le_mul_right (128 ^ i) h
    rw [varT, varEnd]
    generalize 128 ^ i = M at *
    dsimp only
    split <;> split <;> omega
  | k + 1, i, n, s, x => by
    have h : numL (rawT s x 1).1.data.toList % 128 ≤ 127 := by omega
    have h2 := Nat.mul_le_mul_right (128 ^ i) h
    rw [varT]
    split
    · have ih := var_bound k (i + 1) (n + numL (rawT s x 1).1.data.toList % 128 * 128 ^ i) (rawT s x 1).2.1 (rawT s x 1).2.2
      have e1 : 128 ^ (k + 1) * 128 ^ (i + 1) = 128 ^ (k + 1 + 1) * 128 ^ i := by rw [Nat.pow_succ 128 i, Nat.pow_succ 128 (k + 1), Nat.mul_assoc, Nat.mul_comm (128 ^ i) 128]
      rw [e1, Nat.pow_succ 128 i] at ih
      generalize 128 ^ (k + 1 + 1) * 128 ^ i = Z at *
      generalize 128 ^ i = M at *
      omega
    · have e2 : 128 * 128 ^ i ≤ 128 ^ (k + 1 + 1) * 128 ^ i := Nat.mul_le_mul_right _ (by have := Nat.pow_le_pow_right (n := 128) (by omega) (show 1 ≤ k + 1 + 1 by omega); omega)
      rw [varEnd]
      generalize 128 ^ (k + 1 + 1) * 128 ^ i = Z at *
      generalize 128 ^ i = M at *
      dsimp only
      split <;> split <;> omega
theorem var_lt (s : ByteArray) (x : Int) : (varT 3 0 0 s x).1 < 268435456 := by
  have := var_bound 3 0 0 s x
  simp at this
  omega

theorem str_left (s : ByteArray) (x : Int) : (strT s x).2.1.size ≤ s.size := by
  unfold strT
  have h1 := raw_left s x 2
  have h2 := raw_left (rawT s x 2).2.1 (rawT s x 2).2.2 (numL (rawT s x 2).1.data.toList)
  split
  · omega
  · dsimp only; omega
theorem one_left (kd i : Int) (s : ByteArray) : (oneT kd i s).2.1.size ≤ s.size := by
  unfold oneT datT
  have h1 := raw_left s 0 1
  have h2 := raw_left s 0 2
  have h4 := raw_left s 0 4
  have hv := (var_left 3 0 0 s 0).1
  have hs := str_left s 0
  have hd := raw_left (rawT s 0 2).2.1 (rawT s 0 2).2.2 (numL (rawT s 0 2).1.data.toList)
  have hp := str_left (strT s 0).2.1 (strT s 0).2.2
  repeat' split
  all_goals (dsimp only; omega)

#print axioms one_left
end Go.Proofs.YtnpkiknidmhciaaDoor

namespace Go.Proofs.YtnpkiknidmhciaaDoor
open Go.RowKit

/-- Which are there, a bit each. -/
def thereN (acc : List Pr) : Nat := acc.foldl (fun t p => t ||| 2 ^ p.id.toNat) 0
/-- What holds of properties that were taken. -/
def Ids (acc : List Pr) : Prop := ∀ p ∈ acc, 1 ≤ p.id ∧ p.id ≤ 42

theorem there_snoc (acc : List Pr) (p : Pr) : thereN (acc ++ [p]) = thereN acc ||| 2 ^ p.id.toNat := by simp [thereN]
theorem there_bit (acc : List Pr) (i : Nat) (h : Ids acc) : (thereN acc).testBit i = hasP acc i := by
  suffices H : ∀ (l : List Pr) (t : Nat), Ids l → (l.foldl (fun t p => t ||| 2 ^ p.id.toNat) t).testBit i = (t.testBit i || hasP l i) by
    rw [thereN, H acc 0 h]; simp
  intro l
  induction l with
  | nil => intro t _; simp [hasP]
  | cons p l ih =>
    intro t hl
    have hp := hl p (by simp)
    rw [List.foldl_cons, ih _ (fun q hq => hl q (by simp [hq])), Nat.testBit_or, Nat.testBit_two_pow]
    have : decide (p.id.toNat = i) = (p.id == (i : Int)) := by
      rw [Bool.eq_iff_iff]; simp; omega
    rw [this]
    simp [hasP, Bool.or_assoc]
theorem there_lt (acc : List Pr) (h : Ids acc) : thereN acc < 2 ^ 43 := by
  suffices H : ∀ (l : List Pr) (t : Nat), t < 2 ^ 43 → Ids l → l.foldl (fun t p => t ||| 2 ^ p.id.toNat) t < 2 ^ 43 from H acc 0 (by decide) h
  intro l
  induction l with
  | nil => intro t ht _; exact ht
  | cons p l ih =>
    intro t ht hl
    have hp := hl p (by simp)
    exact ih _ (Nat.or_lt_two_pow ht (Nat.pow_lt_pow_right (by omega) (by omega))) (fun q hq => hl q (by simp [hq]))

theorem OwnP.form {B : Nat} {e : TypeId} {w : World} {v : Value} {P : List Pr} (h : OwnP B e w v P) : ∃ a c, v = .slice a P.length c := by
  rcases h.2 with ⟨rfl, h0⟩ | ⟨g, cap, _, rfl, _⟩
  · exact ⟨none, 0, by rw [h0]⟩
  · exact ⟨_, _, rfl⟩

theorem rule_calls' (w : World) (i a b c d e : Int) (h : ruleL i = ⟨a, b, c, d, e⟩) :
    Calls Tryd.prog 141 #[.int .i64 i] w fun z w' => z = .returned (.agg #[.int .i64 a, .int .i64 b, .int .i64 c, .int .u32 d, .int .u32 e]) ∧ Below w.heap.size w w' := by
  have := rule_calls w i
  rw [h] at this
  exact this

theorem takeOne_calls' (w : World) (p : Nat) (s : ByteArray) (i k : Int) (yi yn : Int) (ys yt s2 : ByteArray) (x2 : Int) (ho : oneT k i s = (⟨yi, yn, ys, yt⟩, s2, x2)) (hk : k = 1 ∨ k = 2 ∨ k = 3 ∨ k = 4 ∨ k = 5 ∨ k = 6 ∨ k = 7) (h : InAt w p s 0) (hT : Tabs w) :
    Calls Tryd.prog 142 #[.pointer (some ⟨p, 0, none⟩), .int .i64 i, .int .i64 k] w fun e w' => e = .returned (.agg #[.int .i64 yi, .int .u32 yn, .string ys, .string yt]) ∧ TookS w p s2 x2 w' := by
  have := takeOne_calls w p s i k hk h hT
  rw [ho] at this
  exact this

theorem five_cells {w : World} {b : Nat} {a c d e f : Value} {t : TypeId} (h : w.heap[b]? = some (.cells #[a, c, d, e, f] t (0, 0))) :
    w.cell? ⟨b, 0, none⟩ = some a ∧ w.cell? ⟨b, 1, none⟩ = some c ∧ w.cell? ⟨b, 2, none⟩ = some d ∧ w.cell? ⟨b, 3, none⟩ = some e ∧ w.cell? ⟨b, 4, none⟩ = some f := by
  simp [World.cell?, h]
theorem four_new (w : World) (a b c d : Value) (t : TypeId) : ∀ j u, [a, b, c, d][j]? = some u → (w.alloc (.cells #[a, b, c, d] t)).cell? ((⟨w.heap.size, 0, none⟩ : Addr).add j) = some u := by
  intro j u hj
  match j, hj with
  | 0, hj => simp at hj; subst hj; simp [Addr.add]
  | 1, hj => simp at hj; subst hj; simp [Addr.add]
  | 2, hj => simp at hj; subst hj; simp [Addr.add]
  | 3, hj => simp at hj; subst hj; simp [Addr.add]
theorem own_ne_in {B p : Nat} {w : World} {v : Value} {P : List Pr} {s : ByteArray} {x : Int} (h : OwnP B 132 w v P) (hi : InAt w p s x) : v.ownBlock ≠ some p := by
  rcases h.2 with ⟨rfl, _⟩ | ⟨g, cap, cur, rfl, _, hg, _⟩
  · simp [Value.ownBlock]
  · intro e
    obtain rfl : g = p := by simpa [Value.ownBlock] using e
    unfold InAt at hi
    rw [hi] at hg
    simp at hg

/-- What takeAll answers, and leaves. -/
def TookAll (w : World) (R : List Pr × Int) (e : Ending) (w' : World) : Prop :=
  ∃ v, e = .returned (.tuple #[v, .int .i64 R.2]) ∧ OwnP w.heap.size 132 w' v R.1 ∧ (R.2 ≠ 0 → v = .slice none 0 0) ∧ Below w.heap.size w w'

theorem Tryd.infoProp : (Tryd.prog.info? 132).map (fun i => (i.zero, i.size, i.bytes)) = some (some (.agg #[.int .i64 0, .int .u32 0, .string ⟨#[]⟩, .string ⟨#[]⟩]), 4, 48) := by kernel_rfl

theorem bit_and (T n : Nat) (hT : T < 2 ^ 43) : bits .and .u64 ((T : Int) / 2 ^ n) 1 = if T.testBit n = true then 1 else 0 := by
  have e : ((T : Int) / 2 ^ n) = ((T / 2 ^ n : Nat) : Int) := by simp
  have hd := Nat.div_le_self T (2 ^ n)
  have h43 : (2 : Nat) ^ 43 = 8796093022208 := by decide
  have h := u64_and_nat (T / 2 ^ n) 1 (by omega) (by omega)
  rw [e]
  refine h.trans ?_
  rw [Nat.testBit_eq_decide_div_mod_eq, Nat.and_one_is_mod]
  by_cases hb : T / 2 ^ n % 2 = 1
  · rw [hb]; simp
  · have h0 : T / 2 ^ n % 2 = 0 := by omega
    rw [h0]; simp
theorem bit_or (T n : Nat) (hT : T < 2 ^ 43) (hn : n ≤ 42) : bits .or .u64 (T : Int) (IntKind.u64.wrap (2 ^ n)) = ((T ||| 2 ^ n : Nat) : Int) := by
  have h43 : (2 : Nat) ^ 43 = 8796093022208 := by decide
  have hp : 2 ^ n < 2 ^ 43 := Nat.pow_lt_pow_right (by omega) (by omega)
  have e : ((2 : Int) ^ n) = ((2 ^ n : Nat) : Int) := by simp
  rw [e]
  clear e
  generalize (2 : Nat) ^ n = M at *
  rw [IntWalk.u64_in _ ⟨by omega, by omega⟩]
  exact u64_or_nat T M (by omega) (by omega)

/-- What may be there is one of the table. -/
theorem rule_in (i q : Int) (h : ¬ bits .and .i64 (ruleL i).inn q = 0) : (1 ≤ i ∧ i ≤ 42) ∧ ((ruleL i).kind = 1 ∨ (ruleL i).kind = 2 ∨ (ruleL i).kind = 3 ∨ (ruleL i).kind = 4 ∨ (ruleL i).kind = 5 ∨ (ruleL i).kind = 6 ∨ (ruleL i).kind = 7) := by
  rcases ids_mem i with hm | ⟨_, hr⟩
  · have := (show ∀ i ∈ idsL, (1 ≤ i ∧ i ≤ 42) ∧ ((ruleL i).kind = 1 ∨ (ruleL i).kind = 2 ∨ (ruleL i).kind = 3 ∨ (ruleL i).kind = 4 ∨ (ruleL i).kind = 5 ∨ (ruleL i).kind = 6 ∨ (ruleL i).kind = 7) by decide)
    exact this i hm
  · rw [hr] at h
    exact absurd (and_zero q) h
theorem one_id (k i : Int) (s : ByteArray) : (oneT k i s).1.id = i := by
  unfold oneT
  repeat' split
  all_goals rfl

/-- How much an In has left. -/
def leftOf (p : Nat) (wr : World) : Nat := match wr.cell? ⟨p, 0, none⟩ with | some (.string s) => s.size | _ => 0
theorem leftOf_in {wr : World} {p : Nat} {s : ByteArray} {x : Int} (h : InAt wr p s x) : leftOf p wr = s.size := by unfold leftOf; rw [h.cell0]

/-- What holds at the loop's head. -/
def TakeJ (w : World) (q : Int) (R : List Pr × Int) (N : Nat) (v t : Value) (wr : World) (acc : List Pr) (s : ByteArray) (f : Nat) : Prop :=
  OwnP w.heap.size 132 wr v acc ∧ t = .int .u64 (thereN acc) ∧ InAt wr w.heap.size s 0 ∧ Ids acc ∧ s.size ≤ f ∧ runP q f acc s = R ∧ acc.length + s.size ≤ N ∧ Below w.heap.size w wr

set_option maxRecDepth 100000 in
set_option maxHeartbeats 4000000 in
theorem takeAll_calls (w : World) (b : ByteArray) (q : Int) (hb : b.size ≤ 300000000) (hT : Tabs w) :
    Calls Tryd.prog 119 #[.string b, .int .i64 q] w (TookAll w (runP q b.size [] b)) := by
  generalize hR : runP q b.size [] b = R
  have HR := Lib.hid hR
  have HT := Lib.hid hT
  clear hR hT
  go_enter Tryd.func119, Tryd.ntmps119
  go_wp2_with fail
  refine (over_calls _ _).mono ?_
  rintro e w1 ⟨rfl, rfl⟩
  have HS : Hid (TakeJ w q R b.size (.slice none 0 0) (.int .u64 0) (w.alloc (.cells #[.string b, .int .i64 0] 185)) [] b b.size) :=
    ⟨World.ownsRow_nil _ _ _ _, rfl, InAt.new w b, (fun p hp => by cases hp), Nat.le_refl _, HR.out, by simp, below_one w _⟩
  clear HR
  go_wp2
  go_loopw [6, 7] (fun v t wr => ∃ (acc : List Pr) (s : ByteArray) (f : Nat) (a : Option Addr) (c : Nat), v = .slice a acc.length c ∧ TakeJ w q R b.size (.slice a acc.length c) t wr acc s f) (fun _ _ wr => leftOf w.heap.size wr)
  case atStart => exact ⟨[], b, b.size, none, 0, rfl, HS.out⟩
  case round =>
    clear HS
    obtain ⟨acc, s, f, a, c, rfl, hown, rfl, hin, hids, hsf, hrun, hlen, hbl⟩ := hrel
    have HOWN := Lib.hid hown
    have HIDS := Lib.hid hids
    have HRUN := Lib.hid hrun
    have HBL := Lib.hid hbl
    have HNE := Lib.hid (own_ne_in hown hin)
    have HIN0 := Lib.hid hin
    have hz := hbl.size
    clear hown hids hrun hbl
    go_wp2_with fail
    refine (left_calls _ _ s 0 hin).mono ?_
    rintro e w1 ⟨rfl, rfl⟩
    by_cases h0 : s.size = 0
    · have hend : R = (acc, 0) := by
        have := HRUN.out
        rw [← this]
        cases f with
        | zero => rfl
        | succ f => rw [runP, if_pos h0]
      subst hend
      clear HRUN HIDS hin HNE HIN0
      go_wp2
      go_ret2
      exact ⟨_, rfl, HOWN.out, (fun h => absurd rfl h), HBL.out⟩
    · obtain ⟨f', rfl⟩ : ∃ f', f = f' + 1 := ⟨f - 1, by omega⟩
      have hst := HRUN.out
      rw [runP, if_neg h0] at hst
      have hvl := var_left 3 0 0 s 0
      have hve := varT_err 3 0 0 s 0
      have hnb := var_lt s 0
      generalize hv : varT 3 0 0 s 0 = V at hvl hnb
      obtain ⟨n, s1, x1⟩ := V
      have hve' := hve n s1 x1 hv
      clear hve
      dsimp only at hvl hnb
      generalize hr : ruleL n = r
      generalize ho : oneT r.kind n s1 = O
      obtain ⟨y, s2, x2⟩ := O
      have hol : s2.size ≤ s1.size := by have := one_left r.kind n s1; rw [ho] at this; exact this
      have hyid : y.id = n := by have := one_id r.kind n s1; rw [ho] at this; exact this
      have hsp := step_parts q acc s n s1 x1 r y s2 x2 hv hr ho
      rw [hsp] at hst
      have HVL := Lib.hid hvl
      have HVE := Lib.hid hve'
      clear hvl hve'
      obtain ⟨rk, rin, rsv, rlo, rhi⟩ := r
      obtain ⟨yi, yn, ys, yt⟩ := y
      dsimp only at hst ho hyid
      subst hyid
      have HST := Lib.hid hst
      have HV := Lib.hid hv
      have HRU := Lib.hid hr
      have HONE := Lib.hid ho
      clear hst hsp hv hr ho HRUN
      have hposI : (0 : Int) < s.size := by omega
      go_wp2_with fail
      refine (varIn_calls _ _ s 0 n s1 x1 HV.out hin).mono ?_
      rintro e w2 ⟨rfl, hin2, hon2⟩
      have hbl2 : Below w.heap.size w w2 := HBL.out.trans ((Chg.of_only hon2).below HBL.out.size (Nat.le_refl _))
      go_wp2_with fail
      refine (rule_calls' _ n rk rin rsv rlo rhi HRU.out).mono ?_
      rintro e w3 ⟨rfl, b3⟩
      have hin3 := hin2.below b3
      have hbl3 := hbl2.trans (b3.mono hbl2.size)
      have HON2 := Lib.hid (show Chg w.heap.size wr w3 from (Chg.of_only hon2).trans (Chg.of_below b3))
      clear hin hin2 hbl2 b3 hon2 HV HBL
      by_cases h1 : bits .and .i64 rin q = 0
      · have hR : R = ([], 2) := by have := HST.out; rw [if_pos h1] at this; exact this.symm
        subst hR
        have h1b : (bits .and .i64 rin q == 0) = true := by simpa using h1
        have HB3 := Lib.hid hbl3
        clear HST h1 hin3 hbl3 HONE HON2 HIDS HOWN HNE HIN0
        go_wp2
        go_ret2
        exact ⟨_, rfl, World.ownsRow_nil _ _ _ _, (fun _ => rfl), HB3.out.alloc HB3.out.size _⟩
      · have h1b : (bits .and .i64 rin q == 0) = false := by simpa using h1
        have hri := rule_in n q (by rw [HRU.out]; exact h1)
        rw [HRU.out] at hri
        obtain ⟨⟨hn1, hn2⟩, hkd⟩ := hri
        dsimp only at hkd
        have hx1 : x1 = 0 := by
          by_cases hx : x1 = 0
          · exact hx
          · have := HVE.out hx; omega
        subst hx1
        have hv2 : s1.size < s.size := (HVL.out.2 rfl).2
        clear HVL
        have hTb := there_bit acc n HIDS.out
        have hTl := there_lt acc HIDS.out
        generalize hTT : thereN acc = T at *
        have hba := bit_and T n hTl
        have hbo := bit_or T n hTl (by omega)
        rw [hTb] at hba
        have HTT := Lib.hid hTT
        clear hTT hTb
        have hr3 := heap_alloc_new w3 (.cells #[.int .i64 rk, .int .i64 rin, .int .i64 rsv, .int .u32 rlo, .int .u32 rhi] 211)
        have bl := below_one w3 (.cells #[.int .i64 rk, .int .i64 rin, .int .i64 rsv, .int .u32 rlo, .int .u32 rhi] 211)
        have hin4 := hin3.below bl
        have hbl4 := hbl3.trans (bl.mono hbl3.size)
        have hT4 := HT.out.below hbl4
        have HON4 := Lib.hid (show Chg w.heap.size wr _ from HON2.out.trans (Chg.of_below bl))
        have HR3 := Lib.hid hr3
        have hz3 := hbl3.size
        have hp3 := hin3.lt
        clear hr3 bl hin3 hbl3 HON2 HVE
        by_cases h2 : hasP acc n = true ∧ bits .and .i64 rsv q = 0
        · have hR : R = ([], 3) := by have := HST.out; rw [if_neg h1, if_pos h2] at this; exact this.symm
          subst hR
          rw [if_pos h2.1] at hba
          have h2b : (bits .and .i64 rsv q == 0) = true := by simpa using h2.2
          have HB4 := Lib.hid hbl4
          clear HST h1 h2 hin4 hbl4 hT4 HONE HON4 HIDS HOWN HR3 hbo HNE HIN0
          go_wp2
          go_ret2
          exact ⟨_, rfl, World.ownsRow_nil _ _ _ _, (fun _ => rfl), HB4.out⟩
        · have hst2 := HST.out
          rw [if_neg h1, if_neg h2] at hst2
          have HST2 := Lib.hid hst2
          clear hst2 HST h1
          have hcase : (hasP acc n = false) ∨ (hasP acc n = true ∧ (bits .and .i64 rsv q == 0) = false) := by
            cases hh : hasP acc n with
            | false => exact .inl rfl
            | true => exact .inr ⟨rfl, by simpa using fun e => h2 ⟨hh, e⟩⟩
          clear h2
          have HIN4 := Lib.hid hin4
          have HT4 := Lib.hid hT4
          have HBL4 := Lib.hid hbl4
          clear hin4 hT4 hbl4
          rcases hcase with hh | ⟨hh, h2b⟩
          all_goals
            rw [hh] at hba
            simp only [if_true, if_false, Bool.false_eq_true] at hba
            clear hh
            go_wp2_with fail
            refine (takeOne_calls' _ w.heap.size s1 n rk n yn ys yt s2 x2 HONE.out hkd HIN4.out HT4.out).mono ?_
            rintro e w5 ⟨rfl, hin5, hc5⟩
            have hr5 := (hc5.block w3.heap.size (by simp) (fun e => by injection e; omega)).trans HR3.out
            have hbl5 : Below w.heap.size w w5 := HBL4.out.trans (hc5.below HBL4.out.size (Nat.le_refl _))
            have hon5 : Chg w.heap.size wr w5 := HON4.out.trans hc5
            have hown5 := World.ownsRow.kept HOWN.out hon5 (.inr HNE.out)
            have b6 := below_one w5 (.cells #[.int .i64 n, .int .u32 yn, .string ys, .string yt] 132)
            have hr6 := (b6.block _ (lt_of_block hr5)).trans hr5
            have hin6 := hin5.below b6
            have hbl6 := hbl5.trans (b6.mono hbl5.size)
            have hown6 := World.ownsRow.alloc hown5 (.cells #[.int .i64 n, .int .u32 yn, .string ys, .string yt] 132)
            have hbx6 := heap_alloc_new w5 (.cells #[.int .i64 n, .int .u32 yn, .string ys, .string yt] 132)
            clear hr5 hbl5 hon5 hown5 b6 hin5 hc5 HON4 HR3 HIN4 HT4 HBL4 HOWN HNE
            go_wp2_with fail
            refine (err_calls _ w.heap.size s2 x2 hin6).mono ?_
            rintro e w6 ⟨rfl, hw6⟩
            rw [hw6] at hr6 hin6 hbl6 hown6 hbx6
            clear hw6
            generalize w5.heap.size = b5 at *
            obtain ⟨r0, r1, r2, r3, r4⟩ := five_cells hr6
            obtain ⟨⟨x0, x1, x2', x3⟩, _, _, _, _⟩ := four_cells hbx6
            have HIN6 := Lib.hid hin6
            have HBL6 := Lib.hid hbl6
            have HOWN6 := Lib.hid hown6
            clear hr6 hin6 hbl6 hown6 hbx6
            by_cases h3 : x2 = 0
            · subst h3
              have hst3 := HST2.out
              rw [if_neg (by simp)] at hst3
              by_cases h4 : yn < rlo
              · have hR : R = ([], 3) := by rw [if_pos (.inl h4)] at hst3; exact hst3.symm
                subst hR
                clear HST2 hst3
                go_wp2
                go_ret2
                exact ⟨_, rfl, World.ownsRow_nil _ _ _ _, (fun _ => rfl), HBL6.out⟩
              · by_cases h5 : rhi < yn
                · have hR : R = ([], 3) := by rw [if_pos (.inr h5)] at hst3; exact hst3.symm
                  subst hR
                  have h4' : rlo ≤ yn := by omega
                  clear HST2 hst3 h4
                  go_wp2
                  go_ret2
                  exact ⟨_, rfl, World.ownsRow_nil _ _ _ _, (fun _ => rfl), HBL6.out⟩
                · rw [if_neg (by omega)] at hst3
                  have HST3 := Lib.hid hst3
                  have h4' : rlo ≤ yn := by omega
                  have h5' : yn ≤ rhi := by omega
                  clear HST2 hst3 h4 h5
                  obtain ⟨i0, hi, hz0, hz1, hz2⟩ := info_parts Tryd.infoProp
                  have hown7 := World.ownsRow.alloc HOWN6.out (.cells #[.int .i64 n, .int .u32 yn, .string ys, .string yt] 132)
                  have HSZ := Lib.hid (HBL6.out.size)
                  go_wp2_with ((at_builtin; refine wpList_append_own_at _ rfl _ _ 29 rfl w.heap.size 132 i0 (.agg #[.int .i64 0, .int .u32 0, .string ⟨#[]⟩, .string ⟨#[]⟩]) 4 48 Tryd.underlying29 hi hz0 hz1 hz2 rfl (by decide) _ _ _ rfl hown7 ⟨w6.heap.size, 0, none⟩ 1 1 [.int .i64 n, .int .u32 yn, .string ys, .string yt] rfl rfl (four_new _ _ _ _ _ _) (by simp [Value.oneCell']) (by unfold maxLen; omega) (by omega) (by have := HSZ.out; simp; omega) ?_))
                  intro v' w7 hown8 hgrow _ _
                  have b7 := below_one w6 (.cells #[.int .i64 n, .int .u32 yn, .string ys, .string yt] 132)
                  have hin7 := HIN6.out.below b7
                  have hne7 := own_ne_in hown7 hin7
                  have hin8 : InAt w7 w.heap.size s2 0 := hin7.keep (hgrow.block _ hin7.lt (fun e => hne7 e.symm))
                  have hbl8 : Below w.heap.size w w7 := (HBL6.out.trans (b7.mono HSZ.out)).grown hgrow (by have := HSZ.out; simp; omega) (fun k hk => (World.ownsRow.lt hown7 k hk).1)
                  have hown9 : OwnP w.heap.size 132 w7 v' (acc ++ [⟨n, yn, ys, yt⟩]) := by
                    unfold OwnP
                    rw [show (acc ++ [(⟨n, yn, ys, yt⟩ : Pr)]).length = acc.length + 1 by simp, List.flatMap_append]
                    exact hown8
                  obtain ⟨a', c', hv'⟩ := hown9.form
                  rw [show (acc ++ [(⟨n, yn, ys, yt⟩ : Pr)]).length = acc.length + 1 by simp] at hv'
                  have hJ : TakeJ w q R b.size (.slice a' (acc.length + 1) c') (.int .u64 ((T ||| 2 ^ n : Nat) : Int)) w7 (acc ++ [⟨n, yn, ys, yt⟩]) s2 f' := by
                    refine ⟨hv' ▸ hown9, ?_, hin8, ?_, by omega, HST3.out, by simp; omega, hbl8⟩
                    · rw [there_snoc, HTT.out]; rfl
                    · intro p hp
                      rcases List.mem_append.1 hp with hp | hp
                      · exact HIDS.out p hp
                      · simp at hp; subst hp; exact ⟨hn1, hn2⟩
                  have hlt : leftOf w.heap.size w7 < leftOf w.heap.size wr := by
                    rw [leftOf_in hin8, leftOf_in HIN0.out]
                    omega
                  have HJ := Lib.hid hJ
                  have HLT := Lib.hid hlt
                  rw [hv']
                  clear hJ hlt hin8 hbl8 hown9 hv' hown8 hgrow hown7 b7 hin7 hne7 HIN6 HBL6 HOWN6 HSZ HST3 HTT HIDS HIN0
                  go_wp2
                  go_roundw
                  case rel => exact ⟨_, s2, f', a', c', by rw [show (acc ++ [(⟨n, yn, ys, yt⟩ : Pr)]).length = acc.length + 1 by simp], by rw [show (acc ++ [(⟨n, yn, ys, yt⟩ : Pr)]).length = acc.length + 1 by simp]; exact HJ.out⟩
                  case measure => exact HLT.out
            · have hR : R = ([], 2) := by have := HST2.out; rw [if_pos h3] at this; exact this.symm
              subst hR
              have h3b : (x2 == 0) = false := by simpa using h3
              clear HST2 h3
              go_wp2
              go_ret2
              exact ⟨_, rfl, World.ownsRow_nil _ _ _ _, (fun _ => rfl), HBL6.out⟩

end Go.Proofs.YtnpkiknidmhciaaDoor

namespace Go.Proofs.YtnpkiknidmhciaaDoor
open Go.RowKit

theorem OwnP.mono {B C : Nat} {e : TypeId} {w : World} {v : Value} {P : List Pr} (h : OwnP B e w v P) (hc : C ≤ B) : OwnP C e w v P := by
  refine ⟨h.1, ?_⟩
  rcases h.2 with h | ⟨g, cap, cur, hv, hb, rest⟩
  · exact .inl h
  · exact .inr ⟨g, cap, cur, hv, Nat.le_trans hc hb, rest⟩
theorem OwnP.below {B : Nat} {e : TypeId} {w w' : World} {v : Value} {P : List Pr} (h : OwnP B e w v P) (hb : Below w.heap.size w w') : OwnP B e w' v P := by
  refine ⟨h.1, ?_⟩
  rcases h.2 with h | ⟨g, cap, cur, hv, hB, hg, rest⟩
  · exact .inl h
  · exact .inr ⟨g, cap, cur, hv, hB, (hb.block g (lt_of_block hg)).trans hg, rest⟩
theorem OwnP.only {B p : Nat} {e : TypeId} {w w' : World} {v : Value} {P : List Pr} (h : OwnP B e w v P) (hb : Only p w w') (hp : p < B) : OwnP B e w' v P := by
  refine ⟨h.1, ?_⟩
  rcases h.2 with h | ⟨g, cap, cur, hv, hB, hg, rest⟩
  · exact .inl h
  · exact .inr ⟨g, cap, cur, hv, hB, (hb.block g (by omega)).trans hg, rest⟩

/-- What Take answers of s with error x: the properties, what is left, the error. -/
def takeR (q : Int) (s : ByteArray) (x : Int) : List Pr × ByteArray × Int :=
  if (rawT (varT 3 0 0 s x).2.1 (varT 3 0 0 s x).2.2 (varT 3 0 0 s x).1).2.2 ≠ 0 then ([], (rawT (varT 3 0 0 s x).2.1 (varT 3 0 0 s x).2.2 (varT 3 0 0 s x).1).2)
  else ((runP q (rawT (varT 3 0 0 s x).2.1 (varT 3 0 0 s x).2.2 (varT 3 0 0 s x).1).1.size [] (rawT (varT 3 0 0 s x).2.1 (varT 3 0 0 s x).2.2 (varT 3 0 0 s x).1).1).1, (rawT (varT 3 0 0 s x).2.1 (varT 3 0 0 s x).2.2 (varT 3 0 0 s x).1).2.1,
    (runP q (rawT (varT 3 0 0 s x).2.1 (varT 3 0 0 s x).2.2 (varT 3 0 0 s x).1).1.size [] (rawT (varT 3 0 0 s x).2.1 (varT 3 0 0 s x).2.2 (varT 3 0 0 s x).1).1).2)

theorem takeR_parts (q : Int) (s : ByteArray) (x : Int) (n : Nat) (s1 : ByteArray) (x1 : Int) (t s2 : ByteArray) (x2 : Int) (hv : varT 3 0 0 s x = (n, s1, x1)) (hr : rawT s1 x1 n = (t, s2, x2)) :
    takeR q s x = if x2 ≠ 0 then ([], s2, x2) else ((runP q t.size [] t).1, s2, (runP q t.size [] t).2) := by
  unfold takeR
  rw [hv]
  dsimp only
  rw [hr]

/-- What Take answers, and leaves. -/
def TookL (w : World) (p : Nat) (R : List Pr × ByteArray × Int) (e : Ending) (w' : World) : Prop :=
  ∃ v, e = .returned v ∧ OwnP w.heap.size 132 w' v R.1 ∧ (R.2.2 ≠ 0 → v = .slice none 0 0) ∧ InAt w' p R.2.1 R.2.2 ∧ Chg p w w'

set_option maxRecDepth 100000 in
set_option maxHeartbeats 1000000 in
theorem take3_calls (w : World) (p : Nat) (s : ByteArray) (x k : Int) (isW : Bool) (h : InAt w p s x) (hT : Tabs w) :
    Calls Tryd.prog 71 #[.pointer (some ⟨p, 0, none⟩), .int .i64 k, .bool isW] w (TookL w p (takeR (placeN k isW) s x)) := by
  have hnb := var_lt s x
  generalize hv : varT 3 0 0 s x = V at hnb
  obtain ⟨n, s1, x1⟩ := V
  dsimp only at hnb
  have hsz := rawT_size s1 x1 n
  generalize hr : rawT s1 x1 n = R at hsz
  obtain ⟨t, s2, x2⟩ := R
  dsimp only at hsz
  rw [takeR_parts _ s x n s1 x1 t s2 x2 hv hr]
  have HV := Lib.hid hv
  have HR := Lib.hid hr
  have HT2 : Hid (∀ w', Chg p w w' → Tabs w') := fun w' hc => hT.chg h hc
  have hp := h.lt
  have hts : t.size ≤ 268435456 := by omega
  clear hv hr hT hsz
  by_cases hx : x2 = 0
  · subst hx
    rw [if_neg (by simp)]
    generalize hq : placeN k isW = q
    generalize hP : runP q t.size [] t = P
    obtain ⟨L, e2⟩ := P
    have HQ := Lib.hid hq
    have HP := Lib.hid hP
    clear hq hP
    go_enter Tryd.func71, Tryd.ntmps71
    go_wp2_with fail
    refine (varIn_calls _ p s x n s1 x1 HV.out h).mono ?_
    rintro e w1 ⟨rfl, i1, o1⟩
    go_wp2_with fail
    refine (rawIn_calls _ p s1 x1 n i1).mono ?_
    rw [HR.out]
    rintro e w2 ⟨rfl, i2, o2⟩
    have o12 := o1.trans o2
    clear i1 o1 o2 h
    go_wp2_with fail
    refine (err_calls _ p s2 0 i2).mono ?_
    rintro e w3 ⟨rfl, rfl⟩
    go_wp2_with fail
    refine (place_calls _ k isW).mono ?_
    rw [HQ.out]
    rintro e w3 ⟨rfl, rfl⟩
    have hT2 := HT2.out w2 (Chg.of_only o12)
    have hz2 := o12.size
    go_wp2_with fail
    refine (takeAll_calls _ t q (by omega) hT2).mono ?_
    rw [HP.out]
    rintro e w4 ⟨v, rfl, hown, hnil, hb4⟩
    rw [hz2] at hown
    have i4 := i2.below hb4
    have c4 : Chg p w w4 := (Chg.of_only o12).trans (Chg.of_below hb4)
    obtain ⟨a, c, rfl⟩ := hown.form
    clear i2 hT2 hb4 o12 HT2 hz2
    have HN := Lib.hid hnil
    have HOWN := Lib.hid hown
    have HC := Lib.hid c4
    clear hnil hown c4
    go_wp2_with fail
    refine (fail_calls _ p s2 0 e2 i4).mono ?_
    rintro e w5 ⟨rfl, i5, o5⟩
    have HI5 : Hid (InAt w5 p s2 e2) := i5
    have HO5 := Lib.hid (HOWN.out.only o5 hp)
    have HC5 := Lib.hid (HC.out.trans (Chg.of_only o5))
    clear i4 i5 o5 HOWN HC
    go_wp2
    go_ret
    exact ⟨_, rfl, HO5.out, HN.out, HI5.out, HC5.out⟩
  · rw [if_pos hx]
    have hxb : (x2 == 0) = false := by simpa using hx
    go_enter Tryd.func71, Tryd.ntmps71
    go_wp2_with fail
    refine (varIn_calls _ p s x n s1 x1 HV.out h).mono ?_
    rintro e w1 ⟨rfl, i1, o1⟩
    go_wp2_with fail
    refine (rawIn_calls _ p s1 x1 n i1).mono ?_
    rw [HR.out]
    rintro e w2 ⟨rfl, i2, o2⟩
    have o12 := o1.trans o2
    clear i1 o1 o2 h
    go_wp2_with fail
    refine (err_calls _ p s2 x2 i2).mono ?_
    rintro e w3 ⟨rfl, rfl⟩
    have HI := Lib.hid i2
    have HC := Lib.hid (Chg.of_only o12)
    clear i2 o12
    go_wp2
    go_ret
    exact ⟨_, rfl, World.ownsRow_nil _ _ _ _, (fun _ => rfl), HI.out, HC.out⟩

#print axioms take3_calls

/-- The first property of an identifier. -/
def firstP (P : List Pr) (i : Int) : Option Pr := P.find? fun p => p.id == i
/-- What Get answers. -/
def getV (P : List Pr) (i : Int) : Value := match firstP P i with
  | some p => .tuple #[prV p, .bool true]
  | none => .tuple #[.agg #[.int .i64 0, .int .u32 0, .string ⟨#[]⟩, .string ⟨#[]⟩], .bool false]

theorem first_none (P : List Pr) (k : Nat) (x : Pr) (i : Int) (h : P[k]? = some x) (hf : firstP (P.take k) i = none) (hx : ¬ x.id = i) : firstP (P.take (k + 1)) i = none := by
  obtain ⟨hk, rfl⟩ := List.getElem?_eq_some_iff.1 h
  unfold firstP at *
  rw [List.take_succ_eq_append_getElem hk, List.find?_append, hf]
  simpa using hx
theorem first_some (P : List Pr) (k : Nat) (x : Pr) (i : Int) (h : P[k]? = some x) (hf : firstP (P.take k) i = none) (hx : x.id = i) : firstP P i = some x := by
  obtain ⟨hk, hx'⟩ := List.getElem?_eq_some_iff.1 h
  unfold firstP at *
  have : P = P.take k ++ (x :: P.drop (k + 1)) := by rw [← hx', ← List.drop_eq_getElem_cons hk, List.take_append_drop]
  rw [this, List.find?_append, hf]
  simp [hx]

set_option maxRecDepth 100000 in
set_option maxHeartbeats 1000000 in
theorem get_calls (w : World) (v : Value) (P : List Pr) (i : Int) (hP : PropsAt w v P) (hn : P.length ≤ 1000000) :
    Calls Tryd.prog 61 #[v, .int .i64 i] w fun e w' => e = .returned (getV P i) ∧ Below w.heap.size w w' := by
  obtain ⟨A, cap, rfl, hc⟩ := hP
  have HC := Lib.hid hc
  clear hc
  generalize hG : getV P i = G
  have HG := Lib.hid hG
  clear hG
  go_enter Tryd.func61, Tryd.ntmps61
  go_wp2
  go_loopw [10] (fun j wr => ∃ k : Nat, k ≤ P.length ∧ j = .int .i64 k ∧ firstP (P.take k) i = none ∧ wr.heap[w.heap.size]? = some (.cells #[.int .i64 0, .int .u32 0, .string ⟨#[]⟩, .string ⟨#[]⟩] 132 (0, 0)) ∧ Below w.heap.size w wr) (fun j _ => P.length - (intOf j).toNat)
  case atStart => exact ⟨0, by omega, rfl, rfl, heap_alloc_new w _, below_one w _⟩
  case round =>
    obtain ⟨k, hk, rfl, hf, hbox, hb⟩ := hrel
    have HF := Lib.hid hf
    have HBX := Lib.hid hbox
    have HB := Lib.hid hb
    have hz := hb.size
    have hlt0 := lt_of_block hbox
    clear hf hbox hb
    by_cases hlt : k < P.length
    · obtain ⟨x, hx⟩ : ∃ x, P[k]? = some x := ⟨_, List.getElem?_eq_getElem hlt⟩
      obtain ⟨b, off, hA, hbl2, c0, c1, c2, c3⟩ := HC.out k x hx
      rw [← HB.out.cell (p := ⟨b, _, none⟩) hbl2] at c0 c1 c2 c3
      subst hA
      have HX := Lib.hid hx
      clear hx
      by_cases hi : x.id = i
      · have hG : G = .tuple #[prV x, .bool true] := by rw [← HG.out, getV, first_some P k x i HX.out HF.out hi]
        subst hG
        have hib : (x.id == i) = true := by simpa using hi
        have HI := Lib.hid hi
        clear hi
        obtain ⟨⟨d0, d1, d2, d3⟩, f0, f1, f2, f3⟩ := four_cells HBX.out
        clear HG HF HX
        go_wp2
        refine bodyPost_ret (v := .tuple #[prV x, .bool true]) ?_ rfl ⟨rfl, ?_⟩
        · simp [results, Tryd.results61, go_sem, d0, d1, d2, d3, hlt0]
        · exact ((((HB.out.setCell (Nat.le_refl _) _).setCell (Nat.le_refl _) _).setCell (Nat.le_refl _) _).setCell (Nat.le_refl _) _).alloc (by simpa [World.setCell] using hz) _
      · have hib : (x.id == i) = false := by simpa using hi
        have HN := Lib.hid (first_none P k x i HX.out HF.out hi)
        clear HX HF
        go_wp2
        go_roundw
        case rel => exact ⟨k + 1, by omega, by go_num, HN.out, (Below.heap_alloc _ _ _ hlt0).trans HBX.out, HB.out.alloc hz _⟩
        case measure => simp [intOf]; omega
    · obtain rfl : k = P.length := by omega
      have hf2 := HF.out
      rw [List.take_length] at hf2
      have hG : G = .tuple #[.agg #[.int .i64 0, .int .u32 0, .string ⟨#[]⟩, .string ⟨#[]⟩], .bool false] := by rw [← HG.out, getV, hf2]
      subst hG
      obtain ⟨⟨d0, d1, d2, d3⟩, f0, f1, f2, f3⟩ := four_cells HBX.out
      clear HG HF hf2 HC
      go_wp2
      refine bodyPost_ret (v := .tuple #[.agg #[.int .i64 0, .int .u32 0, .string ⟨#[]⟩, .string ⟨#[]⟩], .bool false]) ?_ rfl ⟨rfl, ?_⟩
      · simp [results, Tryd.results61, go_sem, d0, d1, d2, d3]
      · exact (((HB.out.setCell (Nat.le_refl _) _).setCell (Nat.le_refl _) _).setCell (Nat.le_refl _) _).setCell (Nat.le_refl _) _

/-- What Num answers. -/
def numP (P : List Pr) (i o : Int) : Int := match firstP P i with
  | some p => p.n
  | none => o

end Go.Proofs.YtnpkiknidmhciaaDoor

namespace Go.Proofs.YtnpkiknidmhciaaDoor
open Go.RowKit

/-- A property, as it is taken again. -/
def canon (k : Int) (p : Pr) : Pr :=
  if k = 1 then ⟨p.id, p.n % 256, ⟨#[]⟩, ⟨#[]⟩⟩ else if k = 2 then ⟨p.id, p.n % 65536, ⟨#[]⟩, ⟨#[]⟩⟩ else if k = 3 then ⟨p.id, p.n, ⟨#[]⟩, ⟨#[]⟩⟩
  else if k = 4 then ⟨p.id, (min p.n.toNat 268435455 : Nat), ⟨#[]⟩, ⟨#[]⟩⟩ else if k = 5 then ⟨p.id, 0, p.s, ⟨#[]⟩⟩ else if k = 6 then ⟨p.id, 0, p.s, ⟨#[]⟩⟩ else ⟨p.id, 0, p.s, p.t⟩
/-- Its texts may be said. -/
def Texts (k : Int) (p : Pr) : Prop := (k = 5 → goodB p.s = true) ∧ (k = 7 → goodB p.s = true ∧ goodB p.t = true)

theorem raw_data (s : ByteArray) (l : List UInt8) (hs : s.size ≤ 65535) : rawT (str (dataL s ++ l)) 0 2 = (str (two s.size), str (s.data.toList ++ l), 0) ∧ (numL (str (two s.size)).data.toList : Int) = s.data.toList.length := by
  constructor
  · unfold dataL
    rw [List.append_assoc]
    exact rawT_app _ _ _ rfl
  · rw [str_data, numL_two _ (by omega), ba_size]
    omega
theorem dat_back (s : ByteArray) (l : List UInt8) (hs : s.size ≤ 65535) : datT (str (dataL s ++ l)) 0 = (s, str l, 0) := by
  obtain ⟨h1, h2⟩ := raw_data s l hs
  unfold datT
  rw [h1]
  dsimp only
  rw [h2, rawT_app _ _ _ rfl, ← ba_str]
theorem str_back (s : ByteArray) (l : List UInt8) (hs : s.size ≤ 65535) (hg : goodB s = true) : strT (str (dataL s ++ l)) 0 = (s, str l, 0) := by
  have h := dat_back s l hs
  unfold datT at h
  unfold strT
  rw [h]
  dsimp only
  rw [if_pos hg]

theorem one_back (k : Int) (p : Pr) (l : List UInt8) (hk : k = 1 ∨ k = 2 ∨ k = 3 ∨ k = 4 ∨ k = 5 ∨ k = 6 ∨ k = 7) (hp : p.ok) (ht : Texts k p) : oneT k p.id (str (saysL k p ++ l)) = (canon k p, str l, 0) := by
  have n0 := hp.n0
  have n1 := hp.n1
  rcases hk with rfl | rfl | rfl | rfl | rfl | rfl | rfl
  · show ((⟨p.id, numL (rawT (str ([UInt8.ofNat (p.n % 256).toNat] ++ l)) 0 1).1.data.toList, ⟨#[]⟩, ⟨#[]⟩⟩ : Pr), (rawT (str ([UInt8.ofNat (p.n % 256).toNat] ++ l)) 0 1).2) = (⟨p.id, p.n % 256, ⟨#[]⟩, ⟨#[]⟩⟩, str l, 0)
    rw [rawT_app [UInt8.ofNat (p.n % 256).toNat] l 1 rfl]
    dsimp only
    rw [str_data, numL_one, ofNat_toNat _ (by omega) (by omega)]
  · show ((⟨p.id, numL (rawT (str (two p.n ++ l)) 0 2).1.data.toList, ⟨#[]⟩, ⟨#[]⟩⟩ : Pr), (rawT (str (two p.n ++ l)) 0 2).2) = (⟨p.id, p.n % 65536, ⟨#[]⟩, ⟨#[]⟩⟩, str l, 0)
    rw [rawT_app (two p.n) l 2 rfl]
    dsimp only
    rw [str_data, numL_two _ n0]
  · show ((⟨p.id, numL (rawT (str ((two (p.n / 65536) ++ two p.n) ++ l)) 0 4).1.data.toList, ⟨#[]⟩, ⟨#[]⟩⟩ : Pr), (rawT (str ((two (p.n / 65536) ++ two p.n) ++ l)) 0 4).2) = (⟨p.id, p.n, ⟨#[]⟩, ⟨#[]⟩⟩, str l, 0)
    rw [rawT_app (two (p.n / 65536) ++ two p.n) l 4 rfl]
    dsimp only
    rw [str_data, numL_four _ n0 n1]
  · show ((⟨p.id, (varT 3 0 0 (str (varb 3 (min p.n.toNat 268435455) ++ l)) 0).1, ⟨#[]⟩, ⟨#[]⟩⟩ : Pr), (varT 3 0 0 (str (varb 3 (min p.n.toNat 268435455) ++ l)) 0).2) = (⟨p.id, (min p.n.toNat 268435455 : Nat), ⟨#[]⟩, ⟨#[]⟩⟩, str l, 0)
    rw [varT_back 3 0 0 (min p.n.toNat 268435455) l (by omega) (fun h => absurd h (by decide))]
    dsimp only
    rw [Nat.pow_zero, Nat.mul_one, Nat.zero_add]
  · show ((⟨p.id, 0, (strT (str (dataL p.s ++ l)) 0).1, ⟨#[]⟩⟩ : Pr), (strT (str (dataL p.s ++ l)) 0).2) = (⟨p.id, 0, p.s, ⟨#[]⟩⟩, str l, 0)
    rw [str_back p.s l hp.s1 (ht.1 rfl)]
  · show ((⟨p.id, 0, (datT (str (dataL p.s ++ l)) 0).1, ⟨#[]⟩⟩ : Pr), (datT (str (dataL p.s ++ l)) 0).2) = (⟨p.id, 0, p.s, ⟨#[]⟩⟩, str l, 0)
    rw [dat_back p.s l hp.s1]
  · have h1 := str_back p.s (dataL p.t ++ l) hp.s1 (ht.2 rfl).1
    have h2 := str_back p.t l hp.t1 (ht.2 rfl).2
    have e : str (saysL 7 p ++ l) = str (dataL p.s ++ (dataL p.t ++ l)) := by
      show str ((dataL p.s ++ dataL p.t) ++ l) = _
      rw [List.append_assoc]
    rw [e]
    generalize str (dataL p.s ++ (dataL p.t ++ l)) = z at *
    show ((⟨p.id, 0, if (strT (strT z 0).2.1 (strT z 0).2.2).2.2 = 0 then (strT z 0).1 else ⟨#[]⟩, if (strT (strT z 0).2.1 (strT z 0).2.2).2.2 = 0 then (strT (strT z 0).2.1 (strT z 0).2.2).1 else ⟨#[]⟩⟩ : Pr), (strT (strT z 0).2.1 (strT z 0).2.2).2) = (⟨p.id, 0, p.s, p.t⟩, str l, 0)
    rw [h1]
    dsimp only
    rw [h2]
    simp

/-- A step behind a put. -/
theorem step_back (q : Int) (acc : List Pr) (p : Pr) (l : List UInt8) (hp : p.ok) (ht : Texts (ruleL p.id).kind p) (hk : (ruleL p.id).kind ≠ 0) :
    stepP q acc (str (oneL p ++ l)) = if bits .and .i64 (ruleL p.id).inn q = 0 then .inl 2 else if hasP acc p.id = true ∧ bits .and .i64 (ruleL p.id).sev q = 0 then .inl 3
      else if (canon (ruleL p.id).kind p).n < (ruleL p.id).least ∨ (ruleL p.id).most < (canon (ruleL p.id).kind p).n then .inl 3 else .inr (canon (ruleL p.id).kind p, str l) := by
  have hr := (kind_range p.id).1
  have hi : 1 ≤ p.id ∧ p.id ≤ 42 := by rcases hr with e | e; (· exact absurd e hk); exact e
  have hkk : (ruleL p.id).kind = 1 ∨ (ruleL p.id).kind = 2 ∨ (ruleL p.id).kind = 3 ∨ (ruleL p.id).kind = 4 ∨ (ruleL p.id).kind = 5 ∨ (ruleL p.id).kind = 6 ∨ (ruleL p.id).kind = 7 := by
    rcases (kind_range p.id).2 with e | e
    · exact absurd e hk
    · exact e
  have he : oneL p ++ l = varb 3 p.id.toNat ++ (saysL (ruleL p.id).kind p ++ l) := by unfold oneL; rw [if_neg hk, List.append_assoc]
  have hv : varT 3 0 0 (str (oneL p ++ l)) 0 = (p.id.toNat, str (saysL (ruleL p.id).kind p ++ l), 0) := by
    rw [he, varT_back 3 0 0 p.id.toNat _ (by omega) (fun h => absurd h (by decide)), Nat.pow_zero, Nat.mul_one, Nat.zero_add]
  have hid : ((p.id.toNat : Nat) : Int) = p.id := by omega
  have ho := one_back (ruleL p.id).kind p l hkk hp ht
  rw [step_parts q acc _ p.id.toNat _ 0 (ruleL p.id) (canon (ruleL p.id).kind p) (str l) 0 hv (by rw [hid]) (by rw [hid]; exact ho), hid]
  simp

/-- What is left is less. -/
theorem step_left (q : Int) (acc : List Pr) (s : ByteArray) (y : Pr × ByteArray) (h : stepP q acc s = .inr y) : y.2.size < s.size := by
  have hvl := var_left 3 0 0 s 0
  have hve := varT_err 3 0 0 s 0
  generalize hv : varT 3 0 0 s 0 = V at *
  obtain ⟨n, s1, x1⟩ := V
  dsimp only at hvl
  have hol := one_left (ruleL n).kind n s1
  generalize ho : oneT (ruleL n).kind n s1 = O at *
  obtain ⟨z, s2, x2⟩ := O
  dsimp only at hol
  rw [step_parts q acc s n s1 x1 (ruleL n) z s2 x2 hv rfl ho] at h
  split at h
  · cases h
  · rename_i h1
    have hx1 : x1 = 0 := by
      by_cases hx : x1 = 0
      · exact hx
      · have := hve n s1 x1 rfl hx
        subst this
        have := (rule_in (0 : Nat) q h1).1
        omega
    have := (hvl.2 hx1).2
    split at h
    · cases h
    · split at h
      · cases h
      · split at h
        · cases h
        · injection h with h
          subst h
          dsimp only
          omega

/-- How much fuel there is does not matter. -/
theorem run_fuel (q : Int) : ∀ (f : Nat) (acc : List Pr) (s : ByteArray), s.size ≤ f → runP q f acc s = runP q s.size acc s := by
  intro f
  induction f using Nat.strongRecOn with
  | ind f ih =>
    intro acc s hs
    by_cases h0 : s.size = 0
    · rw [h0]
      cases f with
      | zero => rfl
      | succ f => rw [runP, runP, if_pos h0]
    · obtain ⟨g, rfl⟩ : ∃ g, f = g + 1 := ⟨f - 1, by omega⟩
      obtain ⟨m, hm⟩ : ∃ m, s.size = m + 1 := ⟨s.size - 1, by omega⟩
      rw [hm, runP, runP, if_neg h0, if_neg h0]
      cases hst : stepP q acc s with
      | inl e => rfl
      | inr y =>
        have hl := step_left q acc s y hst
        dsimp only
        rw [ih g (by omega) _ _ (by omega)]
        by_cases hgm : g = m
        · subst hgm; rw [ih g (by omega) _ _ (by omega)]
        · rw [ih m (by omega) _ _ (by omega)]

def runA (q : Int) (acc : List Pr) (s : ByteArray) : List Pr × Int := runP q s.size acc s
theorem runA_nil (q : Int) (acc : List Pr) : runA q acc (str []) = (acc, 0) := rfl
theorem runA_step (q : Int) (acc : List Pr) (s : ByteArray) (h : s.size ≠ 0) : runA q acc s = match stepP q acc s with
    | .inl e => ([], e)
    | .inr y => runA q (acc ++ [y.1]) y.2 := by
  obtain ⟨m, hm⟩ : ∃ m, s.size = m + 1 := ⟨s.size - 1, by omega⟩
  unfold runA
  rw [hm, runP, if_neg h]
  cases hst : stepP q acc s with
  | inl e => rfl
  | inr y =>
    have hl := step_left q acc s y hst
    dsimp only
    exact run_fuel q m _ _ (by omega)

theorem oneL_ne (p : Pr) (h : (ruleL p.id).kind ≠ 0) (l : List UInt8) : (str (oneL p ++ l)).size ≠ 0 := by
  rw [str_size]
  unfold oneL
  rw [if_neg h]
  have : (varb 3 p.id.toNat).length ≠ 0 := by
    rw [varb]; split <;> simp
  simp only [List.length_append]
  omega

/-- Take behind Put. -/
theorem take_back (q : Int) (P : List Pr) (tail : List UInt8) (hl : (bodyL P).length ≤ 268435455) :
    takeR q (str (propsL P ++ tail)) 0 = ((runA q [] (str (bodyL P))).1, str tail, (runA q [] (str (bodyL P))).2) := by
  have hv : varT 3 0 0 (str (propsL P ++ tail)) 0 = ((bodyL P).length, str (bodyL P ++ tail), 0) := by
    unfold propsL
    rw [List.append_assoc, varT_back 3 0 0 (bodyL P).length _ (by omega) (fun h => absurd h (by decide)), Nat.pow_zero, Nat.mul_one, Nat.zero_add]
  rw [takeR_parts q _ 0 _ _ _ (str (bodyL P)) (str tail) 0 hv (rawT_app _ _ _ rfl)]
  simp [runA]

#print axioms take_back
end Go.Proofs.YtnpkiknidmhciaaDoor

namespace Go.Proofs.YtnpkiknidmhciaaDoor
open Go.RowKit

/-- The property that awake puts. -/
def aw : Pr := ⟨2, 9, ⟨#[]⟩, ⟨#[]⟩⟩
theorem aw_ok : aw.ok := ⟨by decide, by decide, by decide, by decide⟩
theorem aw_bytes : str ([] ++ propsL [aw]) = ⟨#[5, 2, 0, 0, 0, 9]⟩ := by decide +kernel
theorem aw_take : takeR (placeN 3 false) ⟨#[5, 2, 0, 0, 0, 9]⟩ 0 = ([aw], str [], 0) := by
  rw [← aw_bytes]
  have h := take_back (placeN 3 false) [aw] [] (by decide +kernel)
  rw [List.append_nil] at h
  rw [List.nil_append, h]
  have hb : bodyL [aw] = oneL aw ++ [] := by decide +kernel
  rw [hb, runA_step _ _ _ (oneL_ne aw (by decide) []), step_back _ _ aw [] aw_ok ⟨fun h => absurd h (by decide), fun h => absurd h (by decide)⟩ (by decide)]
  rw [if_neg (by decide +kernel), if_neg (by decide +kernel), if_neg (by decide +kernel)]
  rfl

theorem PropsAt.lit (w : World) (a : Pr) (t : TypeId) (cap : Nat) : PropsAt (w.alloc (.cells #[.int .i64 a.id, .int .u32 a.n, .string a.s, .string a.t] t)) (.slice (some ⟨w.heap.size, 0, none⟩) 1 cap) [a] := by
  refine ⟨_, cap, rfl, fun i x hx => ?_⟩
  cases i with
  | zero =>
    simp at hx
    subst hx
    exact ⟨w.heap.size, 0, rfl, by simp, by simp, by simp, by simp, by simp⟩
  | succ i => simp at hx

end Go.Proofs.YtnpkiknidmhciaaDoor

namespace Go.Proofs.YtnpkiknidmhciaaDoor
open Go.RowKit

theorem Tryd.structProp : Tryd.prog.underlying 132 = some (.struct (Tryd.prog.fieldsOf 132)) := by kernel_rfl
theorem Tryd.structRProp : Tryd.prog.underlying 138 = some (.struct (Tryd.prog.fieldsOf 138)) := by kernel_rfl
theorem Tryd.standProp : Tryd.prog.stoodInHeld 132 = false := by kernel_rfl
theorem Tryd.standRProp : Tryd.prog.stoodInHeld 138 = false := by kernel_rfl
theorem Tryd.guardProp : Tryd.prog.eqGuardType Tryd.prog.depth 132 = false := by kernel_rfl
theorem Tryd.guardRProp : Tryd.prog.eqGuardType Tryd.prog.depth 138 = false := by kernel_rfl

set_option maxRecDepth 100000 in
theorem eq_rprop (x : Pr) (w : World) : (Op.equalIn 10000 138 (prV x) (prV x)).run Tryd.prog w = .ok true w := by
  rw [run_equalIn_agg w 9999 138 _ _ Tryd.structRProp Tryd.standRProp]
  simp [Op.eqFields, go_sem]
set_option maxRecDepth 100000 in
theorem eq_prop (x : Pr) (w : World) : (Op.equalIn 10000 132 (prV x) (prV x)).run Tryd.prog w = .ok true w := by
  rw [run_equalIn_agg w 9999 132 _ _ Tryd.structProp Tryd.standProp]
  simp [Op.eqFields, go_sem]
theorem neq_rprop (x : Pr) (w : World) : (binOp .neq 138 (prV x) (prV x)).run Tryd.prog w = .ok (.bool false) w := by
  rw [run_neq_struct, eq_rprop]; rfl
theorem eql_prop (x : Pr) (w : World) : (binOp .eql 132 (prV x) (prV x)).run Tryd.prog w = .ok (.bool true) w := by
  rw [run_eql_struct, eq_prop]; rfl

theorem PropsAt.drewN {w : World} {v : Value} {P : List Pr} (h : PropsAt w v P) (n : Nat) : PropsAt (w.drewN n) v P := h
theorem drewN_below {B : Nat} {a w : World} (h : Below B a w) (n : Nat) : Below B a (w.drewN n) := ⟨h.os, h.tape, h.output, h.size, h.block⟩

end Go.Proofs.YtnpkiknidmhciaaDoor

namespace Go.Proofs.YtnpkiknidmhciaaDoor
open Go.RowKit

theorem raw_inv {l : List UInt8} {n : Nat} {t s' : ByteArray} (h : rawT (str l) 0 n = (t, s', 0)) : ∃ a r, l = a ++ r ∧ a.length = n ∧ t = str a ∧ s' = str r := by
  by_cases hn : n ≤ l.length
  · rw [rawT_list l n hn] at h
    injection h with h1 h
    injection h with h2 _
    exact ⟨l.take n, l.drop n, (List.take_append_drop n l).symm, by rw [List.length_take]; omega, h1.symm, h2.symm⟩
  · rw [rawT_short l n (by omega)] at h
    injection h with _ h
    injection h with _ h
    exact absurd h (by decide)

theorem num1_inv (a : List UInt8) (h : a.length = 1) : [UInt8.ofNat ((numL a : Int) % 256).toNat] = a ∧ numL a < 256 := by
  match a, h with
  | [c], _ =>
    have hc := c.toNat_lt
    have e : numL [c] = c.toNat := numL_one c
    rw [e]
    refine ⟨?_, by omega⟩
    rw [show ((c.toNat : Int) % 256).toNat = c.toNat by omega, byte_ofNat]
theorem num2_inv (a : List UInt8) (h : a.length = 2) : two (numL a) = a ∧ numL a < 65536 := by
  match a, h with
  | [c, d], _ =>
    have hc := c.toNat_lt
    have hd := d.toNat_lt
    have e : numL [c, d] = c.toNat * 256 + d.toNat := by simp [numL]
    rw [e]
    refine ⟨?_, by omega⟩
    unfold two
    rw [show (((c.toNat * 256 + d.toNat : Nat) : Int) / 256 % 256).toNat = c.toNat by omega, show (((c.toNat * 256 + d.toNat : Nat) : Int) % 256).toNat = d.toNat by omega, byte_ofNat, byte_ofNat]
theorem num4_inv (a : List UInt8) (h : a.length = 4) : two ((numL a : Int) / 65536) ++ two (numL a) = a ∧ numL a < 4294967296 := by
  match a, h with
  | [c, d, e, f], _ =>
    have hc := c.toNat_lt
    have hd := d.toNat_lt
    have he := e.toNat_lt
    have hf := f.toNat_lt
    have e1 : numL [c, d, e, f] = ((c.toNat * 256 + d.toNat) * 256 + e.toNat) * 256 + f.toNat := by simp [numL]
    rw [e1]
    refine ⟨?_, by omega⟩
    unfold two
    rw [show (((((c.toNat * 256 + d.toNat) * 256 + e.toNat) * 256 + f.toNat : Nat) : Int) / 65536 / 256 % 256).toNat = c.toNat by omega, show (((((c.toNat * 256 + d.toNat) * 256 + e.toNat) * 256 + f.toNat : Nat) : Int) / 65536 % 256).toNat = d.toNat by omega, show (((((c.toNat * 256 + d.toNat) * 256 + e.toNat) * 256 + f.toNat : Nat) : Int) / 256 % 256).toNat = e.toNat by omega, show (((((c.toNat * 256 + d.toNat) * 256 + e.toNat) * 256 + f.toNat : Nat) : Int) % 256).toNat = f.toNat by omega, byte_ofNat, byte_ofNat, byte_ofNat, byte_ofNat]
    rfl

theorem dat_inv {l : List UInt8} {t s' : ByteArray} (h : datT (str l) 0 = (t, s', 0)) : ∃ r, l = dataL t ++ r ∧ s' = str r ∧ t.size ≤ 65535 := by
  unfold datT at h
  rcases hr : rawT (str l) 0 2 with ⟨t0, s1, x1⟩
  rw [hr] at h
  dsimp only at h
  have hx : x1 = 0 := rawT_keeps s1 x1 (numL t0.data.toList) (by rw [h])
  subst hx
  obtain ⟨a, r1, rfl, ha, rfl, rfl⟩ := raw_inv hr
  rw [str_data] at h
  obtain ⟨e1, e2⟩ := num2_inv a ha
  obtain ⟨b, r, rfl, hb, rfl, rfl⟩ := raw_inv h
  refine ⟨r, ?_, rfl, by rw [str_size]; omega⟩
  unfold dataL
  rw [str_size, str_data, hb, e1, List.append_assoc]
theorem str_inv {l : List UInt8} {t s' : ByteArray} (h : strT (str l) 0 = (t, s', 0)) : ∃ r, l = dataL t ++ r ∧ s' = str r ∧ t.size ≤ 65535 ∧ goodB t = true := by
  unfold strT at h
  split at h
  · rename_i hg
    have hd : datT (str l) 0 = (t, s', 0) := h
    obtain ⟨r, h1, h2, h3⟩ := dat_inv hd
    rw [h] at hg
    exact ⟨r, h1, h2, h3, hg⟩
  · injection h with _ h
    injection h with _ h
    exact absurd h (by decide)

theorem var_inv {l : List UInt8} {n : Nat} {s' : ByteArray} (h : varT 3 0 0 (str l) 0 = (n, s', 0)) : ∃ r, l = varb 3 n ++ r ∧ s' = str r ∧ n ≤ 268435455 := by
  obtain ⟨m, e1, e2, e3, _⟩ := varT_one 3 0 0 l n s' h
  obtain rfl : n = m := by simpa using e1
  exact ⟨s'.data.toList, e3, ba_str s', by omega⟩

theorem datT_keeps (s : ByteArray) (x : Int) (h : (datT s x).2.2 = 0) : x = 0 := by
  unfold datT at h
  exact rawT_keeps _ _ _ (rawT_keeps _ _ _ h)
theorem strT_keeps (s : ByteArray) (x : Int) (h : (strT s x).2.2 = 0) : x = 0 := by
  unfold strT at h
  split at h
  · exact rawT_keeps _ _ _ (rawT_keeps _ _ _ h)
  · exact absurd (show (2 : Int) = 0 from h) (by decide)

/-- One property. -/
theorem one_inv (k i : Int) (hk : k = 1 ∨ k = 2 ∨ k = 3 ∨ k = 4 ∨ k = 5 ∨ k = 6 ∨ k = 7) {l : List UInt8} {y : Pr} {s' : ByteArray} (h : oneT k i (str l) = (y, s', 0)) : ∃ r, l = saysL k y ++ r ∧ s' = str r ∧ y.ok ∧ y.id = i := by
  have hid : y.id = i := by have := one_id k i (str l); rw [h] at this; exact this
  have e0 : (⟨#[]⟩ : ByteArray).size = 0 := rfl
  rcases hk with rfl | rfl | rfl | rfl | rfl | rfl | rfl
  · rcases hr : rawT (str l) 0 1 with ⟨t, s1, x1⟩
    have h' : ((⟨i, numL t.data.toList, ⟨#[]⟩, ⟨#[]⟩⟩ : Pr), s1, x1) = (y, s', 0) := by rw [← h]; show _ = (_, _); rw [hr]
    injection h' with a1 h'; injection h' with a2 a3
    subst a1 a2 a3
    obtain ⟨a, r, rfl, ha, rfl, rfl⟩ := raw_inv hr
    rw [str_data] at *
    obtain ⟨e1, e2⟩ := num1_inv a ha
    refine ⟨r, ?_, rfl, ⟨by dsimp only; omega, by dsimp only; omega, by dsimp only; omega, by dsimp only; omega⟩, hid⟩
    show a ++ r = [_] ++ r
    rw [e1]
  · rcases hr : rawT (str l) 0 2 with ⟨t, s1, x1⟩
    have h' : ((⟨i, numL t.data.toList, ⟨#[]⟩, ⟨#[]⟩⟩ : Pr), s1, x1) = (y, s', 0) := by rw [← h]; show _ = (_, _); rw [hr]
    injection h' with a1 h'; injection h' with a2 a3
    subst a1 a2 a3
    obtain ⟨a, r, rfl, ha, rfl, rfl⟩ := raw_inv hr
    rw [str_data] at *
    obtain ⟨e1, e2⟩ := num2_inv a ha
    refine ⟨r, ?_, rfl, ⟨by dsimp only; omega, by dsimp only; omega, by dsimp only; omega, by dsimp only; omega⟩, hid⟩
    show a ++ r = two _ ++ r
    rw [e1]
  · rcases hr : rawT (str l) 0 4 with ⟨t, s1, x1⟩
    have h' : ((⟨i, numL t.data.toList, ⟨#[]⟩, ⟨#[]⟩⟩ : Pr), s1, x1) = (y, s', 0) := by rw [← h]; show _ = (_, _); rw [hr]
    injection h' with a1 h'; injection h' with a2 a3
    subst a1 a2 a3
    obtain ⟨a, r, rfl, ha, rfl, rfl⟩ := raw_inv hr
    rw [str_data] at *
    obtain ⟨e1, e2⟩ := num4_inv a ha
    refine ⟨r, ?_, rfl, ⟨by dsimp only; omega, by dsimp only; omega, by dsimp only; omega, by dsimp only; omega⟩, hid⟩
    show a ++ r = (two (_ / 65536) ++ two _) ++ r
    rw [e1]
  · rcases hr : varT 3 0 0 (str l) 0 with ⟨n, s1, x1⟩
    have h' : ((⟨i, n, ⟨#[]⟩, ⟨#[]⟩⟩ : Pr), s1, x1) = (y, s', 0) := by rw [← h]; show _ = (_, _); rw [hr]
    injection h' with a1 h'; injection h' with a2 a3
    subst a1 a2 a3
    obtain ⟨r, rfl, rfl, hn⟩ := var_inv hr
    refine ⟨r, ?_, rfl, ⟨by dsimp only; omega, by dsimp only; omega, by dsimp only; omega, by dsimp only; omega⟩, hid⟩
    show varb 3 n ++ r = varb 3 (min (n : Int).toNat 268435455) ++ r
    rw [show min (n : Int).toNat 268435455 = n by omega]
  · rcases hr : strT (str l) 0 with ⟨t, s1, x1⟩
    have h' : ((⟨i, 0, t, ⟨#[]⟩⟩ : Pr), s1, x1) = (y, s', 0) := by rw [← h]; show _ = (_, _); rw [hr]
    injection h' with a1 h'; injection h' with a2 a3
    subst a1 a2 a3
    obtain ⟨r, rfl, rfl, hs, hg⟩ := str_inv hr
    exact ⟨r, rfl, rfl, ⟨by show (0 : Int) ≤ 0; decide, by show (0 : Int) < 4294967296; decide, hs, by dsimp only; omega⟩, hid⟩
  · rcases hr : datT (str l) 0 with ⟨t, s1, x1⟩
    have h' : ((⟨i, 0, t, ⟨#[]⟩⟩ : Pr), s1, x1) = (y, s', 0) := by rw [← h]; show _ = (_, _); rw [hr]
    injection h' with a1 h'; injection h' with a2 a3
    subst a1 a2 a3
    obtain ⟨r, rfl, rfl, hs⟩ := dat_inv hr
    exact ⟨r, rfl, rfl, ⟨by show (0 : Int) ≤ 0; decide, by show (0 : Int) < 4294967296; decide, hs, by dsimp only; omega⟩, hid⟩
  · rcases hr : strT (str l) 0 with ⟨t, s1, x1⟩
    rcases hr2 : strT s1 x1 with ⟨t2, s2, x2⟩
    have h' : ((⟨i, 0, if x2 = 0 then t else ⟨#[]⟩, if x2 = 0 then t2 else ⟨#[]⟩⟩ : Pr), s2, x2) = (y, s', 0) := by rw [← h]; show _ = (_, _); rw [hr]; dsimp only; rw [hr2]
    injection h' with a1 h'; injection h' with a2 a3
    subst a3
    rw [if_pos rfl, if_pos rfl] at a1
    subst a1 a2
    have hx : x1 = 0 := strT_keeps s1 x1 (by rw [hr2])
    subst hx
    obtain ⟨r1, rfl, rfl, hs, hg⟩ := str_inv hr
    obtain ⟨r, rfl, rfl, hs2, hg2⟩ := str_inv hr2
    refine ⟨r, ?_, rfl, ⟨by show (0 : Int) ≤ 0; decide, by show (0 : Int) < 4294967296; decide, hs, hs2⟩, hid⟩
    show dataL t ++ (dataL t2 ++ r) = (dataL t ++ dataL t2) ++ r
    rw [List.append_assoc]

#print axioms one_inv
end Go.Proofs.YtnpkiknidmhciaaDoor

namespace Go.Proofs.YtnpkiknidmhciaaDoor
open Go.RowKit

theorem ret_bool {a b : Bool} (h : a = b) : Ending.returned (.bool a) = .returned (.bool b) := by rw [h]
theorem ret_int {k : IntKind} {a b : Int} (h : a = b) : Ending.returned (.int k a) = .returned (.int k b) := by rw [h]

/-- Binary data. -/
def datL (s : ByteArray) : List UInt8 := two s.size ++ s.data.toList
theorem ret_str {a b : List UInt8} (h : b = a) : Ending.returned (.string (str a)) = .returned (.string (str b)) := by rw [h]
theorem datL_len (s : ByteArray) (h : s.size ≤ 65535) : (datL s).length ≤ 65537 := by unfold datL; rw [List.length_append, two_len, ba_size]; omega
theorem propsL_len (P : List Pr) (h : ∀ p ∈ P, p.ok) (hn : P.length ≤ 1000) : (propsL P).length ≤ 140000004 := by
  have := bodyL_len P h
  have := varb_len 3 (bodyL P).length
  unfold propsL
  rw [List.length_append]
  have : 140000 * P.length ≤ 140000000 := by omega
  omega

theorem or_range (a b : Int) (h0 : 0 ≤ a) (h1 : a < 256) (h2 : 0 ≤ b) (h3 : b < 256) : 0 ≤ bits .or .u8 a b ∧ bits .or .u8 a b < 256 := by
  rw [u8_or a b h0 h1 h2 h3]
  have : a.toNat ||| b.toNat < 2 ^ 8 := Nat.or_lt_two_pow (by omega) (by omega)
  omega
theorem step_inv (q : Int) (acc : List Pr) {l : List UInt8} {y : Pr} {s' : ByteArray} (h : stepP q acc (str l) = .inr (y, s')) : ∃ r, l = oneL y ++ r ∧ s' = str r ∧ y.ok := by
  have hve := varT_err 3 0 0 (str l) 0
  rcases hv : varT 3 0 0 (str l) 0 with ⟨n, s1, x1⟩
  rcases ho : oneT (ruleL n).kind n s1 with ⟨z, s2, x2⟩
  rw [step_parts q acc _ n s1 x1 (ruleL n) z s2 x2 hv rfl ho] at h
  split at h
  · cases h
  rename_i h1
  have hx1 : x1 = 0 := by
    by_cases hx : x1 = 0
    · exact hx
    · have := hve n s1 x1 hv hx
      subst this
      have := (rule_in (0 : Nat) q h1).1
      omega
  subst hx1
  split at h
  · cases h
  split at h
  · cases h
  rename_i h2
  split at h
  · cases h
  injection h with h
  injection h with e1 e2
  subst e1 e2
  have hx2 : x2 = 0 := by
    by_cases hx : x2 = 0
    · exact hx
    · exact absurd hx h2
  subst hx2
  have hk : (ruleL n).kind ≠ 0 := by
    intro e
    have := (rule_in (n : Int) q h1).2
    omega
  obtain ⟨l1, rfl, rfl, _⟩ := var_inv hv
  obtain ⟨r, rfl, rfl, hok, hid⟩ := one_inv (ruleL n).kind n (by rcases (kind_range n).2 with e | e; (· exact absurd e hk); exact e) ho
  refine ⟨r, ?_, rfl, hok⟩
  unfold oneL
  rw [hid, if_neg hk, Int.toNat_natCast, List.append_assoc]

theorem step_bad (q : Int) (acc : List Pr) (s : ByteArray) (e : Int) (h : stepP q acc s = .inl e) : e ≠ 0 := by
  unfold stepP at h
  split at h
  · injection h with h; omega
  split at h
  · injection h with h; omega
  split at h
  · injection h with h; omega
  split at h
  · injection h with h; omega
  cases h

theorem run_inv (q : Int) : ∀ (f : Nat) (acc : List Pr) (l : List UInt8) (P : List Pr), l.length ≤ f → runP q f acc (str l) = (P, 0) → ∃ Q, P = acc ++ Q ∧ l = bodyL Q ∧ (∀ p ∈ Q, p.ok) ∧ Q.length ≤ l.length
  | 0, acc, l, P, hl, h => by
    have : l = [] := List.eq_nil_of_length_eq_zero (by omega)
    subst this
    injection h with h _
    exact ⟨[], by rw [← h, List.append_nil], rfl, (fun p hp => by cases hp), Nat.le_refl _⟩
  | f + 1, acc, l, P, hl, h => by
    rw [runP] at h
    split at h
    · rename_i hz
      rw [str_size] at hz
      have : l = [] := List.eq_nil_of_length_eq_zero hz
      subst this
      injection h with h _
      exact ⟨[], by rw [← h, List.append_nil], rfl, (fun p hp => by cases hp), Nat.le_refl _⟩
    · cases hst : stepP q acc (str l) with
      | inl e =>
        rw [hst] at h
        injection h with _ h
        exact absurd h (step_bad q acc _ e hst)
      | inr y =>
        rw [hst] at h
        obtain ⟨y, s'⟩ := y
        have hlt := step_left q acc _ _ hst
        obtain ⟨r, rfl, rfl, hok⟩ := step_inv q acc hst
        dsimp only at h hlt
        rw [str_size, str_size] at hlt
        obtain ⟨Q, rfl, rfl, hQ, hn⟩ := run_inv q f (acc ++ [y]) r P (by omega) h
        refine ⟨y :: Q, by simp, by simp [bodyL], ?_, by rw [List.length_cons]; omega⟩
        intro p hp
        rcases List.mem_cons.1 hp with rfl | hp
        · exact hok
        · exact hQ p hp

theorem raw_invX {s t s' : ByteArray} {x : Int} {n : Nat} (h : rawT s x n = (t, s', 0)) : x = 0 ∧ s.data.toList = t.data.toList ++ s'.data.toList ∧ t.data.toList.length = n := by
  have hx : x = 0 := rawT_keeps s x n (by rw [h])
  subst hx
  rw [ba_str s] at h
  obtain ⟨a, r, e, ha, rfl, rfl⟩ := raw_inv h
  rw [str_data, str_data]
  exact ⟨rfl, e, ha⟩
theorem str_invX {s t s' : ByteArray} {x : Int} (h : strT s x = (t, s', 0)) : x = 0 ∧ s.data.toList = datL t ++ s'.data.toList ∧ t.size ≤ 65535 := by
  have hx : x = 0 := strT_keeps s x (by rw [h])
  subst hx
  rw [ba_str s] at h
  obtain ⟨r, e, rfl, hs, _⟩ := str_inv h
  rw [str_data]
  exact ⟨rfl, e, hs⟩
theorem dat_invX {s t s' : ByteArray} {x : Int} (h : datT s x = (t, s', 0)) : x = 0 ∧ s.data.toList = datL t ++ s'.data.toList ∧ t.size ≤ 65535 := by
  have hx : x = 0 := datT_keeps s x (by rw [h])
  subst hx
  rw [ba_str s] at h
  obtain ⟨r, e, rfl, hs⟩ := dat_inv h
  rw [str_data]
  exact ⟨rfl, e, hs⟩
theorem take_invX {q : Int} {s s' : ByteArray} {x : Int} {P : List Pr} (h : takeR q s x = (P, s', 0)) : x = 0 ∧ s.data.toList = propsL P ++ s'.data.toList ∧ (∀ p ∈ P, p.ok) ∧ P.length ≤ s.data.toList.length := by
  rcases hv : varT 3 0 0 s x with ⟨n, s1, x1⟩
  rcases hr : rawT s1 x1 n with ⟨t, s2, x2⟩
  rw [takeR_parts q s x n s1 x1 t s2 x2 hv hr] at h
  split at h
  · rename_i hx
    injection h with _ h
    injection h with _ h
    exact absurd h hx
  rename_i hx
  have hx2 : x2 = 0 := by
    by_cases e : x2 = 0
    · exact e
    · exact absurd e hx
  subst hx2
  obtain ⟨rfl, e1, e2⟩ := raw_invX hr
  have hx : x = 0 := ((var_left 3 0 0 s x).2 (by rw [hv])).1
  subst hx
  rw [ba_str s] at hv
  obtain ⟨r, e3, rfl, _⟩ := var_inv hv
  rw [str_data] at e1
  injection h with h1 h
  injection h with h2 h3
  subst h2
  have hz : t.data.toList.length = t.size := ba_size t
  obtain ⟨Q, e4, e5, hok, hn⟩ := run_inv q t.size [] t.data.toList P (by omega) (by rw [← ba_str t, ← h1, ← h3])
  rw [List.nil_append] at e4
  subst e4
  refine ⟨rfl, ?_, hok, ?_⟩
  · rw [e3, e1, ← e2]
    unfold propsL
    rw [← e5, List.append_assoc]
  · rw [e3, e1, List.length_append, List.length_append]; omega

theorem InAt.far {p b : Nat} {W : World} {s : ByteArray} {x : Int} (h : InAt W p s x) (hb : p ≠ b) (j : Nat) (u : Value) : InAt (W.setCell ⟨b, j, none⟩ u) p s x := h.keep (Below.heap_setCell W ⟨b, j, none⟩ u p hb)
theorem set_cells {W : World} {b : Nat} {arr : Array Value} {t : TypeId} (h : W.heap[b]? = some (.cells arr t (0, 0))) (j : Nat) (u : Value) : (W.setCell ⟨b, j, none⟩ u).heap[b]? = some (.cells (arr.setIfInBounds j u) t (0, 0)) := by
  have := lt_of_block h
  simp [World.setCell, Array.getElem?_modify, h]

theorem OwnP.chg {B p : Nat} {e : TypeId} {w w' : World} {v : Value} {P : List Pr} (h : OwnP B e w v P) (hc : Chg p w w') (hp : p < B) : OwnP B e w' v P := by
  refine ⟨h.1, ?_⟩
  rcases h.2 with h | ⟨g, cap, cur, hv, hB, hg, rest⟩
  · exact .inl h
  · exact .inr ⟨g, cap, cur, hv, hB, (hc.block g (lt_of_block hg) (fun e => by injection e; omega)).trans hg, rest⟩
theorem OwnP.set {B b j : Nat} {e : TypeId} {w : World} {v y : Value} {P : List Pr} (h : OwnP B e w v P) (hb : b < B) : OwnP B e (w.setCell ⟨b, j, none⟩ y) v P := by
  refine ⟨h.1, ?_⟩
  rcases h.2 with h | ⟨g, cap, cur, hv, hB, hg, rest⟩
  · exact .inl h
  · exact .inr ⟨g, cap, cur, hv, hB, (Below.heap_setCell _ _ _ _ (by show g ≠ b; omega)).trans hg, rest⟩

theorem below_set {B b : Nat} {w W : World} (h : Below B w W) (hb : B ≤ b) (j : Nat) (u : Value) : Below B w (W.setCell ⟨b, j, none⟩ u) := h.setCell (show B ≤ (⟨b, j, none⟩ : Addr).block from hb) u

theorem cells3 {w : World} {b : Nat} {t : TypeId} {u0 u1 u2 : Value} (h : w.heap[b]? = some (.cells #[u0, u1, u2] t (0, 0))) :
    w.cell? ⟨b, 0, none⟩ = some u0 ∧ w.cell? ⟨b, 1, none⟩ = some u1 ∧ w.cell? ⟨b, 2, none⟩ = some u2 ∧ ∀ j, w.frozen? ⟨b, j, none⟩ = false := by
  simp [World.cell?, World.frozen?, h]

theorem cells4 {w : World} {b : Nat} {t : TypeId} {u0 u1 u2 u3 : Value} (h : w.heap[b]? = some (.cells #[u0, u1, u2, u3] t (0, 0))) :
    w.cell? ⟨b, 0, none⟩ = some u0 ∧ w.cell? ⟨b, 1, none⟩ = some u1 ∧ w.cell? ⟨b, 2, none⟩ = some u2 ∧ w.cell? ⟨b, 3, none⟩ = some u3 ∧ ∀ j, w.frozen? ⟨b, j, none⟩ = false := by
  simp [World.cell?, World.frozen?, h]
theorem cells7 {w : World} {b : Nat} {t : TypeId} {u0 u1 u2 u3 u4 u5 u6 : Value} (h : w.heap[b]? = some (.cells #[u0, u1, u2, u3, u4, u5, u6] t (0, 0))) :
    w.cell? ⟨b, 0, none⟩ = some u0 ∧ w.cell? ⟨b, 1, none⟩ = some u1 ∧ w.cell? ⟨b, 2, none⟩ = some u2 ∧ w.cell? ⟨b, 3, none⟩ = some u3 ∧ w.cell? ⟨b, 4, none⟩ = some u4 ∧ w.cell? ⟨b, 5, none⟩ = some u5 ∧ w.cell? ⟨b, 6, none⟩ = some u6 ∧ ∀ j, w.frozen? ⟨b, j, none⟩ = false := by
  simp [World.cell?, World.frozen?, h]

/-- While a body is parsed: the In at p, the struct at cb, the result at w's end, the struct's own list v. -/
structure Ps (w : World) (T : TypeId) (R : Array Value) (p cb : Nat) (A : Array Value) (v : Value) (P : List Pr) (s : ByteArray) (x : Int) (W : World) : Prop where
  inn : InAt W p s x
  res : W.heap[w.heap.size]? = some (.cells R T (0, 0))
  loc : W.heap[cb]? = some (.cells A T (0, 0))
  bel : Below w.heap.size w W
  hp : w.heap.size < p
  hc : p < cb
  own : OwnP (cb + 1) 132 W v P

section
variable {w : World} {T : TypeId} {R : Array Value} {p cb : Nat} {A : Array Value} {v : Value} {P : List Pr} {s : ByteArray} {x : Int} {W : World}
theorem Ps.took (h : Ps w T R p cb A v P s x W) {W' : World} {s' : ByteArray} {x' : Int} (hi : InAt W' p s' x') (hc : Chg p W W') : Ps w T R p cb A v P s' x' W' := by
  have h1 := h.hp
  have h2 := h.hc
  exact ⟨hi, (hc.block _ (lt_of_block h.res) (fun e => by injection e; omega)).trans h.res, (hc.block _ (lt_of_block h.loc) (fun e => by injection e; omega)).trans h.loc, h.bel.trans (hc.below h.bel.size (Nat.le_of_lt h1)), h1, h2, h.own.chg hc (by omega)⟩
theorem Ps.putv (h : Ps w T R p cb A v P s x W) {A' : Array Value} {v' : Value} {P' : List Pr} (j : Nat) (y : Value) (ho : OwnP (cb + 1) 132 W v' P') (hA : A' = A.setIfInBounds j y) : Ps w T R p cb A' v' P' s x (W.setCell ⟨cb, j, none⟩ y) := by
  have e1 := h.hp
  have e2 := h.hc
  refine ⟨h.inn.far (Nat.ne_of_lt e2) _ _, (Below.heap_setCell _ _ _ _ (by show w.heap.size ≠ cb; omega)).trans h.res, ?_, h.bel.setCell (by show w.heap.size ≤ cb; omega) _, e1, e2, ho.set (by omega)⟩
  rw [hA]
  exact set_cells h.loc j y
theorem Ps.put (h : Ps w T R p cb A v P s x W) {A' : Array Value} (j : Nat) (y : Value) (hA : A' = A.setIfInBounds j y) : Ps w T R p cb A' v P s x (W.setCell ⟨cb, j, none⟩ y) := h.putv j y h.own hA
/-- Another block that is new, the struct itself: the beginning. -/
theorem Ps.start (w : World) (T : TypeId) (R : Array Value) (p : Nat) (A : Array Value) (s : ByteArray) (x : Int) (W : World) (hi : InAt W p s x) (hr : W.heap[w.heap.size]? = some (.cells R T (0, 0))) (hb : Below w.heap.size w W) (hp : w.heap.size < p) :
    Ps w T R p W.heap.size A (.slice none 0 0) [] s x (W.alloc (.cells A T)) :=
  ⟨hi.below (below_one W _), (Below.heap_alloc W _ _ (lt_of_block hr)).trans hr, heap_alloc_new W _, hb.alloc hb.size _, hp, hi.lt, World.ownsRow_nil _ _ _ _⟩
end

/-- While a body is put: the struct at w's end, the Out behind it. -/
structure Tx (w : World) (T : TypeId) (A : Array Value) (r : Option Nat) (bs : List UInt8) (W : World) : Prop where
  box : W.heap[w.heap.size]? = some (.cells A T (0, 0))
  out : OutAt W (w.heap.size + 1) r bs
  bel : Below w.heap.size w W
  row : ∀ g, r = some g → w.heap.size + 2 ≤ g

section
variable {w : World} {T : TypeId} {A : Array Value} {r : Option Nat} {bs : List UInt8} {W : World}
theorem Tx.start (w : World) (T : TypeId) (A : Array Value) : Tx w T A none [] ((w.alloc (.cells A T)).alloc (.cells #[.slice none 0 0] 162)) := by
  refine ⟨?_, ?_, below_two w _ _, fun g hg => by cases hg⟩
  · rw [Below.heap_alloc _ _ _ (by simp)]; exact heap_alloc_new w _
  · have := OutAt.new (w.alloc (.cells A T)); rw [World.size_alloc] at this; exact this
theorem Tx.ne (h : Tx w T A r bs W) : some w.heap.size ≠ r := fun e => by have := h.row _ e.symm; omega
theorem Tx.put (h : Tx w T A r bs W) {bs' : List UInt8} {W' : World} {r' : Option Nat} (ho : OutAt W' (w.heap.size + 1) r' bs') (hs : Step W W' (w.heap.size + 1) r r') : Tx w T A r' bs' W' := by
  have hlt := lt_of_block h.box
  have hlo := h.out.lt
  refine ⟨(hs.block _ hlt (by omega) h.ne).trans h.box, ho, h.bel.trans (hs.below (by omega) (by omega) (fun g hg => by have := h.row g hg; omega)), hs.row_ge (by omega) h.row⟩
theorem Tx.below (h : Tx w T A r bs W) {W' : World} (hb : Below W.heap.size W W') : Tx w T A r bs W' :=
  ⟨(hb.block _ (lt_of_block h.box)).trans h.box, h.out.below hb, h.bel.trans (hb.mono h.bel.size), h.row⟩
end

#print axioms take_invX
end Go.Proofs.YtnpkiknidmhciaaDoor

namespace Go.Proofs.YtnpkiknidmhciaaDoor
open Go.RowKit

/-- One property of a number, put, and taken. -/
theorem one_num (q : Int) (p : Pr) (hp : p.ok) (hin : ¬ bits .and .i64 (ruleL p.id).inn q = 0) (hk : (ruleL p.id).kind ≤ 4) (hc : canon (ruleL p.id).kind p = p) :
    takeR q (str ([] ++ propsL [p])) 0 = if p.n < (ruleL p.id).least ∨ (ruleL p.id).most < p.n then ([], str [], 3) else ([p], str [], 0) := by
  have hkk := (rule_in p.id q hin).2
  have h0 : (ruleL p.id).kind ≠ 0 := by omega
  have hl : (bodyL [p]).length ≤ 268435455 := by
    have := bodyL_len [p] (fun x hx => by simp at hx; subst hx; exact hp)
    simp at this; omega
  have h := take_back q [p] [] hl
  rw [List.append_nil] at h
  rw [List.nil_append, h]
  have hb : bodyL [p] = oneL p ++ [] := by simp [bodyL]
  rw [hb, runA_step _ _ _ (oneL_ne p h0 []), step_back _ _ p [] hp ⟨fun h => by omega, fun h => by omega⟩ h0, hc]
  rw [if_neg hin, if_neg (by simp [hasP])]
  by_cases hbad : p.n < (ruleL p.id).least ∨ (ruleL p.id).most < p.n
  · rw [if_pos hbad, if_pos hbad]
  · rw [if_neg hbad, if_neg hbad]
    rfl

/-- What a number may be. -/
theorem rule_nums : ∀ i ∈ idsL, ((ruleL i).kind = 1 → (ruleL i).least = 0 ∧ (ruleL i).most = 1 ∧ i ≠ 11 ∧ i ≠ 33 ∧ i ≠ 39) ∧ ((ruleL i).kind = 2 → (ruleL i).least = (if i = 33 then 1 else 0) ∧ (ruleL i).most = 65535 ∧ i ≠ 11 ∧ i ≠ 39) ∧
    ((ruleL i).kind = 3 → (ruleL i).least = (if i = 39 then 1 else 0) ∧ (ruleL i).most = 4294967295 ∧ i ≠ 11 ∧ i ≠ 33) ∧ ((ruleL i).kind = 4 → (ruleL i).least = 1 ∧ (ruleL i).most = 268435455 ∧ i = 11) := by decide
theorem rule_num (i : Int) : ((ruleL i).kind = 1 → (ruleL i).least = 0 ∧ (ruleL i).most = 1 ∧ i ≠ 11 ∧ i ≠ 33 ∧ i ≠ 39) ∧ ((ruleL i).kind = 2 → (ruleL i).least = (if i = 33 then 1 else 0) ∧ (ruleL i).most = 65535 ∧ i ≠ 11 ∧ i ≠ 39) ∧
    ((ruleL i).kind = 3 → (ruleL i).least = (if i = 39 then 1 else 0) ∧ (ruleL i).most = 4294967295 ∧ i ≠ 11 ∧ i ≠ 33) ∧ ((ruleL i).kind = 4 → (ruleL i).least = 1 ∧ (ruleL i).most = 268435455 ∧ i = 11) := by
  rcases ids_mem i with h | ⟨_, h⟩
  · exact rule_nums i h
  · rw [h]; exact ⟨fun e => absurd e (by decide), fun e => absurd e (by decide), fun e => absurd e (by decide), fun e => absurd e (by decide)⟩

theorem and_255 (b : Int) (h0 : 0 ≤ b) (h1 : b < 4294967296) : bits .and .u32 b 255 = b % 256 := by
  obtain ⟨n, rfl⟩ := Int.eq_ofNat_of_zero_le h0
  have h := u32_and_nat n 255 (by omega) (by omega)
  have e : n &&& 255 = n % 256 := Nat.and_two_pow_sub_one_eq_mod n 8
  rw [e] at h
  exact h.trans (by omega)

theorem OwnP.one {B : Nat} {e : TypeId} {w : World} {v : Value} {p : Pr} (h : OwnP B e w v [p]) : ∃ g c, v = .slice (some ⟨g, 0, none⟩) 1 c ∧ w.cell? ⟨g, 0, none⟩ = some (.int .i64 p.id) ∧ w.cell? ⟨g, 1, none⟩ = some (.int .u32 p.n) := by
  have hc := h.props
  rcases h.2 with ⟨_, h0⟩ | ⟨g, cap, cur, rfl, _⟩
  · simp at h0
  · refine ⟨g, cap, rfl, ?_⟩
    obtain ⟨A, c2, hv, hcell⟩ := hc
    obtain ⟨b, off, hA, _, c0, c1, _⟩ := hcell 0 p rfl
    injection hv with hv1 hv2 hv3
    rw [hA] at hv1
    injection hv1 with hv1
    injection hv1 with hb ho
    subst hb ho
    exact ⟨c0, c1⟩

#print axioms one_num
end Go.Proofs.YtnpkiknidmhciaaDoor
