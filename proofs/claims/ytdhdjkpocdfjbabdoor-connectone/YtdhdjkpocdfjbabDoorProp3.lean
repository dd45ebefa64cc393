/-
  The document's May of layer 3. (No statement: contracts that the proofs of the statements use.)
-/
import Derived.Test.YtdhdjkpocdfjbabDoorProp2
namespace Go.Proofs.YtdhdjkpocdfjbabDoor
open Go.RowKit

theorem ext_one (l : List UInt8) (k : Nat) (h : k < l.length) : (str l).extract k (k + 1) = str [l.getD k 0] := by
  apply ba_ext
  rw [ba_extract, str_data, str_data]
  rw [show k + 1 - k = 1 by omega, List.drop_eq_getElem_cons h]
  rw [List.take_succ_cons, List.take_zero]
  simp [List.getD, h]

theorem contains_snocB (l : List UInt8) (x n : UInt8) : (l ++ [x]).contains n = (l.contains n || decide (x = n)) := by
  by_cases e : x = n
  · subst e; simp
  · have e' : ¬ n = x := fun h => e h.symm
    simp [e, e']

theorem in_calls (w : World) (l : List UInt8) (c : UInt8) (hl : l.length ≤ 1000) :
    Calls Tryd.prog 86 #[.string (str l), .string (str [c])] w fun e w' => e = .returned (.bool (l.contains c)) ∧ w = w' := by
  generalize hr : l.contains c = r
  have HR := Lib.hid hr
  clear hr
  have hz : (str l).size = l.length := str_size l
  go_enter Tryd.func86, Tryd.ntmps86
  go_wp2
  go_loop [5] (fun i => ∃ k : Nat, k ≤ l.length ∧ i = .int .i64 k ∧ Hid ((l.take k).contains c = false)) (fun i => l.length - (intOf i).toNat)
  case atStart => exact ⟨0, by omega, rfl, Lib.hid (by simp)⟩
  case round =>
    obtain ⟨k, hk, rfl, ht⟩ := hrel
    by_cases hlt : k < l.length
    · have hx := ext_one l k hlt
      have hts : l.take (k + 1) = l.take k ++ [l.getD k 0] := by
        rw [List.take_succ_eq_append_getElem hlt]
        simp [List.getD, hlt]
      have HS := Lib.hid (show (l.take (k + 1)).contains c = ((l.take k).contains c || decide (l.getD k 0 = c)) by rw [hts]; exact contains_snocB _ _ _)
      have HT := Lib.hid (show (l.take (k + 1)).contains c = true → l.contains c = true by
        intro h
        rw [List.contains_iff_mem] at h ⊢
        exact List.mem_of_mem_take h)
      clear hts
      generalize l.getD k 0 = x at *
      by_cases he : x = c
      · have H1 : Hid (r = true) := by
          rw [← HR.out]
          exact HT.out (by rw [HS.out]; simp [he])
        have hb : ((str [x]).toList == (str [c]).toList) = true := by rw [he]; simp
        clear HS HT he
        obtain rfl := H1.out
        clear H1 HR
        go_wp2
        go_ret
        exact ⟨rfl, rfl⟩
      · have hb : ((str [x]).toList == (str [c]).toList) = false := by rw [str_list, str_list]; simpa using he
        have HN := Lib.hid (show (l.take (k + 1)).contains c = false by rw [HS.out, ht.out]; simp [he])
        clear HS HT he
        go_wp2
        go_round
        case rel => exact ⟨k + 1, by omega, by go_num, HN⟩
        case measure => simp [intOf]; omega
    · have H1 : Hid (r = false) := by
        rw [← HR.out]
        show l.contains c = false
        have := ht.out
        rwa [List.take_of_length_le (by omega)] at this
      obtain rfl := H1.out
      clear H1 HR ht
      go_wp2
      go_ret
      exact ⟨rfl, rfl⟩

theorem where_short (i : Int) : (whereL i).length ≤ 14 := by
  rcases ids_mem i with h | ⟨_, h⟩
  · have : ∀ i ∈ idsL, (whereL i).length ≤ 14 := by decide
    exact this i h
  · by_cases hm : i ∈ idsL
    · have : ∀ i ∈ idsL, (whereL i).length ≤ 14 := by decide
      exact this i hm
    · rw [where_none i hm]; decide

/-- The places: a will, the kinds, none. -/
def placesL : List (Int × Bool) := [(0, true), (0, false), (1, false), (2, false), (3, false), (4, false), (5, false), (6, false), (7, false), (8, false), (9, false), (10, false), (11, false), (12, false), (13, false), (14, false), (15, false)]
theorem place_of (k : Int) (isW : Bool) : ∃ q ∈ placesL, placeN k isW = placeN q.1 q.2 ∧ letterC k isW = letterC q.1 q.2 := by
  cases isW with
  | true => exact ⟨(0, true), by decide, rfl, rfl⟩
  | false =>
    rcases kind_cases k with h | h
    · refine ⟨(k, false), ?_, rfl, rfl⟩
      rcases h with rfl | rfl | rfl | rfl | rfl | rfl | rfl | rfl | rfl | rfl | rfl | rfl | rfl | rfl | rfl <;> decide
    · refine ⟨(0, false), by decide, ?_, ?_⟩
      · unfold placeN; rw [if_neg (by simp), if_pos (by omega)]; rfl
      · unfold letterC; rw [if_neg (by simp), if_neg (by omega), if_neg (by omega), if_neg (by omega), if_neg (by omega), if_neg (by omega), if_neg (by omega), if_neg (by omega), if_neg (by omega), if_neg (by omega), if_neg (by omega), if_neg (by omega), if_neg (by omega), if_neg (by omega)]; rfl

theorem and_zero (b : Int) : bits .and .i64 0 b = 0 := by
  simp [bits]
  rfl

theorem may_all : ∀ i ∈ idsL, ∀ q ∈ placesL, mayP i q.1 q.2 = (whereL i).contains (letterC q.1 q.2) := by decide +kernel
theorem mayP_where (i k : Int) (isW : Bool) : mayP i k isW = (whereL i).contains (letterC k isW) := by
  obtain ⟨q, hq, h1, h2⟩ := place_of k isW
  by_cases hm : i ∈ idsL
  · rw [h2, ← may_all i hm q hq]
    unfold mayP
    rw [h1]
  · rcases ids_mem i with h | ⟨_, h⟩
    · exact absurd h hm
    · rw [where_none i hm]
      unfold mayP
      rw [h]
      show (bits .and .i64 0 (placeN k isW) != 0) = false
      rw [and_zero]
      rfl

theorem r3may_calls (w : World) (i k : Int) (isW : Bool) :
    Calls Tryd.prog 68 #[.int .i64 i, .int .i64 k, .bool isW] w fun e w' => e = .returned (.bool (mayP i k isW)) ∧ w = w' := by
  rw [mayP_where]
  have hl := where_short i
  generalize hr : (whereL i).contains (letterC k isW) = r
  have HR := Lib.hid hr
  clear hr
  go_enter Tryd.func68, Tryd.ntmps68
  go_wp2_with fail
  refine (where_calls _ i).mono ?_
  rintro e w1 ⟨rfl, rfl⟩
  go_wp2_with fail
  refine (letter_calls _ k isW).mono ?_
  rintro e w1 ⟨rfl, rfl⟩
  go_wp2_with fail
  refine (in_calls _ (whereL i) (letterC k isW) (by omega)).mono ?_
  rintro e w1 ⟨rfl, rfl⟩
  rw [HR.out]
  go_wp2
  go_ret
  exact ⟨rfl, rfl⟩

#print axioms r3may_calls
end Go.Proofs.YtdhdjkpocdfjbabDoor
