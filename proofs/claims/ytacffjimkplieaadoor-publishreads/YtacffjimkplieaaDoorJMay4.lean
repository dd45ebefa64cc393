/-
  The document's May of layer 4. (No statement: contracts that the proof of the statement uses.)
-/
import Derived.Test.YtacffjimkplieaaDoorJReason
namespace Go.Proofs.YtacffjimkplieaaDoor
open Go.RowKit

theorem contains_snoc (l : List Int) (x n : Int) : (l ++ [x]).contains n = (l.contains n || (x == n)) := by
  have h : (x == n) = decide (n = x) := by
    by_cases e : n = x
    · subst e; simp
    · rw [decide_eq_false e]; simpa using fun h : x = n => e h.symm
  rw [h]
  simp

theorem among_calls (w : World) (n : Int) (p : Nat) (l : List Int) (cap : Nat) (hl : l.length ≤ 100) (hc : ∀ j, j < l.length → w.cell? ⟨p, j, none⟩ = some (.int .i64 (l.getD j 0))) :
    Calls Tryd.prog 128 #[.int .i64 n, .slice (some ⟨p, 0, none⟩) l.length cap] w fun e w' => e = .returned (.bool (l.contains n)) ∧ w = w' := by
  have HC := Lib.hid hc
  clear hc
  generalize hr : l.contains n = r
  have HR := Lib.hid hr
  clear hr
  go_enter Tryd.func128, Tryd.ntmps128
  go_wp2
  go_loop [9] (fun i => ∃ k : Nat, k ≤ l.length ∧ i = .int .i64 k ∧ Hid ((l.take k).contains n = false)) (fun i => l.length - (intOf i).toNat)
  case atStart => exact ⟨0, by omega, rfl, Lib.hid (by simp)⟩
  case round =>
    obtain ⟨k, hk, rfl, ht⟩ := hrel
    by_cases hlt : k < l.length
    · have hcell := HC.out k hlt
      have hts : l.take (k + 1) = l.take k ++ [l.getD k 0] := by
        rw [List.take_succ_eq_append_getElem hlt]
        simp [List.getD, hlt]
      have HS := Lib.hid (show (l.take (k + 1)).contains n = ((l.take k).contains n || (l.getD k 0 == n)) by rw [hts]; exact contains_snoc _ _ _)
      have HT := Lib.hid hts
      clear hts
      by_cases hx : l.getD k 0 = n
      · have H1 : Hid (r = true) := by
          rw [← HR.out]
          show l.contains n = true
          rw [← List.take_append_drop (k + 1) l, HT.out]
          simp
          right
          left
          exact hx.symm
        have hb : (l.getD k 0 == n) = true := by simpa using hx
        generalize l.getD k 0 = x at *
        clear HS HT HC hx
        obtain rfl := H1.out
        clear H1 HR
        go_wp2
        go_ret
        exact ⟨rfl, rfl⟩
      · have hb : (l.getD k 0 == n) = false := by simpa using hx
        have HN := Lib.hid (show (l.take (k + 1)).contains n = false by rw [HS.out, ht.out, hb]; rfl)
        generalize l.getD k 0 = x at *
        clear HS HT hx
        go_wp2
        go_round
        case rel => exact ⟨k + 1, by omega, by go_num, HN⟩
        case measure => simp [intOf]; omega
    · have H1 : Hid (r = false) := by
        rw [← HR.out]
        show l.contains n = false
        have := ht.out
        rwa [List.take_of_length_le (by omega)] at this
      obtain rfl := H1.out
      clear H1 HR ht
      go_wp2
      go_ret
      exact ⟨rfl, rfl⟩

theorem among_new (w : World) (n : Int) (l : List Int) (A : Array Value) (hA : A = (l.map (Value.int .i64)).toArray) (hl : l.length ≤ 100) (t : TypeId) (m : Nat) (hm : m = l.length) (cap : Nat) :
    Calls Tryd.prog 128 #[.int .i64 n, .slice (some ⟨w.heap.size, 0, none⟩) m cap] (w.alloc (.cells A t)) fun e w' => e = .returned (.bool (l.contains n)) ∧ w.alloc (.cells A t) = w' := by
  subst hm
  refine among_calls _ n _ l cap hl fun j hj => ?_
  subst hA
  simp [hj]

/-- What the document's May answers. -/
def mayR (k c : Int) : Bool :=
  if k = 2 then decide (c = 0) || (decide (128 ≤ c) && decide (c ≤ 138) || [140, 144, 149, 151, 153, 154, 155, 156, 157, 159].contains c)
  else if k = 4 ∨ k = 5 then [0, 16, 128, 131, 135, 144, 145, 151, 153].contains c
  else if k = 6 ∨ k = 7 then decide (c = 0) || decide (c = 146)
  else if k = 9 then decide (c ≤ 2) || [128, 131, 135, 143, 145, 151, 158, 161, 162].contains c
  else if k = 11 then [0, 17, 128, 131, 135, 143, 145].contains c
  else if k = 14 then decide (c = 0) || decide (c = 4) || decide (128 ≤ c) && decide (c ≤ 131) || decide (147 ≤ c) && decide (c ≤ 162) || [135, 137, 139, 141, 142, 143, 144].contains c
  else if k = 15 then [0, 24, 25].contains c
  else false

theorem mayR_none (k c : Int) (h : rowL k = []) : mayR k c = false := by
  rcases kinds k with h' | ⟨h', _⟩
  · rcases h' with rfl | rfl | rfl | rfl | rfl | rfl | rfl | rfl | rfl <;> (exact absurd h (by decide))
  · simp only [beq_eq_false_iff_ne, ne_eq] at h'
    unfold mayR
    rw [if_neg (by omega), if_neg (by omega), if_neg (by omega), if_neg (by omega), if_neg (by omega), if_neg (by omega), if_neg (by omega)]

/-- Both are one. -/
theorem mayR_nat : ∀ c : Nat, c < 256 → ∀ k ∈ [(2 : Int), 4, 5, 6, 7, 9, 11, 14, 15], mayB k c = mayR k c := by decide +kernel
theorem may_eq (k : Int) (c : Nat) (hc : c < 256) : mayB k c = mayR k c := by
  rcases kinds k with h | ⟨_, h⟩
  · exact mayR_nat c hc k (by rcases h with rfl | rfl | rfl | rfl | rfl | rfl | rfl | rfl | rfl <;> decide)
  · rw [mayR_none k c h]
    unfold mayB
    rw [h]
    rfl

/-- What May leaves. -/
def Ans (w : World) (r : Bool) (e : Ending) (w' : World) : Prop := e = .returned (.bool r) ∧ Below w.heap.size w w'

theorem am_end {w w' : World} {A : Array Value} {t : TypeId} (h : w.alloc (.cells A t) = w') : Below w.heap.size w w' := h ▸ (Below.refl _ w).alloc (Nat.le_refl _) _

/-- The cases of a kind, by hand. -/
theorem b_ne {a b : Int} (h : ¬ a = b) : (a == b) = false := by simpa using h

theorem mayR_2 (c : Int) : mayR 2 c = (decide (c = 0) || (decide (128 ≤ c) && decide (c ≤ 138) || ([140, 144, 149, 151, 153, 154, 155, 156, 157, 159] : List Int).contains c)) := rfl
theorem r4may_2 (w : World) (c : Int) (r : Bool) (hr : Hid (mayR 2 c = r)) : Calls Tryd.prog 82 #[.int .i64 2, .int .i64 c] w (Ans w r) := by
  by_cases h1 : c = 0
  · have e0 : decide (c = 0) = true := by simp; omega
    obtain rfl : true = r := by rw [← hr.out, mayR_2, e0]; rfl
    have f0 : (c == 0) = true := by simpa using (by omega : c = 0)
    clear e0
    clear h1
    clear hr
    go_enter Tryd.func82, Tryd.ntmps82
    go_wp2
    go_ret
    exact ⟨rfl, Below.refl _ _⟩
  by_cases h2 : 128 ≤ c ∧ c ≤ 138
  · have e0 : decide (c = 0) = false := by simp; omega
    have e1 : decide (128 ≤ c) = true := by simp; omega
    have e2 : decide (c ≤ 138) = true := by simp; omega
    obtain rfl : true = r := by rw [← hr.out, mayR_2, e0, e1, e2]; rfl
    have f0 : (c == 0) = false := by exact b_ne (by omega)
    clear e0
    have f1 : 128 ≤ c := by omega
    have f2 : c ≤ 138 := by omega
    clear h1 h2
    clear hr
    go_enter Tryd.func82, Tryd.ntmps82
    go_wp2
    go_ret
    exact ⟨rfl, Below.refl _ _⟩
  by_cases h3 : c < 128
  · have e0 : decide (c = 0) = false := by simp; omega
    have e1 : decide (128 ≤ c) = false := by simp; omega
    have HE : Hid (([140, 144, 149, 151, 153, 154, 155, 156, 157, 159] : List Int).contains c = r) := by rw [← hr.out, mayR_2, e0, e1]; rfl
    have f0 : (c == 0) = false := by exact b_ne (by omega)
    clear e0
    clear h1 h2 h3
    clear hr
    go_enter Tryd.func82, Tryd.ntmps82
    go_wp2_with fail
    refine (among_new _ _ [140, 144, 149, 151, 153, 154, 155, 156, 157, 159] _ rfl (by decide) _ _ rfl _).mono ?_
    rintro e w1 ⟨rfl, hw⟩
    have HB := Lib.hid (am_end hw)
    rw [HE.out]
    clear hw HE
    go_wp2
    go_ret
    exact ⟨rfl, HB.out⟩
  have e0 : decide (c = 0) = false := by simp; omega
  have e1 : decide (128 ≤ c) = true := by simp; omega
  have e2 : decide (c ≤ 138) = false := by simp; omega
  have HE : Hid (([140, 144, 149, 151, 153, 154, 155, 156, 157, 159] : List Int).contains c = r) := by rw [← hr.out, mayR_2, e0, e1, e2]; rfl
  have f0 : (c == 0) = false := by exact b_ne (by omega)
  clear e0
  have f1 : 128 ≤ c := by omega
  clear h1 h2 h3
  clear hr
  go_enter Tryd.func82, Tryd.ntmps82
  go_wp2_with fail
  refine (among_new _ _ [140, 144, 149, 151, 153, 154, 155, 156, 157, 159] _ rfl (by decide) _ _ rfl _).mono ?_
  rintro e w1 ⟨rfl, hw⟩
  have HB := Lib.hid (am_end hw)
  rw [HE.out]
  clear hw HE
  go_wp2
  go_ret
  exact ⟨rfl, HB.out⟩

theorem mayR_4 (c : Int) : mayR 4 c = (([0, 16, 128, 131, 135, 144, 145, 151, 153] : List Int).contains c) := rfl
theorem r4may_4 (w : World) (c : Int) (r : Bool) (hr : Hid (mayR 4 c = r)) : Calls Tryd.prog 82 #[.int .i64 4, .int .i64 c] w (Ans w r) := by
  have HE : Hid (([0, 16, 128, 131, 135, 144, 145, 151, 153] : List Int).contains c = r) := by rw [← hr.out, mayR_4]; rfl
  clear hr
  go_enter Tryd.func82, Tryd.ntmps82
  go_wp2_with fail
  refine (among_new _ _ [0, 16, 128, 131, 135, 144, 145, 151, 153] _ rfl (by decide) _ _ rfl _).mono ?_
  rintro e w1 ⟨rfl, hw⟩
  have HB := Lib.hid (am_end hw)
  rw [HE.out]
  clear hw HE
  go_wp2
  go_ret
  exact ⟨rfl, HB.out⟩

theorem mayR_5 (c : Int) : mayR 5 c = (([0, 16, 128, 131, 135, 144, 145, 151, 153] : List Int).contains c) := rfl
theorem r4may_5 (w : World) (c : Int) (r : Bool) (hr : Hid (mayR 5 c = r)) : Calls Tryd.prog 82 #[.int .i64 5, .int .i64 c] w (Ans w r) := by
  have HE : Hid (([0, 16, 128, 131, 135, 144, 145, 151, 153] : List Int).contains c = r) := by rw [← hr.out, mayR_5]; rfl
  clear hr
  go_enter Tryd.func82, Tryd.ntmps82
  go_wp2_with fail
  refine (among_new _ _ [0, 16, 128, 131, 135, 144, 145, 151, 153] _ rfl (by decide) _ _ rfl _).mono ?_
  rintro e w1 ⟨rfl, hw⟩
  have HB := Lib.hid (am_end hw)
  rw [HE.out]
  clear hw HE
  go_wp2
  go_ret
  exact ⟨rfl, HB.out⟩

theorem mayR_6 (c : Int) : mayR 6 c = (decide (c = 0) || decide (c = 146)) := rfl
theorem r4may_6 (w : World) (c : Int) (r : Bool) (hr : Hid (mayR 6 c = r)) : Calls Tryd.prog 82 #[.int .i64 6, .int .i64 c] w (Ans w r) := by
  by_cases h1 : c = 0
  · have e0 : decide (c = 0) = true := by simp; omega
    obtain rfl : true = r := by rw [← hr.out, mayR_6, e0]; rfl
    have f0 : (c == 0) = true := by simpa using (by omega : c = 0)
    clear e0
    clear h1
    clear hr
    go_enter Tryd.func82, Tryd.ntmps82
    go_wp2
    go_ret
    exact ⟨rfl, Below.refl _ _⟩
  by_cases h2 : c = 146
  · have e0 : decide (c = 0) = false := by simp; omega
    have e1 : decide (c = 146) = true := by simp; omega
    obtain rfl : true = r := by rw [← hr.out, mayR_6, e0, e1]; rfl
    have f0 : (c == 0) = false := by exact b_ne (by omega)
    clear e0
    have f1 : (c == 146) = true := by simpa using (by omega : c = 146)
    clear e1
    clear h1 h2
    clear hr
    go_enter Tryd.func82, Tryd.ntmps82
    go_wp2
    go_ret
    exact ⟨rfl, Below.refl _ _⟩
  have e0 : decide (c = 0) = false := by simp; omega
  have e1 : decide (c = 146) = false := by simp; omega
  obtain rfl : false = r := by rw [← hr.out, mayR_6, e0, e1]; rfl
  have f0 : (c == 0) = false := by exact b_ne (by omega)
  clear e0
  have f1 : (c == 146) = false := by exact b_ne (by omega)
  clear e1
  clear h1 h2
  clear hr
  go_enter Tryd.func82, Tryd.ntmps82
  go_wp2
  go_ret
  exact ⟨rfl, Below.refl _ _⟩

theorem mayR_7 (c : Int) : mayR 7 c = (decide (c = 0) || decide (c = 146)) := rfl
theorem r4may_7 (w : World) (c : Int) (r : Bool) (hr : Hid (mayR 7 c = r)) : Calls Tryd.prog 82 #[.int .i64 7, .int .i64 c] w (Ans w r) := by
  by_cases h1 : c = 0
  · have e0 : decide (c = 0) = true := by simp; omega
    obtain rfl : true = r := by rw [← hr.out, mayR_7, e0]; rfl
    have f0 : (c == 0) = true := by simpa using (by omega : c = 0)
    clear e0
    clear h1
    clear hr
    go_enter Tryd.func82, Tryd.ntmps82
    go_wp2
    go_ret
    exact ⟨rfl, Below.refl _ _⟩
  by_cases h2 : c = 146
  · have e0 : decide (c = 0) = false := by simp; omega
    have e1 : decide (c = 146) = true := by simp; omega
    obtain rfl : true = r := by rw [← hr.out, mayR_7, e0, e1]; rfl
    have f0 : (c == 0) = false := by exact b_ne (by omega)
    clear e0
    have f1 : (c == 146) = true := by simpa using (by omega : c = 146)
    clear e1
    clear h1 h2
    clear hr
    go_enter Tryd.func82, Tryd.ntmps82
    go_wp2
    go_ret
    exact ⟨rfl, Below.refl _ _⟩
  have e0 : decide (c = 0) = false := by simp; omega
  have e1 : decide (c = 146) = false := by simp; omega
  obtain rfl : false = r := by rw [← hr.out, mayR_7, e0, e1]; rfl
  have f0 : (c == 0) = false := by exact b_ne (by omega)
  clear e0
  have f1 : (c == 146) = false := by exact b_ne (by omega)
  clear e1
  clear h1 h2
  clear hr
  go_enter Tryd.func82, Tryd.ntmps82
  go_wp2
  go_ret
  exact ⟨rfl, Below.refl _ _⟩

theorem mayR_9 (c : Int) : mayR 9 c = (decide (c ≤ 2) || ([128, 131, 135, 143, 145, 151, 158, 161, 162] : List Int).contains c) := rfl
theorem r4may_9 (w : World) (c : Int) (r : Bool) (hr : Hid (mayR 9 c = r)) : Calls Tryd.prog 82 #[.int .i64 9, .int .i64 c] w (Ans w r) := by
  by_cases h1 : c ≤ 2
  · have e0 : decide (c ≤ 2) = true := by simp; omega
    obtain rfl : true = r := by rw [← hr.out, mayR_9, e0]; rfl
    have f0 : c ≤ 2 := by omega
    clear h1
    clear hr
    go_enter Tryd.func82, Tryd.ntmps82
    go_wp2
    go_ret
    exact ⟨rfl, Below.refl _ _⟩
  have e0 : decide (c ≤ 2) = false := by simp; omega
  have HE : Hid (([128, 131, 135, 143, 145, 151, 158, 161, 162] : List Int).contains c = r) := by rw [← hr.out, mayR_9, e0]; rfl
  clear h1
  clear hr
  go_enter Tryd.func82, Tryd.ntmps82
  go_wp2_with fail
  refine (among_new _ _ [128, 131, 135, 143, 145, 151, 158, 161, 162] _ rfl (by decide) _ _ rfl _).mono ?_
  rintro e w1 ⟨rfl, hw⟩
  have HB := Lib.hid (am_end hw)
  rw [HE.out]
  clear hw HE
  go_wp2
  go_ret
  exact ⟨rfl, HB.out⟩

theorem mayR_11 (c : Int) : mayR 11 c = (([0, 17, 128, 131, 135, 143, 145] : List Int).contains c) := rfl
theorem r4may_11 (w : World) (c : Int) (r : Bool) (hr : Hid (mayR 11 c = r)) : Calls Tryd.prog 82 #[.int .i64 11, .int .i64 c] w (Ans w r) := by
  have HE : Hid (([0, 17, 128, 131, 135, 143, 145] : List Int).contains c = r) := by rw [← hr.out, mayR_11]; rfl
  clear hr
  go_enter Tryd.func82, Tryd.ntmps82
  go_wp2_with fail
  refine (among_new _ _ [0, 17, 128, 131, 135, 143, 145] _ rfl (by decide) _ _ rfl _).mono ?_
  rintro e w1 ⟨rfl, hw⟩
  have HB := Lib.hid (am_end hw)
  rw [HE.out]
  clear hw HE
  go_wp2
  go_ret
  exact ⟨rfl, HB.out⟩

theorem mayR_14 (c : Int) : mayR 14 c = (decide (c = 0) || decide (c = 4) || decide (128 ≤ c) && decide (c ≤ 131) || decide (147 ≤ c) && decide (c ≤ 162) || ([135, 137, 139, 141, 142, 143, 144] : List Int).contains c) := rfl
theorem r4may_14 (w : World) (c : Int) (r : Bool) (hr : Hid (mayR 14 c = r)) : Calls Tryd.prog 82 #[.int .i64 14, .int .i64 c] w (Ans w r) := by
  by_cases h1 : c = 0
  · have e0 : decide (c = 0) = true := by simp; omega
    obtain rfl : true = r := by rw [← hr.out, mayR_14, e0]; rfl
    have f0 : (c == 0) = true := by simpa using (by omega : c = 0)
    clear e0
    clear h1
    clear hr
    go_enter Tryd.func82, Tryd.ntmps82
    go_wp2
    go_ret
    exact ⟨rfl, Below.refl _ _⟩
  by_cases h2 : c = 4
  · have e0 : decide (c = 0) = false := by simp; omega
    have e1 : decide (c = 4) = true := by simp; omega
    obtain rfl : true = r := by rw [← hr.out, mayR_14, e0, e1]; rfl
    have f0 : (c == 0) = false := by exact b_ne (by omega)
    clear e0
    have f1 : (c == 4) = true := by simpa using (by omega : c = 4)
    clear e1
    clear h1 h2
    clear hr
    go_enter Tryd.func82, Tryd.ntmps82
    go_wp2
    go_ret
    exact ⟨rfl, Below.refl _ _⟩
  by_cases h3 : 128 ≤ c ∧ c ≤ 131
  · have e0 : decide (c = 0) = false := by simp; omega
    have e1 : decide (c = 4) = false := by simp; omega
    have e2 : decide (128 ≤ c) = true := by simp; omega
    have e3 : decide (c ≤ 131) = true := by simp; omega
    obtain rfl : true = r := by rw [← hr.out, mayR_14, e0, e1, e2, e3]; rfl
    have f0 : (c == 0) = false := by exact b_ne (by omega)
    clear e0
    have f1 : (c == 4) = false := by exact b_ne (by omega)
    clear e1
    have f2 : 128 ≤ c := by omega
    have f3 : c ≤ 131 := by omega
    clear h1 h2 h3
    clear hr
    go_enter Tryd.func82, Tryd.ntmps82
    go_wp2
    go_ret
    exact ⟨rfl, Below.refl _ _⟩
  by_cases h4 : 147 ≤ c ∧ c ≤ 162
  · have e0 : decide (c = 0) = false := by simp; omega
    have e1 : decide (c = 4) = false := by simp; omega
    have e2 : decide (128 ≤ c) = true := by simp; omega
    have e3 : decide (c ≤ 131) = false := by simp; omega
    have e4 : decide (147 ≤ c) = true := by simp; omega
    have e5 : decide (c ≤ 162) = true := by simp; omega
    obtain rfl : true = r := by rw [← hr.out, mayR_14, e0, e1, e2, e3, e4, e5]; rfl
    have f0 : (c == 0) = false := by exact b_ne (by omega)
    clear e0
    have f1 : (c == 4) = false := by exact b_ne (by omega)
    clear e1
    have f2 : 128 ≤ c := by omega
    have f4 : 147 ≤ c := by omega
    have f5 : c ≤ 162 := by omega
    clear h1 h2 h3 h4
    clear hr
    go_enter Tryd.func82, Tryd.ntmps82
    go_wp2
    go_ret
    exact ⟨rfl, Below.refl _ _⟩
  by_cases h5 : c < 128
  · have e0 : decide (c = 0) = false := by simp; omega
    have e1 : decide (c = 4) = false := by simp; omega
    have e2 : decide (128 ≤ c) = false := by simp; omega
    have e3 : decide (147 ≤ c) = false := by simp; omega
    have HE : Hid (([135, 137, 139, 141, 142, 143, 144] : List Int).contains c = r) := by rw [← hr.out, mayR_14, e0, e1, e2, e3]; rfl
    have f0 : (c == 0) = false := by exact b_ne (by omega)
    clear e0
    have f1 : (c == 4) = false := by exact b_ne (by omega)
    clear e1
    clear h1 h2 h3 h4 h5
    clear hr
    go_enter Tryd.func82, Tryd.ntmps82
    go_wp2_with fail
    refine (among_new _ _ [135, 137, 139, 141, 142, 143, 144] _ rfl (by decide) _ _ rfl _).mono ?_
    rintro e w1 ⟨rfl, hw⟩
    have HB := Lib.hid (am_end hw)
    rw [HE.out]
    clear hw HE
    go_wp2
    go_ret
    exact ⟨rfl, HB.out⟩
  by_cases h6 : c < 147
  · have e0 : decide (c = 0) = false := by simp; omega
    have e1 : decide (c = 4) = false := by simp; omega
    have e2 : decide (128 ≤ c) = true := by simp; omega
    have e3 : decide (c ≤ 131) = false := by simp; omega
    have e4 : decide (147 ≤ c) = false := by simp; omega
    have HE : Hid (([135, 137, 139, 141, 142, 143, 144] : List Int).contains c = r) := by rw [← hr.out, mayR_14, e0, e1, e2, e3, e4]; rfl
    have f0 : (c == 0) = false := by exact b_ne (by omega)
    clear e0
    have f1 : (c == 4) = false := by exact b_ne (by omega)
    clear e1
    have f2 : 128 ≤ c := by omega
    clear h1 h2 h3 h4 h5 h6
    clear hr
    go_enter Tryd.func82, Tryd.ntmps82
    go_wp2_with fail
    refine (among_new _ _ [135, 137, 139, 141, 142, 143, 144] _ rfl (by decide) _ _ rfl _).mono ?_
    rintro e w1 ⟨rfl, hw⟩
    have HB := Lib.hid (am_end hw)
    rw [HE.out]
    clear hw HE
    go_wp2
    go_ret
    exact ⟨rfl, HB.out⟩
  have e0 : decide (c = 0) = false := by simp; omega
  have e1 : decide (c = 4) = false := by simp; omega
  have e2 : decide (128 ≤ c) = true := by simp; omega
  have e3 : decide (c ≤ 131) = false := by simp; omega
  have e4 : decide (147 ≤ c) = true := by simp; omega
  have e5 : decide (c ≤ 162) = false := by simp; omega
  have HE : Hid (([135, 137, 139, 141, 142, 143, 144] : List Int).contains c = r) := by rw [← hr.out, mayR_14, e0, e1, e2, e3, e4, e5]; rfl
  have f0 : (c == 0) = false := by exact b_ne (by omega)
  clear e0
  have f1 : (c == 4) = false := by exact b_ne (by omega)
  clear e1
  have f2 : 128 ≤ c := by omega
  have f4 : 147 ≤ c := by omega
  clear h1 h2 h3 h4 h5 h6
  clear hr
  go_enter Tryd.func82, Tryd.ntmps82
  go_wp2_with fail
  refine (among_new _ _ [135, 137, 139, 141, 142, 143, 144] _ rfl (by decide) _ _ rfl _).mono ?_
  rintro e w1 ⟨rfl, hw⟩
  have HB := Lib.hid (am_end hw)
  rw [HE.out]
  clear hw HE
  go_wp2
  go_ret
  exact ⟨rfl, HB.out⟩

theorem mayR_15 (c : Int) : mayR 15 c = (([0, 24, 25] : List Int).contains c) := rfl
theorem r4may_15 (w : World) (c : Int) (r : Bool) (hr : Hid (mayR 15 c = r)) : Calls Tryd.prog 82 #[.int .i64 15, .int .i64 c] w (Ans w r) := by
  have HE : Hid (([0, 24, 25] : List Int).contains c = r) := by rw [← hr.out, mayR_15]; rfl
  clear hr
  go_enter Tryd.func82, Tryd.ntmps82
  go_wp2_with fail
  refine (among_new _ _ [0, 24, 25] _ rfl (by decide) _ _ rfl _).mono ?_
  rintro e w1 ⟨rfl, hw⟩
  have HB := Lib.hid (am_end hw)
  rw [HE.out]
  clear hw HE
  go_wp2
  go_ret
  exact ⟨rfl, HB.out⟩

theorem r4may_calls (w : World) (k c : Int) (r : Bool) (hr : Hid (mayR k c = r)) : Calls Tryd.prog 82 #[.int .i64 k, .int .i64 c] w (Ans w r) := by
  rcases kinds k with h | ⟨⟨h1, h2, h3, h4, h5, h6, h7, h8, h9⟩, h⟩
  · rcases h with rfl | rfl | rfl | rfl | rfl | rfl | rfl | rfl | rfl
    · exact r4may_2 w c r hr
    · exact r4may_4 w c r hr
    · exact r4may_5 w c r hr
    · exact r4may_6 w c r hr
    · exact r4may_7 w c r hr
    · exact r4may_9 w c r hr
    · exact r4may_11 w c r hr
    · exact r4may_14 w c r hr
    · exact r4may_15 w c r hr
  · obtain rfl : false = r := (mayR_none k c h).symm.trans hr.out
    clear hr h
    go_enter Tryd.func82, Tryd.ntmps82
    go_wp2
    go_ret
    exact ⟨rfl, Below.refl _ _⟩

#print axioms r4may_calls
end Go.Proofs.YtacffjimkplieaaDoor
