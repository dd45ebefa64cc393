/-
  Plain lemmas on signs and strings. (No statement.)
-/
import Derived.Test.YtdhdjkpocdfjbabDoorWord2
import Derived.Lib.MapLaws
import Derived.Lib.ValidLaws
namespace Go.Proofs.YtdhdjkpocdfjbabDoor
open Go.RowKit Go.Lib

/-- No sign stands at the beginning. -/
def Bad (l : List UInt8) : Prop := (decodeL l).1 = 65533 ∧ (decodeL l).2 = 1
instance (l : List UInt8) : Decidable (Bad l) := inferInstanceAs (Decidable (_ ∧ _))

theorem getD_of_take {l l' : List UInt8} {k : Nat} (h : l.take k = l'.take k) (i : Nat) (hi : i < k) : l'.getD i 0 = l.getD i 0 := by
  have := congrArg (fun x => x.getD i 0) h
  simp only [List.getD_eq_getElem?_getD, List.getElem?_take, if_pos hi] at this
  simpa using this.symm

theorem len_of_take {l l' : List UInt8} {k : Nat} (h : l.take k = l'.take k) (hk : k ≤ l.length) : k ≤ l'.length := by
  have := congrArg List.length h
  simp at this
  omega

/-- A sign is known by its own bytes alone. -/
theorem dec_agree (l l' : List UInt8) (hne : l ≠ []) (hb : ¬ Bad l) (h : l.take (decodeL l).2 = l'.take (decodeL l).2) : decodeL l' = decodeL l := by
  have hk := decodeL_le l hne
  have hl := len_of_take h hk
  have hg := getD_of_take h
  unfold Bad at hb
  rw [decodeL_N] at hb h hk hl hg ⊢
  rw [decodeL_N]
  rcases decodeN_shape l.length (l.getD 0 0).toNat (l.getD 1 0).toNat (l.getD 2 0).toNat (l.getD 3 0).toNat with ⟨c, e⟩ | ⟨c1, c2, c3, cv, e⟩ | ⟨c1, c2, c3, c4, cv, cs, e⟩ | ⟨c1, c2, c3, c4, c5, cv, cw, e⟩ | e
  · rw [e] at hg hl ⊢
    dsimp only at hg hl
    rw [hg 0 (by omega), decodeN, if_pos c]
  · rw [e] at hg hl ⊢
    dsimp only at hg hl
    rw [hg 0 (by omega), hg 1 (by omega), decodeN, if_neg (by omega), if_pos ⟨c1, by omega, c3⟩, if_pos cv]
  · rw [e] at hg hl ⊢
    dsimp only at hg hl
    rw [hg 0 (by omega), hg 1 (by omega), hg 2 (by omega), decodeN, if_neg (by omega), if_neg (by omega), if_pos ⟨c1, ⟨by omega, c3⟩, by omega, c4⟩, if_pos ⟨cv, by omega⟩]
  · rw [e] at hg hl ⊢
    dsimp only at hg hl
    rw [hg 0 (by omega), hg 1 (by omega), hg 2 (by omega), hg 3 (by omega), decodeN, if_neg (by omega), if_neg (by omega), if_neg (by omega), if_pos ⟨c1, ⟨by omega, c3⟩, ⟨by omega, c4⟩, by omega, c5⟩, if_pos ⟨cv, by omega⟩]
  · rw [e] at hb
    exact absurd ⟨rfl, rfl⟩ hb

theorem dec_append (l m : List UInt8) (hne : l ≠ []) (hb : ¬ Bad l) : decodeL (l ++ m) = decodeL l :=
  dec_agree l (l ++ m) hne hb (by rw [List.take_append_of_le_length (decodeL_le l hne)])
theorem dec_take (l : List UInt8) (hne : l ≠ []) (hb : ¬ Bad l) : decodeL (l.take (decodeL l).2) = decodeL l :=
  dec_agree l _ hne hb (by rw [List.take_take, Nat.min_self])

theorem valid_ne (l : List UInt8) (hne : l ≠ []) (h : validD l = true) : ¬ Bad l ∧ validD (l.drop (decodeL l).2) = true := by
  rw [validD_step l hne] at h
  by_cases hb : (decodeL l).1 = 65533 ∧ (decodeL l).2 = 1
  · rw [if_pos hb] at h; cases h
  · rw [if_neg hb] at h; exact ⟨hb, h⟩

theorem valid_append : ∀ (n : Nat) (a b : List UInt8), a.length ≤ n → validD a = true → validD (a ++ b) = validD b := by
  intro n
  induction n with
  | zero =>
    intro a b hn _
    obtain rfl : a = [] := List.eq_nil_of_length_eq_zero (by omega)
    rfl
  | succ n ih =>
    intro a b hn h
    by_cases hne : a = []
    · subst hne; rfl
    · obtain ⟨hb, hd⟩ := valid_ne a hne h
      have hw := decodeL_width a
      rw [validD_step (a ++ b) (by simp [hne]), dec_append a b hne hb, if_neg (show ¬ ((decodeL a).1 = 65533 ∧ (decodeL a).2 = 1) from hb), List.drop_append_of_le_length (decodeL_le a hne)]
      exact ih _ b (by simp; omega) hd

theorem valid_take (l : List UInt8) (hne : l ≠ []) (h : validD l = true) : validD (l.take (decodeL l).2) = true := by
  obtain ⟨hb, _⟩ := valid_ne l hne h
  have hw := decodeL_width l
  have hk := decodeL_le l hne
  have hne' : l.take (decodeL l).2 ≠ [] := by
    intro e
    have h1 := congrArg List.length e
    rw [List.length_take, List.length_nil] at h1
    have h2 : l.length ≠ 0 := fun e => hne (List.eq_nil_of_length_eq_zero e)
    omega
  have e1 := dec_take l hne hb
  rw [validD_step _ hne', e1, if_neg (show ¬ ((decodeL l).1 = 65533 ∧ (decodeL l).2 = 1) from hb), List.drop_of_length_le (by simp; omega)]
  rfl

theorem index_iff (l : List UInt8) (c : UInt8) : indexByte l c < 0 ↔ c ∉ l := by
  have hge : ∀ l : List UInt8, -1 ≤ indexByte l c := by
    intro l
    induction l with
    | nil => simp [indexByte]
    | cons b l ih =>
      unfold indexByte
      repeat' split
      all_goals omega
  induction l with
  | nil => simp [indexByte]
  | cons b l ih =>
    have h1 := hge l
    unfold indexByte
    by_cases hb : b = c
    · subst hb; simp
    · have hb' : (b == c) = false := by simp [hb]
      rw [hb']
      by_cases hi : indexByte l c = -1
      · have hn : c ∉ l := ih.1 (by omega)
        simp [hi, hn]
        exact fun e => hb e.symm
      · have hi' : (indexByte l c == -1) = false := by simp [hi]
        have hn : ¬ c ∉ l := fun h => by have := ih.2 h; omega
        simp only [hi', Bool.false_eq_true, if_false]
        constructor
        · intro h; omega
        · intro h
          exact absurd (fun e => h (List.mem_cons_of_mem _ e)) hn

theorem good_iff (l : List UInt8) : goodB (str l) = true ↔ l.length ≤ 65535 ∧ validD l = true ∧ (0 : UInt8) ∉ l := by
  unfold goodB
  rw [str_data, str_size]
  simp only [Bool.and_eq_true, decide_eq_true_eq, index_iff]

theorem good_append (a b : List UInt8) (ha : goodB (str a) = true) (hl : a.length + b.length ≤ 65535) : goodB (str (a ++ b)) = goodB (str b) := by
  obtain ⟨_, h2, h3⟩ := (good_iff a).1 ha
  rw [Bool.eq_iff_iff, good_iff, good_iff, valid_append a.length a b (Nat.le_refl _) h2]
  simp only [List.length_append, List.mem_append, not_or]
  constructor
  · rintro ⟨_, k2, k3⟩; exact ⟨by omega, k2, k3.2⟩
  · rintro ⟨_, k2, k3⟩; exact ⟨by omega, k2, h3, k3⟩

theorem sgn_str (l : List UInt8) : sgn (str l) = if l = [] ∨ Bad l then (0, 0) else decodeL l := by
  have e : decodeGo (str l) = if l = [] then (65533, 0) else decodeL l := by
    unfold decodeGo decodeL
    by_cases h : l = []
    · subst h; rfl
    · rw [if_neg (by rw [str_size]; exact fun e => h (List.eq_nil_of_length_eq_zero e)), if_neg h]; rfl
  unfold sgn
  rw [e]
  by_cases h : l = []
  · simp [h]
  · have hw := decodeL_width l
    rw [if_neg h]
    by_cases hb : Bad l
    · rw [if_pos (show (decodeL l).1 = 65533 ∧ (decodeL l).2 ≤ 1 from ⟨hb.1, by have := hb.2; omega⟩), if_pos (.inr hb)]
    · have h1 : ¬ ((decodeL l).1 = 65533 ∧ (decodeL l).2 ≤ 1) := fun hh => hb ⟨hh.1, by omega⟩
      rw [if_neg h1, if_neg (by simp [h, hb])]

theorem good_sign (l : List UInt8) (hne : l ≠ []) (hg : goodB (str l) = true) : (sgn (str l)).2 ≤ l.length ∧ goodB (str (l.drop (sgn (str l)).2)) = true ∧ goodB (str (l.take (sgn (str l)).2)) = true := by
  obtain ⟨h1, h2, h3⟩ := (good_iff l).1 hg
  obtain ⟨hb, hd⟩ := valid_ne l hne h2
  rw [sgn_str, if_neg (by simp [hne, hb])]
  refine ⟨decodeL_le l hne, (good_iff _).2 ⟨by simp; omega, hd, fun h => h3 (List.mem_of_mem_drop h)⟩, (good_iff _).2 ⟨by simp; omega, valid_take l hne h2, fun h => h3 (List.mem_of_mem_take h)⟩⟩

#print axioms good_sign
end Go.Proofs.YtdhdjkpocdfjbabDoor
