/-
  Signs, one behind the other. (No statement: lemmas that the proofs of the statements use.)
-/
import Derived.Test.YtdhdjkpocdfjbabDoorPure4
namespace Go.Proofs.YtdhdjkpocdfjbabDoor
open Go.RowKit Go.Lib

theorem dec_le4' (l : List UInt8) : (decodeL l).2 ≤ 4 := by
  rw [decodeL_N]
  rcases decodeN_shape l.length (l.getD 0 0).toNat (l.getD 1 0).toNat (l.getD 2 0).toNat (l.getD 3 0).toNat with ⟨c, e⟩ | ⟨c1, c2, c3, cv, e⟩ | ⟨c1, c2, c3, c4, cv, cs, e⟩ | ⟨c1, c2, c3, c4, c5, cv, cw, e⟩ | e
  all_goals (rw [e]; dsimp only; omega)

theorem sgn_le (l : List UInt8) : (sgn (str l)).2 ≤ l.length := by
  rw [sgn_str]
  by_cases h : l = [] ∨ Bad l
  · rw [if_pos h]; exact Nat.zero_le _
  · rw [if_neg h]; exact decodeL_le l (fun e => h (.inl e))

theorem sgn_nil : (sgn (str [])).2 = 0 := by rw [sgn_str, if_pos (.inl rfl)]

/-- How many signs a text has, as far as they go. -/
def nsig (l : List UInt8) : Nat := if h : (sgn (str l)).2 = 0 then 0 else nsig (l.drop (sgn (str l)).2) + 1
termination_by l.length
decreasing_by
  have hne : l ≠ [] := fun e => h (by rw [e]; exact sgn_nil)
  have := List.length_pos_iff.2 hne
  rw [List.length_drop]
  omega

theorem nsig_none (l : List UInt8) (h : (sgn (str l)).2 = 0) : nsig l = 0 := by rw [nsig, dif_pos h]
theorem nsig_one (l : List UInt8) (h : (sgn (str l)).2 ≠ 0) : nsig l = nsig (l.drop (sgn (str l)).2) + 1 := by rw [nsig, dif_neg h]

theorem good_spell (v : Nat) (hv : isSign v) (h0 : v ≠ 0) : goodB (str (spellL v)) = true := by
  have hl := spellL_len v
  have hd := dec_spell v hv []
  have hb := not_bad_spell v hv []
  rw [List.append_nil] at hd hb
  refine (good_iff _).2 ⟨by omega, ?_, ?_⟩
  · rw [validD_step _ (spellL_ne v), if_neg (show ¬ ((decodeL (spellL v)).1 = 65533 ∧ (decodeL (spellL v)).2 = 1) from hb), hd]
    rw [List.drop_of_length_le (Nat.le_refl _)]
    rfl
  · have hz : ∀ n : Nat, n ≠ 0 → n < 256 → (0 : UInt8) ≠ UInt8.ofNat n := fun n h1 h2 e => by
      have := congrArg UInt8.toNat e
      rw [toNat_byte n h2] at this
      exact h1 this.symm
    obtain ⟨h1, h2⟩ := hv
    unfold spellL
    by_cases c1 : v < 128
    · rw [if_pos c1]; simp only [List.mem_cons, List.not_mem_nil, or_false]; exact hz _ h0 (by omega)
    · rw [if_neg c1]
      by_cases c2 : v < 2048
      · rw [if_pos c2]; simp only [List.mem_cons, List.not_mem_nil, or_false, not_or]; exact ⟨hz _ (by omega) (by omega), hz _ (by omega) (by omega)⟩
      · rw [if_neg c2]
        by_cases c3 : v < 65536
        · rw [if_pos c3]; simp only [List.mem_cons, List.not_mem_nil, or_false, not_or]; exact ⟨hz _ (by omega) (by omega), hz _ (by omega) (by omega), hz _ (by omega) (by omega)⟩
        · rw [if_neg c3]; simp only [List.mem_cons, List.not_mem_nil, or_false, not_or]; exact ⟨hz _ (by omega) (by omega), hz _ (by omega) (by omega), hz _ (by omega) (by omega), hz _ (by omega) (by omega)⟩

/-- A text's first bytes are its sign's. -/
theorem sgn_spelled (l : List UInt8) (h : (sgn (str l)).2 ≠ 0) : isSign (sgn (str l)).1 ∧ spellL (sgn (str l)).1 = l.take (sgn (str l)).2 := by
  have hc : ¬ (l = [] ∨ Bad l) := fun hc => h (by rw [sgn_str, if_pos hc])
  rw [sgn_str, if_neg hc]
  have hne : l ≠ [] := fun e => hc (.inl e)
  have hb : ¬ Bad l := fun e => hc (.inr e)
  have h1 := decodeL_width l
  have h4 := dec_le4' l
  have hk := decodeL_le l hne
  have hs := (spells_iff l (decodeL l).2 (by omega) h4 hk).2 ⟨hb, rfl⟩
  rwa [val_dec l (decodeL l).2 (by omega) h4 hk hb rfl] at hs

theorem good_step (l : List UInt8) (hne : l ≠ []) (hl : l.length ≤ 65535) :
    goodB (str l) = if (sgn (str l)).2 = 0 ∨ (sgn (str l)).1 = 0 then false else goodB (str (l.drop (sgn (str l)).2)) := by
  by_cases h0 : (sgn (str l)).2 = 0
  · rw [if_pos (.inl h0)]
    have hb : Bad l := by
      by_cases hb : Bad l
      · exact hb
      · exfalso
        have h1 := decodeL_width l
        rw [sgn_str, if_neg (by simp [hne, hb])] at h0
        omega
    cases hg : goodB (str l) with
    | false => rfl
    | true => exact absurd hb (valid_ne l hne ((good_iff l).1 hg).2.1).1
  · obtain ⟨hs, hp⟩ := sgn_spelled l h0
    by_cases hv : (sgn (str l)).1 = 0
    · rw [if_pos (.inr hv)]
      rw [hv] at hp
      have hm : (0 : UInt8) ∈ l := by
        have : (0 : UInt8) ∈ spellL 0 := by decide
        rw [hp] at this
        exact List.mem_of_mem_take this
      cases hg : goodB (str l) with
      | false => rfl
      | true => exact absurd hm ((good_iff l).1 hg).2.2
    · rw [if_neg (by simp [h0, hv])]
      have hg := good_spell _ hs hv
      rw [hp] at hg
      have hle := sgn_le l
      have := good_append _ (l.drop (sgn (str l)).2) hg (by simp; omega)
      rwa [List.take_append_drop] at this

#print axioms good_step
end Go.Proofs.YtdhdjkpocdfjbabDoor
