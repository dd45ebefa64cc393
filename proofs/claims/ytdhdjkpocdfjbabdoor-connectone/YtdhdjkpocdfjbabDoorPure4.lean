/-
  Plain lemmas: a sign's bytes and the sign. (No statement.)
-/
import Derived.Test.YtdhdjkpocdfjbabDoorRef2
namespace Go.Proofs.YtdhdjkpocdfjbabDoor
open Go.RowKit Go.Lib

/-- May a number be a sign? -/
def isSign (v : Nat) : Prop := v ≤ 1114111 ∧ (v < 55296 ∨ 57343 < v)

theorem toNat_byte (n : Nat) (h : n < 256) : (UInt8.ofNat n).toNat = n := by rw [UInt8.toNat_ofNat']; exact Nat.mod_eq_of_lt (by omega)

theorem spellL_len (v : Nat) : 1 ≤ (spellL v).length ∧ (spellL v).length ≤ 4 := by
  unfold spellL
  split
  · simp
  · split
    · simp
    · split <;> simp

theorem spellL_ne (v : Nat) : spellL v ≠ [] := fun e => by have := spellL_len v; rw [e] at this; simp at this

/-- A number's bytes are its sign. -/
theorem dec_spell (v : Nat) (hv : isSign v) (t : List UInt8) : decodeL (spellL v ++ t) = (v, (spellL v).length) := by
  obtain ⟨h1, h2⟩ := hv
  rw [decodeL_N]
  unfold spellL
  by_cases c1 : v < 128
  · rw [if_pos c1]
    simp only [List.cons_append, List.nil_append, List.getD_cons_zero, List.length_cons, List.length_nil]
    rw [toNat_byte v (by omega), decodeN, if_pos c1]
  · rw [if_neg c1]
    by_cases c2 : v < 2048
    · rw [if_pos c2]
      simp only [List.cons_append, List.nil_append, List.getD_cons_zero, List.getD_cons_succ, List.length_cons, List.length_nil]
      rw [toNat_byte (192 + v / 64) (by omega), toNat_byte (128 + v % 64) (by omega), decodeN, if_neg (by omega), if_pos (by omega), if_pos (by omega)]
      congr 1
      omega
    · rw [if_neg c2]
      by_cases c3 : v < 65536
      · rw [if_pos c3]
        simp only [List.cons_append, List.nil_append, List.getD_cons_zero, List.getD_cons_succ, List.length_cons, List.length_nil]
        rw [toNat_byte (224 + v / 4096) (by omega), toNat_byte (128 + v / 64 % 64) (by omega), toNat_byte (128 + v % 64) (by omega), decodeN, if_neg (by omega), if_neg (by omega), if_pos (by omega), if_pos (by omega)]
        congr 1
        omega
      · rw [if_neg c3]
        simp only [List.cons_append, List.nil_append, List.getD_cons_zero, List.getD_cons_succ, List.length_cons, List.length_nil]
        rw [toNat_byte (240 + v / 262144) (by omega), toNat_byte (128 + v / 4096 % 64) (by omega), toNat_byte (128 + v / 64 % 64) (by omega), toNat_byte (128 + v % 64) (by omega), decodeN, if_neg (by omega), if_neg (by omega), if_neg (by omega), if_pos (by omega), if_pos (by omega)]
        congr 1
        omega

theorem not_bad_spell (v : Nat) (hv : isSign v) (t : List UInt8) : ¬ Bad (spellL v ++ t) := by
  unfold Bad
  rw [dec_spell v hv t]
  rintro ⟨rfl, h⟩
  revert h
  decide

/-- A number that is no sign has no bytes. -/
theorem bad_spell (v : Nat) (hv : ¬ isSign v) (hm : v ≤ 2097151) (t : List UInt8) : Bad (spellL v ++ t) := by
  unfold isSign at hv
  unfold Bad
  rw [decodeL_N]
  have c1 : ¬ v < 128 := by omega
  have c2 : ¬ v < 2048 := by omega
  unfold spellL
  rw [if_neg c1, if_neg c2]
  by_cases c3 : v < 65536
  · rw [if_pos c3]
    simp only [List.cons_append, List.nil_append, List.getD_cons_zero, List.getD_cons_succ, List.length_cons]
    rw [toNat_byte (224 + v / 4096) (by omega), toNat_byte (128 + v / 64 % 64) (by omega), toNat_byte (128 + v % 64) (by omega), decodeN, if_neg (by omega), if_neg (by omega), if_pos (by omega), if_neg (by omega)]
    exact ⟨rfl, rfl⟩
  · rw [if_neg c3]
    simp only [List.cons_append, List.nil_append, List.getD_cons_zero, List.getD_cons_succ, List.length_cons]
    rw [toNat_byte (240 + v / 262144) (by omega), toNat_byte (128 + v / 4096 % 64) (by omega), toNat_byte (128 + v / 64 % 64) (by omega), toNat_byte (128 + v % 64) (by omega), decodeN, if_neg (by omega), if_neg (by omega), if_neg (by omega), if_pos (by omega), if_neg (by omega)]
    exact ⟨rfl, rfl⟩

/-- Of a sign that is cut there is none. -/
theorem sgn_cut (v : Nat) (hv : isSign v) : (sgn (str ((spellL v).take ((spellL v).length - 1)))).2 = 0 := by
  by_cases hb : (spellL v).length = 1
  · rw [hb]; rfl
  · have hl := spellL_len v
    generalize hL : spellL v = L at *
    have hne : L.take (L.length - 1) ≠ [] := fun e => by
      have := congrArg List.length e
      rw [List.length_take, List.length_nil] at this
      omega
    rw [sgn_str]
    by_cases hbad : Bad (L.take (L.length - 1))
    · rw [if_pos (.inr hbad)]
    · exfalso
      have h1 := dec_append (L.take (L.length - 1)) (L.drop (L.length - 1)) hne hbad
      rw [List.take_append_drop] at h1
      have h2 := dec_spell v hv []
      rw [List.append_nil, hL] at h2
      have h3 := decodeL_le _ hne
      rw [← h1, h2, List.length_take] at h3
      dsimp only at h3
      omega

theorem sgn_spell (v : Nat) (hv : isSign v) (t : List UInt8) : sgn (str (spellL v ++ t)) = (v, (spellL v).length) := by
  rw [sgn_str, if_neg, dec_spell v hv t]
  rintro (h | h)
  · exact spellL_ne v (List.append_eq_nil_iff.1 h).1
  · exact not_bad_spell v hv t h
theorem sgn_nospell (v : Nat) (hv : ¬ isSign v) (hm : v ≤ 2097151) (t : List UInt8) : sgn (str (spellL v ++ t)) = (0, 0) := by
  rw [sgn_str, if_pos (.inr (bad_spell v hv hm t))]

theorem spell_encode (v : Nat) (hv : isSign v) : spellL v = encodeRune (v : Int) := by
  obtain ⟨h1, h2⟩ := hv
  unfold spellL encodeRune
  by_cases c1 : v < 128
  · rw [if_pos c1, encodeRuneZ_one (by omega) (by omega)]; rfl
  · rw [if_neg c1]
    by_cases c2 : v < 2048
    · rw [if_pos c2, encodeRuneZ_two (by omega) (by omega)]
      simp only [List.map_cons, List.map_nil]
      rw [show (192 + (v : Int) / 64).toNat = 192 + v / 64 by omega, show (128 + (v : Int) % 64).toNat = 128 + v % 64 by omega]
    · rw [if_neg c2]
      by_cases c3 : v < 65536
      · rw [if_pos c3, encodeRuneZ_three (by omega)]
        simp only [List.map_cons, List.map_nil]
        rw [show (224 + (v : Int) / 4096).toNat = 224 + v / 4096 by omega, show (128 + (v : Int) / 64 % 64).toNat = 128 + v / 64 % 64 by omega, show (128 + (v : Int) % 64).toNat = 128 + v % 64 by omega]
      · rw [if_neg c3, encodeRuneZ_four (by omega) (by omega)]
        simp only [List.map_cons, List.map_nil]
        rw [show (240 + (v : Int) / 262144).toNat = 240 + v / 262144 by omega, show (128 + (v : Int) / 4096 % 64).toNat = 128 + v / 4096 % 64 by omega, show (128 + (v : Int) / 64 % 64).toNat = 128 + v / 64 % 64 by omega, show (128 + (v : Int) % 64).toNat = 128 + v % 64 by omega]

/-- The value of the first n bytes, as if they were a sign's. -/
def valL (l : List UInt8) (n : Nat) : Nat := valAcc l (headV l n) (n - 1)

/-- The first n bytes are a sign's just if the sign has n bytes. -/
theorem spells_iff (l : List UInt8) (n : Nat) (h1 : 1 ≤ n) (h4 : n ≤ 4) (hl : n ≤ l.length) : (isSign (valL l n) ∧ spellL (valL l n) = l.take n) ↔ (¬ Bad l ∧ (decodeL l).2 = n) := by
  have hne : l ≠ [] := fun e => by rw [e] at hl; simp at hl; omega
  constructor
  · rintro ⟨hs, he⟩
    have hd := dec_spell _ hs (l.drop n)
    rw [he, List.take_append_drop] at hd
    have hb := not_bad_spell _ hs (l.drop n)
    rw [he, List.take_append_drop] at hb
    refine ⟨hb, ?_⟩
    rw [hd]
    simp; omega
  · rintro ⟨hb, hn⟩
    have hv : valL l n = (decodeL l).1 ∧ isSign (decodeL l).1 := by
      have hb' := hb
      unfold Bad at hb'
      rw [decodeL_N] at hb' hn ⊢
      have k0 := (l.getD 0 0).toNat_lt
      have k1 := (l.getD 1 0).toNat_lt
      have k2 := (l.getD 2 0).toNat_lt
      have k3 := (l.getD 3 0).toNat_lt
      unfold isSign
      rcases decodeN_shape l.length (l.getD 0 0).toNat (l.getD 1 0).toNat (l.getD 2 0).toNat (l.getD 3 0).toNat with ⟨c, e⟩ | ⟨c1, c2, c3, cv, e⟩ | ⟨c1, c2, c3, c4, cv, cs, e⟩ | ⟨c1, c2, c3, c4, c5, cv, cw, e⟩ | e
      · rw [e] at hn ⊢
        dsimp only at hn ⊢
        subst hn
        exact ⟨rfl, by omega⟩
      · rw [e] at hn ⊢
        dsimp only at hn ⊢
        subst hn
        simp only [valL, headV, valAcc, if_true]
        exact ⟨by simp, by omega⟩
      · rw [e] at hn ⊢
        dsimp only at hn ⊢
        subst hn
        simp only [valL, headV, valAcc, if_true]
        refine ⟨?_, by omega⟩
        simp
        omega
      · rw [e] at hn ⊢
        dsimp only at hn ⊢
        subst hn
        simp only [valL, headV, valAcc, if_true]
        refine ⟨?_, by omega⟩
        simp
        omega
      · rw [e] at hb'
        exact absurd ⟨rfl, rfl⟩ hb'
    rw [hv.1]
    exact ⟨hv.2, by rw [spell_encode _ hv.2, encode_decode l hne hb, hn]⟩

theorem val_dec (l : List UInt8) (n : Nat) (h1 : 1 ≤ n) (h4 : n ≤ 4) (hl : n ≤ l.length) (hb : ¬ Bad l) (hn : (decodeL l).2 = n) : valL l n = (decodeL l).1 := by
  have hne : l ≠ [] := fun e => by rw [e] at hl; simp at hl; omega
  obtain ⟨hs, he⟩ := (spells_iff l n h1 h4 hl).2 ⟨hb, hn⟩
  have hd := dec_spell _ hs (l.drop n)
  rw [he, List.take_append_drop] at hd
  rw [hd]

#print axioms sgn_cut
end Go.Proofs.YtdhdjkpocdfjbabDoor
