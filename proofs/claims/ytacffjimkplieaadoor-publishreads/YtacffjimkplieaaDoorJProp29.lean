/-
  The document's take of layer 3, of whatever kind; its Take. (No statement: contracts that the proofs of the statements use.)
-/
import Derived.Test.YtacffjimkplieaaDoorJPropsC
import Derived.Test.YtacffjimkplieaaDoorJProp28k1
import Derived.Test.YtacffjimkplieaaDoorJProp28k2
import Derived.Test.YtacffjimkplieaaDoorJProp28k3
namespace Go.Proofs.YtacffjimkplieaaDoor
open Go.RowKit

theorem tooR_mono {w : World} {s2 : ByteArray} {x x' : Int} {y y' : Pr} (hx : x = x') (hy : x = 0 → y = y') {e : Ending} {w' : World} (h : TookR w s2 x y e w') : TookR w s2 x' y' e w' := by
  subst hx
  obtain ⟨p, h1, h2, h3⟩ := h
  exact ⟨p, h1, fun h0 => (h2 h0).trans (hy h0), h3⟩
theorem rule_texts9 : ∀ i ∈ idsL, ((ruleL i).kind = 5 ∨ (ruleL i).kind = 6 ∨ (ruleL i).kind = 7 → (ruleL i).least = 0 ∧ (ruleL i).most = 0) := by decide
theorem rule_text9 (i : Int) (h : (ruleL i).kind = 5 ∨ (ruleL i).kind = 6 ∨ (ruleL i).kind = 7) : (ruleL i).least = 0 ∧ (ruleL i).most = 0 := by
  rcases ids_mem i with hm | ⟨_, hr⟩
  · exact rule_texts9 i hm h
  · rw [hr] at h; exact absurd h (by decide)
theorem num_err (i n x2 : Int) (hn : 0 ≤ n) (hk : (ruleL i).kind = 1 ∨ (ruleL i).kind = 2 ∨ (ruleL i).kind = 3 ∨ (ruleL i).kind = 4) (hm : (ruleL i).kind = 2 → n ≤ 65535) (hm3 : (ruleL i).kind = 3 → n ≤ 4294967295) (hm4 : (ruleL i).kind = 4 → n ≤ 268435455) :
    (if x2 ≠ 0 then x2 else if saysB i n = false then 3 else 0) = (if x2 ≠ 0 then x2 else if n < (ruleL i).least ∨ (ruleL i).most < n then 3 else 0) := by
  have h := says_rule i n hn hk hm hm3 hm4
  by_cases hx : x2 = 0
  · subst hx
    rw [if_neg (show ¬ ((0 : Int) ≠ 0) by simp), if_neg (show ¬ ((0 : Int) ≠ 0) by simp)]
    by_cases hs : saysB i n = false
    · rw [if_pos hs, if_pos (h.1 hs)]
    · rw [if_neg hs, if_neg (fun h' => hs (h.2 h'))]
  · rw [if_pos hx, if_pos hx]
theorem raw_len (s : ByteArray) (n : Int) (m : Nat) (hm : n = m) : (rawT s 0 n).1.data.toList.length ≤ m := by
  have := rawT_size s 0 n
  rw [ba_size]
  omega
theorem text_err (i x2 : Int) (h : (ruleL i).kind = 5 ∨ (ruleL i).kind = 6 ∨ (ruleL i).kind = 7) : (if x2 ≠ 0 then x2 else if (0 : Int) < (ruleL i).least ∨ (ruleL i).most < 0 then (3 : Int) else 0) = x2 := by
  obtain ⟨e1, e2⟩ := rule_text9 i h
  rw [e1, e2]
  by_cases hx : x2 = 0
  · rw [if_neg (by simpa using hx), if_neg (by decide), hx]
  · rw [if_pos hx]

theorem take_ok : TakeOk := by
  intro w s i q hin y s2 x2 ho
  obtain ⟨_, hk⟩ := rule_in i q hin
  rcases hk with h | h | h | h | h | h | h
  · rw [h] at ho
    have hl := raw_len s 1 1 rfl
    have ho2 : ((⟨i, numL (rawT s 0 1).1.data.toList, ⟨#[]⟩, ⟨#[]⟩⟩ : Pr), (rawT s 0 1).2) = (y, s2, x2) := ho
    generalize hr : rawT s 0 1 = R at ho2 hl
    obtain ⟨t, s2', x2'⟩ := R
    injection ho2 with e1 e2
    injection e2 with e2 e3
    subst e1 e2 e3
    exact (r3take_1 w s i t s2' x2' hr h _ rfl).mono fun e w' hT => tooR_mono (num_err i (numL t.data.toList : Nat) x2' (by omega) (.inl h) (fun e => by omega) (fun e => by omega) (fun e => by omega)) (fun _ => rfl) hT
  · rw [h] at ho
    have hl := raw_len s 2 2 rfl
    have ho2 : ((⟨i, numL (rawT s 0 2).1.data.toList, ⟨#[]⟩, ⟨#[]⟩⟩ : Pr), (rawT s 0 2).2) = (y, s2, x2) := ho
    generalize hr : rawT s 0 2 = R at ho2 hl
    obtain ⟨t, s2', x2'⟩ := R
    injection ho2 with e1 e2
    injection e2 with e2 e3
    subst e1 e2 e3
    have hn : numL t.data.toList < 65536 := Nat.lt_of_lt_of_le (numL_lt _) (Nat.le_trans (Nat.pow_le_pow_right (by decide) hl) (by decide))
    exact (r3take_2 w s i t s2' x2' hr h _ rfl).mono fun e w' hT => tooR_mono (num_err i (numL t.data.toList : Nat) x2' (by omega) (.inr (.inl h)) (fun e => by omega) (fun e => by omega) (fun e => by omega)) (fun _ => rfl) hT
  · rw [h] at ho
    have hl := raw_len s 4 4 rfl
    have ho2 : ((⟨i, numL (rawT s 0 4).1.data.toList, ⟨#[]⟩, ⟨#[]⟩⟩ : Pr), (rawT s 0 4).2) = (y, s2, x2) := ho
    generalize hr : rawT s 0 4 = R at ho2 hl
    obtain ⟨t, s2', x2'⟩ := R
    injection ho2 with e1 e2
    injection e2 with e2 e3
    subst e1 e2 e3
    have hn := numL_lt4 t.data.toList hl
    exact (r3take_3 w s i t s2' x2' hr h _ rfl).mono fun e w' hT => tooR_mono (num_err i (numL t.data.toList : Nat) x2' (by omega) (.inr (.inr (.inl h))) (fun e => by omega) (fun e => by omega) (fun e => by omega)) (fun _ => rfl) hT
  · rw [h] at ho
    have hb := var_lt s 0
    have ho2 : ((⟨i, (varT 3 0 0 s 0).1, ⟨#[]⟩, ⟨#[]⟩⟩ : Pr), (varT 3 0 0 s 0).2) = (y, s2, x2) := ho
    generalize hr : varT 3 0 0 s 0 = R at ho2 hb
    obtain ⟨n, s2', x2'⟩ := R
    injection ho2 with e1 e2
    injection e2 with e2 e3
    subst e1 e2 e3
    dsimp only at hb ⊢
    rw [← num_err i n x2' (by omega) (.inr (.inr (.inr h))) (fun e => by omega) (fun e => by omega) (fun e => by omega)]
    by_cases hx : x2' = 0
    · subst hx
      rw [if_neg (by simp)]
      cases hs : saysB i n with
      | true => rw [if_neg (by simp)]; exact r3take_4g w s i n s2' hr h hs
      | false => rw [if_pos rfl]; exact r3take_4b w s i n s2' hr h hs
    · rw [if_pos hx]; exact r3take_4e w s i n s2' x2' hr h hx
  · rw [h] at ho
    have hk5 := strT_tak s 0
    have ho2 : ((⟨i, 0, (strT s 0).1, ⟨#[]⟩⟩ : Pr), (strT s 0).2) = (y, s2, x2) := ho
    generalize strT s 0 = R at ho2 hk5
    obtain ⟨a, s2', x2'⟩ := R
    injection ho2 with e1 e2
    injection e2 with e2 e3
    subst e1 e2 e3
    dsimp only
    rw [text_err i x2' (.inl h)]
    by_cases hx : x2' = 0
    · subst hx; exact r3take_5g w s i a s2' hk5 h
    · exact r3take_5e w s i a s2' x2' hk5 h hx
  · rw [h] at ho
    have ho2 : ((⟨i, 0, (rawT (rawT s 0 2).2.1 (rawT s 0 2).2.2 (numL (rawT s 0 2).1.data.toList)).1, ⟨#[]⟩⟩ : Pr), (rawT (rawT s 0 2).2.1 (rawT s 0 2).2.2 (numL (rawT s 0 2).1.data.toList)).2) = (y, s2, x2) := ho
    generalize hr : rawT s 0 2 = R at ho2
    obtain ⟨t, s1, x1⟩ := R
    dsimp only at ho2
    generalize hr2 : rawT s1 x1 (numL t.data.toList) = R2 at ho2
    obtain ⟨a, s2', x2'⟩ := R2
    injection ho2 with e1 e2
    injection e2 with e2 e3
    subst e1 e2 e3
    dsimp only
    rw [text_err i x2' (.inr (.inl h))]
    by_cases hx : x2' = 0
    · subst hx; exact r3take_6g w s i t s1 x1 a s2' hr hr2 h
    · exact r3take_6e w s i t s1 x1 a s2' x2' hr hr2 h hx
  · rw [h] at ho
    have hk1 := strT_tak s 0
    have ho2 : ((⟨i, 0, if (strT (strT s 0).2.1 (strT s 0).2.2).2.2 = 0 then (strT s 0).1 else ⟨#[]⟩, if (strT (strT s 0).2.1 (strT s 0).2.2).2.2 = 0 then (strT (strT s 0).2.1 (strT s 0).2.2).1 else ⟨#[]⟩⟩ : Pr), (strT (strT s 0).2.1 (strT s 0).2.2).2) = (y, s2, x2) := ho
    generalize strT s 0 = R at ho2 hk1
    obtain ⟨a, s1, x1⟩ := R
    dsimp only at ho2 hk1
    have hk2 := strT_tak s1 x1
    generalize strT s1 x1 = R2 at ho2 hk2
    obtain ⟨b, s2', x2'⟩ := R2
    dsimp only at ho2 hk2
    injection ho2 with e1 e2
    injection e2 with e2 e3
    subst e1 e2 e3
    dsimp only
    rw [text_err i x2' (.inr (.inr h))]
    by_cases hx : x2' = 0
    · subst hx; rw [if_pos rfl, if_pos rfl]; exact r3take_7g w s i a s1 x1 b s2' hk1 hk2 h
    · exact r3take_7e w s i a s1 x1 b s2' x2' hk1 hk2 h hx _

/-- The document's Take. -/
theorem r3TakeAll_calls (w : World) (s : ByteArray) (x k : Int) (isW : Bool) :
    Calls Tryd.prog 76 #[cur s x, .int .i64 k, .bool isW] w (TookT w (takeR (placeN k isW) s x)) := r3Take_calls take_ok w s x k isW

#print axioms take_ok
end Go.Proofs.YtacffjimkplieaaDoor
