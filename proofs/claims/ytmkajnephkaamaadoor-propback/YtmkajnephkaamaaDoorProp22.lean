/-
  Properties that right made are put, and taken again. (No statement.)
-/
import Derived.Test.YtmkajnephkaamaaDoorProp21
namespace Go.Proofs.YtmkajnephkaamaaDoor
open Go.RowKit

/-- A property that is taken as it was put. -/
structure Right (q : Int) (p : Pr) : Prop where
  ok : p.ok
  txt : Texts (ruleL p.id).kind p
  kd : (ruleL p.id).kind ≠ 0
  inn : ¬ bits .and .i64 (ruleL p.id).inn q = 0
  can : canon (ruleL p.id).kind p = p
  num : ¬ (p.n < (ruleL p.id).least ∨ (ruleL p.id).most < p.n)

/-- It may be behind others. -/
def Behind (q : Int) (acc : List Pr) (p : Pr) : Prop := Right q p ∧ ¬ (hasP acc p.id = true ∧ bits .and .i64 (ruleL p.id).sev q = 0)
/-- Each may be behind those ahead of it. -/
def Fine (q : Int) : List Pr → List Pr → Prop
  | _, [] => True
  | acc, p :: Y => Behind q acc p ∧ Fine q (acc ++ [p]) Y

theorem fine_snoc (q : Int) : ∀ (Y acc : List Pr) (p : Pr), Fine q acc Y → Behind q (acc ++ Y) p → Fine q acc (Y ++ [p])
  | [], acc, p, _, h => ⟨by rwa [List.append_nil] at h, trivial⟩
  | y :: Y, acc, p, hf, h => ⟨hf.1, fine_snoc q Y (acc ++ [y]) p hf.2 (by rwa [List.append_assoc, List.singleton_append])⟩

theorem run_fine (q : Int) : ∀ (Y acc : List Pr) (rest : List UInt8), Fine q acc Y → runA q acc (str (bodyL Y ++ rest)) = runA q (acc ++ Y) (str rest)
  | [], acc, rest, _ => by rw [List.append_nil]; rfl
  | p :: Y, acc, rest, hf => by
    obtain ⟨⟨hr, hh⟩, hf2⟩ := hf
    have hb : bodyL (p :: Y) ++ rest = oneL p ++ (bodyL Y ++ rest) := by simp [bodyL]
    rw [hb, runA_step _ _ _ (oneL_ne p hr.kd _), step_back q acc p _ hr.ok hr.txt hr.kd, if_neg hr.inn, if_neg hh, hr.can, if_neg hr.num]
    dsimp only
    rw [run_fine q Y (acc ++ [p]) rest hf2, List.append_assoc, List.singleton_append]

theorem run_all (q : Int) (Y : List Pr) (hf : Fine q [] Y) : runA q [] (str (bodyL Y)) = (Y, 0) := by
  have := run_fine q Y [] [] hf
  rw [List.append_nil] at this
  rw [this]
  rfl

theorem rule_texts : ∀ i ∈ idsL, ((ruleL i).kind = 5 ∨ (ruleL i).kind = 6 ∨ (ruleL i).kind = 7 → (ruleL i).least = 0 ∧ (ruleL i).most = 0) := by decide
theorem rule_text (i : Int) (h : (ruleL i).kind = 5 ∨ (ruleL i).kind = 6 ∨ (ruleL i).kind = 7) : (ruleL i).least = 0 ∧ (ruleL i).most = 0 := by
  rcases ids_mem i with hm | ⟨_, hr⟩
  · exact rule_texts i hm h
  · rw [hr] at h; exact absurd h (by decide)

theorem fix_id (p : Pr) : (fixP p).id = p.id := by
  unfold fixP
  repeat' split
  all_goals rfl

theorem lets_len (l : List UInt8) : (lets l).length = l.length := by simp [lets]

theorem fix_right (q : Int) (p : Pr) (hp : p.ok) (hs : p.s.size ≤ 20) (ht : p.t.size ≤ 20) (hin : ¬ bits .and .i64 (ruleL p.id).inn q = 0) : Right q (fixP p) := by
  have hk := (rule_in p.id q hin).2
  obtain ⟨m1, m2, m3, m4⟩ := rule_num p.id
  have hn0 := hp.n0
  have hn1 := hp.n1
  have ls : p.s.data.toList.length ≤ 20 := by rw [ba_size]; exact hs
  have lt : p.t.data.toList.length ≤ 20 := by rw [ba_size]; exact ht
  have gs := good_lets p.s.data.toList (by omega)
  have gt := good_lets p.t.data.toList (by omega)
  have zs : (str (lets p.s.data.toList)).size ≤ 65535 := by rw [str_size, lets_len]; omega
  have zt : (str (lets p.t.data.toList)).size ≤ 65535 := by rw [str_size, lets_len]; omega
  have z0 : (⟨#[]⟩ : ByteArray).size ≤ 65535 := by decide
  have hs' : p.s.size ≤ 65535 := by omega
  have main : ∀ y : Pr, y.id = p.id → y.ok → Texts (ruleL p.id).kind y → canon (ruleL p.id).kind y = y → ¬ (y.n < (ruleL p.id).least ∨ (ruleL p.id).most < y.n) → Right q y := by
    intro y e h1 h2 h3 h4
    exact ⟨h1, by rw [e]; exact h2, by rw [e]; rcases hk with h | h | h | h | h | h | h <;> (rw [h]; decide), by rw [e]; exact hin, by rw [e]; exact h3, by rw [e]; exact h4⟩
  rcases hk with h | h | h | h | h | h | h
  · have ef : fixP p = ⟨p.id, p.n % 2, ⟨#[]⟩, ⟨#[]⟩⟩ := by simp [fixP, h]
    obtain ⟨e1, e2, _⟩ := m1 h
    rw [ef]
    refine main _ rfl ⟨by dsimp only; omega, by dsimp only; omega, z0, z0⟩ (by rw [h]; exact ⟨fun e => absurd e (by decide), fun e => absurd e (by decide)⟩) ?_ (by dsimp only; rw [e1, e2]; omega)
    rw [h]
    show (⟨p.id, p.n % 2 % 256, ⟨#[]⟩, ⟨#[]⟩⟩ : Pr) = _
    rw [Int.emod_eq_of_lt (by omega) (by omega)]
  · have ef : fixP p = ⟨p.id, 1 + p.n % 65535, ⟨#[]⟩, ⟨#[]⟩⟩ := by simp [fixP, h]
    obtain ⟨e1, e2, _⟩ := m2 h
    rw [ef]
    refine main _ rfl ⟨by dsimp only; omega, by dsimp only; omega, z0, z0⟩ (by rw [h]; exact ⟨fun e => absurd e (by decide), fun e => absurd e (by decide)⟩) ?_ (by dsimp only; rw [e1, e2]; split <;> omega)
    rw [h]
    show (⟨p.id, (1 + p.n % 65535) % 65536, ⟨#[]⟩, ⟨#[]⟩⟩ : Pr) = _
    rw [Int.emod_eq_of_lt (by omega) (by omega)]
  · have ef : fixP p = ⟨p.id, 1 + p.n % 100000000, ⟨#[]⟩, ⟨#[]⟩⟩ := by simp [fixP, h]
    obtain ⟨e1, e2, _⟩ := m3 h
    rw [ef]
    refine main _ rfl ⟨by dsimp only; omega, by dsimp only; omega, z0, z0⟩ (by rw [h]; exact ⟨fun e => absurd e (by decide), fun e => absurd e (by decide)⟩) ?_ (by dsimp only; rw [e1, e2]; split <;> omega)
    rw [h]
    rfl
  · have ef : fixP p = ⟨p.id, 1 + p.n % 100000000, ⟨#[]⟩, ⟨#[]⟩⟩ := by simp [fixP, h]
    obtain ⟨e1, e2, _⟩ := m4 h
    rw [ef]
    refine main _ rfl ⟨by dsimp only; omega, by dsimp only; omega, z0, z0⟩ (by rw [h]; exact ⟨fun e => absurd e (by decide), fun e => absurd e (by decide)⟩) ?_ (by dsimp only; rw [e1, e2]; omega)
    rw [h]
    show (⟨p.id, (min (1 + p.n % 100000000).toNat 268435455 : Nat), ⟨#[]⟩, ⟨#[]⟩⟩ : Pr) = _
    rw [show ((min (1 + p.n % 100000000).toNat 268435455 : Nat) : Int) = 1 + p.n % 100000000 by omega]
  · have ef : fixP p = ⟨p.id, 0, str (lets p.s.data.toList), ⟨#[]⟩⟩ := by simp [fixP, h]
    obtain ⟨e1, e2⟩ := rule_text p.id (.inl h)
    rw [ef]
    refine main _ rfl ⟨by dsimp only; omega, by dsimp only; omega, zs, z0⟩ (by rw [h]; exact ⟨fun _ => gs, fun e => absurd e (by decide)⟩) (by rw [h]; rfl) (by dsimp only; rw [e1, e2]; decide)
  · have ef : fixP p = ⟨p.id, 0, p.s, ⟨#[]⟩⟩ := by simp [fixP, h]
    obtain ⟨e1, e2⟩ := rule_text p.id (.inr (.inl h))
    rw [ef]
    refine main _ rfl ⟨by dsimp only; omega, by dsimp only; omega, hs', z0⟩ (by rw [h]; exact ⟨fun e => absurd e (by decide), fun e => absurd e (by decide)⟩) (by rw [h]; rfl) (by dsimp only; rw [e1, e2]; decide)
  · have ef : fixP p = ⟨p.id, 0, str (lets p.s.data.toList), str (lets p.t.data.toList)⟩ := by simp [fixP, h]
    obtain ⟨e1, e2⟩ := rule_text p.id (.inr (.inr h))
    rw [ef]
    refine main _ rfl ⟨by dsimp only; omega, by dsimp only; omega, zs, zt⟩ (by rw [h]; exact ⟨fun e => absurd e (by decide), fun _ => ⟨gs, gt⟩⟩) (by rw [h]; rfl) (by dsimp only; rw [e1, e2]; decide)

theorem may_inn (i k : Int) (isW : Bool) (h : mayP i k isW = true) : ¬ bits .and .i64 (ruleL i).inn (placeN k isW) = 0 := by
  unfold mayP at h
  simpa using h

theorem right_fine (k : Int) (isW : Bool) (X : List Pr) (hX : ∀ p ∈ X, p.ok ∧ p.s.size ≤ 20 ∧ p.t.size ≤ 20) : Fine (placeN k isW) [] (X.foldl (rStep k isW) []) := by
  suffices H : ∀ (l acc : List Pr), (∀ p ∈ l, p.ok ∧ p.s.size ≤ 20 ∧ p.t.size ≤ 20) → Fine (placeN k isW) [] acc → Fine (placeN k isW) [] (l.foldl (rStep k isW) acc) from H X [] hX trivial
  intro l
  induction l with
  | nil => intro acc _ h; exact h
  | cons p l ih =>
    intro acc hl h
    obtain ⟨hp, hs, ht⟩ := hl p (by simp)
    rw [List.foldl_cons]
    refine ih _ (fun x hx => hl x (by simp [hx])) ?_
    unfold rStep
    split
    · exact h
    · rename_i hm
      have hin := may_inn p.id k isW (by simpa using hm)
      split
      · exact h
      · rename_i hh
        refine fine_snoc _ acc [] _ h ⟨fix_right _ p hp hs ht hin, ?_⟩
        rw [List.nil_append, fix_id]
        rintro ⟨h1, h2⟩
        have h38 : p.id = 38 := by by_cases e : p.id = 38; (· exact e); exact absurd ⟨h1, e⟩ hh
        rw [h38] at h2 hin
        exact hin h2

theorem right_ok (k : Int) (isW : Bool) (P : List Pr) (h : ∀ p ∈ P, 0 ≤ p.n ∧ p.n < 4294967296 ∧ p.s.size ≤ maxLen ∧ p.t.size ≤ maxLen) : Fine (placeN k isW) [] (rightL k isW P) ∧ (rightL k isW P).length ≤ 8 :=
  ⟨right_fine k isW _ (few_ok P h), Nat.le_trans (r_len k isW _) (few_len P)⟩

theorem fine_ok (q : Int) : ∀ (Y acc : List Pr), Fine q acc Y → ∀ p ∈ Y, p.ok
  | [], _, _, p, hp => by cases hp
  | y :: Y, acc, hf, p, hp => by
    rcases List.mem_cons.1 hp with rfl | h
    · exact hf.1.1.ok
    · exact fine_ok q Y _ hf.2 p h

#print axioms right_ok
end Go.Proofs.YtmkajnephkaamaaDoor
