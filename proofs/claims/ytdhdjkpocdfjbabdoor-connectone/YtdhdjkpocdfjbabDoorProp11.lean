/-
  There and back: what was put is taken. (No statement.)
-/
import Derived.Test.YtdhdjkpocdfjbabDoorProp10
namespace Go.Proofs.YtdhdjkpocdfjbabDoor
open Go.RowKit

/-- A property, as it is taken again. -/
def canon (k : Int) (p : Pr) : Pr :=
  if k = 1 then ⟨p.id, p.n % 256, ⟨#[]⟩, ⟨#[]⟩⟩ else if k = 2 then ⟨p.id, p.n % 65536, ⟨#[]⟩, ⟨#[]⟩⟩ else if k = 3 then ⟨p.id, p.n, ⟨#[]⟩, ⟨#[]⟩⟩
  else if k = 4 then ⟨p.id, (min p.n.toNat 268435455 : Nat), ⟨#[]⟩, ⟨#[]⟩⟩ else if k = 5 then ⟨p.id, 0, p.s, ⟨#[]⟩⟩ else if k = 6 then ⟨p.id, 0, p.s, ⟨#[]⟩⟩ else ⟨p.id, 0, p.s, p.t⟩
/-- Its texts may be said. -/
def Texts (k : Int) (p : Pr) : Prop := (k = 5 → goodB p.s = true) ∧ (k = 7 → goodB p.s = true ∧ goodB p.t = true)

theorem raw_data (s : ByteArray) (l : List UInt8) (hs : s.size ≤ 65535) : rawT (str (dataL s ++ l)) 0 2 = (str (two s.size), str (s.data.toList ++ l), 0) ∧ (numL (str (two s.size)).data.toList : Int) = s.data.toList.length := by
  constructor
  · unfold dataL
    rw [List.append_assoc]
    exact rawT_app _ _ _ rfl
  · rw [str_data, numL_two _ (by omega), ba_size]
    omega
theorem dat_back (s : ByteArray) (l : List UInt8) (hs : s.size ≤ 65535) : datT (str (dataL s ++ l)) 0 = (s, str l, 0) := by
  obtain ⟨h1, h2⟩ := raw_data s l hs
  unfold datT
  rw [h1]
  dsimp only
  rw [h2, rawT_app _ _ _ rfl, ← ba_str]
theorem str_back (s : ByteArray) (l : List UInt8) (hs : s.size ≤ 65535) (hg : goodB s = true) : strT (str (dataL s ++ l)) 0 = (s, str l, 0) := by
  have h := dat_back s l hs
  unfold datT at h
  unfold strT
  rw [h]
  dsimp only
  rw [if_pos hg]

theorem one_back (k : Int) (p : Pr) (l : List UInt8) (hk : k = 1 ∨ k = 2 ∨ k = 3 ∨ k = 4 ∨ k = 5 ∨ k = 6 ∨ k = 7) (hp : p.ok) (ht : Texts k p) : oneT k p.id (str (saysL k p ++ l)) = (canon k p, str l, 0) := by
  have n0 := hp.n0
  have n1 := hp.n1
  rcases hk with rfl | rfl | rfl | rfl | rfl | rfl | rfl
  · show ((⟨p.id, numL (rawT (str ([UInt8.ofNat (p.n % 256).toNat] ++ l)) 0 1).1.data.toList, ⟨#[]⟩, ⟨#[]⟩⟩ : Pr), (rawT (str ([UInt8.ofNat (p.n % 256).toNat] ++ l)) 0 1).2) = (⟨p.id, p.n % 256, ⟨#[]⟩, ⟨#[]⟩⟩, str l, 0)
    rw [rawT_app [UInt8.ofNat (p.n % 256).toNat] l 1 rfl]
    dsimp only
    rw [str_data, numL_one, ofNat_toNat _ (by omega) (by omega)]
  · show ((⟨p.id, numL (rawT (str (two p.n ++ l)) 0 2).1.data.toList, ⟨#[]⟩, ⟨#[]⟩⟩ : Pr), (rawT (str (two p.n ++ l)) 0 2).2) = (⟨p.id, p.n % 65536, ⟨#[]⟩, ⟨#[]⟩⟩, str l, 0)
    rw [rawT_app (two p.n) l 2 rfl]
    dsimp only
    rw [str_data, numL_two _ n0]
  · show ((⟨p.id, numL (rawT (str ((two (p.n / 65536) ++ two p.n) ++ l)) 0 4).1.data.toList, ⟨#[]⟩, ⟨#[]⟩⟩ : Pr), (rawT (str ((two (p.n / 65536) ++ two p.n) ++ l)) 0 4).2) = (⟨p.id, p.n, ⟨#[]⟩, ⟨#[]⟩⟩, str l, 0)
    rw [rawT_app (two (p.n / 65536) ++ two p.n) l 4 rfl]
    dsimp only
    rw [str_data, numL_four _ n0 n1]
  · show ((⟨p.id, (varT 3 0 0 (str (varb 3 (min p.n.toNat 268435455) ++ l)) 0).1, ⟨#[]⟩, ⟨#[]⟩⟩ : Pr), (varT 3 0 0 (str (varb 3 (min p.n.toNat 268435455) ++ l)) 0).2) = (⟨p.id, (min p.n.toNat 268435455 : Nat), ⟨#[]⟩, ⟨#[]⟩⟩, str l, 0)
    rw [varT_back 3 0 0 (min p.n.toNat 268435455) l (by omega) (fun h => absurd h (by decide))]
    dsimp only
    rw [Nat.pow_zero, Nat.mul_one, Nat.zero_add]
  · show ((⟨p.id, 0, (strT (str (dataL p.s ++ l)) 0).1, ⟨#[]⟩⟩ : Pr), (strT (str (dataL p.s ++ l)) 0).2) = (⟨p.id, 0, p.s, ⟨#[]⟩⟩, str l, 0)
    rw [str_back p.s l hp.s1 (ht.1 rfl)]
  · show ((⟨p.id, 0, (datT (str (dataL p.s ++ l)) 0).1, ⟨#[]⟩⟩ : Pr), (datT (str (dataL p.s ++ l)) 0).2) = (⟨p.id, 0, p.s, ⟨#[]⟩⟩, str l, 0)
    rw [dat_back p.s l hp.s1]
  · have h1 := str_back p.s (dataL p.t ++ l) hp.s1 (ht.2 rfl).1
    have h2 := str_back p.t l hp.t1 (ht.2 rfl).2
    have e : str (saysL 7 p ++ l) = str (dataL p.s ++ (dataL p.t ++ l)) := by
      show str ((dataL p.s ++ dataL p.t) ++ l) = _
      rw [List.append_assoc]
    rw [e]
    generalize str (dataL p.s ++ (dataL p.t ++ l)) = z at *
    show ((⟨p.id, 0, if (strT (strT z 0).2.1 (strT z 0).2.2).2.2 = 0 then (strT z 0).1 else ⟨#[]⟩, if (strT (strT z 0).2.1 (strT z 0).2.2).2.2 = 0 then (strT (strT z 0).2.1 (strT z 0).2.2).1 else ⟨#[]⟩⟩ : Pr), (strT (strT z 0).2.1 (strT z 0).2.2).2) = (⟨p.id, 0, p.s, p.t⟩, str l, 0)
    rw [h1]
    dsimp only
    rw [h2]
    simp

/-- A step behind a put. -/
theorem step_back (q : Int) (acc : List Pr) (p : Pr) (l : List UInt8) (hp : p.ok) (ht : Texts (ruleL p.id).kind p) (hk : (ruleL p.id).kind ≠ 0) :
    stepP q acc (str (oneL p ++ l)) = if bits .and .i64 (ruleL p.id).inn q = 0 then .inl 2 else if hasP acc p.id = true ∧ bits .and .i64 (ruleL p.id).sev q = 0 then .inl 3
      else if (canon (ruleL p.id).kind p).n < (ruleL p.id).least ∨ (ruleL p.id).most < (canon (ruleL p.id).kind p).n then .inl 3 else .inr (canon (ruleL p.id).kind p, str l) := by
  have hr := (kind_range p.id).1
  have hi : 1 ≤ p.id ∧ p.id ≤ 42 := by rcases hr with e | e; (· exact absurd e hk); exact e
  have hkk : (ruleL p.id).kind = 1 ∨ (ruleL p.id).kind = 2 ∨ (ruleL p.id).kind = 3 ∨ (ruleL p.id).kind = 4 ∨ (ruleL p.id).kind = 5 ∨ (ruleL p.id).kind = 6 ∨ (ruleL p.id).kind = 7 := by
    rcases (kind_range p.id).2 with e | e
    · exact absurd e hk
    · exact e
  have he : oneL p ++ l = varb 3 p.id.toNat ++ (saysL (ruleL p.id).kind p ++ l) := by unfold oneL; rw [if_neg hk, List.append_assoc]
  have hv : varT 3 0 0 (str (oneL p ++ l)) 0 = (p.id.toNat, str (saysL (ruleL p.id).kind p ++ l), 0) := by
    rw [he, varT_back 3 0 0 p.id.toNat _ (by omega) (fun h => absurd h (by decide)), Nat.pow_zero, Nat.mul_one, Nat.zero_add]
  have hid : ((p.id.toNat : Nat) : Int) = p.id := by omega
  have ho := one_back (ruleL p.id).kind p l hkk hp ht
  rw [step_parts q acc _ p.id.toNat _ 0 (ruleL p.id) (canon (ruleL p.id).kind p) (str l) 0 hv (by rw [hid]) (by rw [hid]; exact ho), hid]
  simp

/-- What is left is less. -/
theorem step_left (q : Int) (acc : List Pr) (s : ByteArray) (y : Pr × ByteArray) (h : stepP q acc s = .inr y) : y.2.size < s.size := by
  have hvl := var_left 3 0 0 s 0
  have hve := varT_err 3 0 0 s 0
  generalize hv : varT 3 0 0 s 0 = V at *
  obtain ⟨n, s1, x1⟩ := V
  dsimp only at hvl
  have hol := one_left (ruleL n).kind n s1
  generalize ho : oneT (ruleL n).kind n s1 = O at *
  obtain ⟨z, s2, x2⟩ := O
  dsimp only at hol
  rw [step_parts q acc s n s1 x1 (ruleL n) z s2 x2 hv rfl ho] at h
  split at h
  · cases h
  · rename_i h1
    have hx1 : x1 = 0 := by
      by_cases hx : x1 = 0
      · exact hx
      · have := hve n s1 x1 rfl hx
        subst this
        have := (rule_in (0 : Nat) q h1).1
        omega
    have := (hvl.2 hx1).2
    split at h
    · cases h
    · split at h
      · cases h
      · split at h
        · cases h
        · injection h with h
          subst h
          dsimp only
          omega

/-- How much fuel there is does not matter. -/
theorem run_fuel (q : Int) : ∀ (f : Nat) (acc : List Pr) (s : ByteArray), s.size ≤ f → runP q f acc s = runP q s.size acc s := by
  intro f
  induction f using Nat.strongRecOn with
  | ind f ih =>
    intro acc s hs
    by_cases h0 : s.size = 0
    · rw [h0]
      cases f with
      | zero => rfl
      | succ f => rw [runP, runP, if_pos h0]
    · obtain ⟨g, rfl⟩ : ∃ g, f = g + 1 := ⟨f - 1, by omega⟩
      obtain ⟨m, hm⟩ : ∃ m, s.size = m + 1 := ⟨s.size - 1, by omega⟩
      rw [hm, runP, runP, if_neg h0, if_neg h0]
      cases hst : stepP q acc s with
      | inl e => rfl
      | inr y =>
        have hl := step_left q acc s y hst
        dsimp only
        rw [ih g (by omega) _ _ (by omega)]
        by_cases hgm : g = m
        · subst hgm; rw [ih g (by omega) _ _ (by omega)]
        · rw [ih m (by omega) _ _ (by omega)]

def runA (q : Int) (acc : List Pr) (s : ByteArray) : List Pr × Int := runP q s.size acc s
theorem runA_nil (q : Int) (acc : List Pr) : runA q acc (str []) = (acc, 0) := rfl
theorem runA_step (q : Int) (acc : List Pr) (s : ByteArray) (h : s.size ≠ 0) : runA q acc s = match stepP q acc s with
    | .inl e => ([], e)
    | .inr y => runA q (acc ++ [y.1]) y.2 := by
  obtain ⟨m, hm⟩ : ∃ m, s.size = m + 1 := ⟨s.size - 1, by omega⟩
  unfold runA
  rw [hm, runP, if_neg h]
  cases hst : stepP q acc s with
  | inl e => rfl
  | inr y =>
    have hl := step_left q acc s y hst
    dsimp only
    exact run_fuel q m _ _ (by omega)

theorem oneL_ne (p : Pr) (h : (ruleL p.id).kind ≠ 0) (l : List UInt8) : (str (oneL p ++ l)).size ≠ 0 := by
  rw [str_size]
  unfold oneL
  rw [if_neg h]
  have : (varb 3 p.id.toNat).length ≠ 0 := by
    rw [varb]; split <;> simp
  simp only [List.length_append]
  omega

/-- Take behind Put. -/
theorem take_back (q : Int) (P : List Pr) (tail : List UInt8) (hl : (bodyL P).length ≤ 268435455) :
    takeR q (str (propsL P ++ tail)) 0 = ((runA q [] (str (bodyL P))).1, str tail, (runA q [] (str (bodyL P))).2) := by
  have hv : varT 3 0 0 (str (propsL P ++ tail)) 0 = ((bodyL P).length, str (bodyL P ++ tail), 0) := by
    unfold propsL
    rw [List.append_assoc, varT_back 3 0 0 (bodyL P).length _ (by omega) (fun h => absurd h (by decide)), Nat.pow_zero, Nat.mul_one, Nat.zero_add]
  rw [takeR_parts q _ 0 _ _ _ (str (bodyL P)) (str tail) 0 hv (rawT_app _ _ _ rfl)]
  simp [runA]

#print axioms take_back
end Go.Proofs.YtdhdjkpocdfjbabDoor
