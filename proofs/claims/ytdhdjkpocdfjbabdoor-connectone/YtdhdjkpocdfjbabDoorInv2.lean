/-
  What was taken is what is put: properties, all parts of a connect. (No statement: what the proofs of the statements use.)
-/
import Derived.Test.YtdhdjkpocdfjbabDoorInv1
import Derived.Test.YtdhdjkpocdfjbabDoorCon8
namespace Go.Proofs.YtdhdjkpocdfjbabDoor
open Go.RowKit

theorem step_inv (q : Int) (acc : List Pr) {l : List UInt8} {y : Pr} {s' : ByteArray} (h : stepP q acc (str l) = .inr (y, s')) : ∃ r, l = oneL y ++ r ∧ s' = str r ∧ y.ok := by
  have hve := varT_err 3 0 0 (str l) 0
  rcases hv : varT 3 0 0 (str l) 0 with ⟨n, s1, x1⟩
  rcases ho : oneT (ruleL n).kind n s1 with ⟨z, s2, x2⟩
  rw [step_parts q acc _ n s1 x1 (ruleL n) z s2 x2 hv rfl ho] at h
  split at h
  · cases h
  rename_i h1
  have hx1 : x1 = 0 := by
    by_cases hx : x1 = 0
    · exact hx
    · have := hve n s1 x1 hv hx
      subst this
      have := (rule_in (0 : Nat) q h1).1
      omega
  subst hx1
  split at h
  · cases h
  split at h
  · cases h
  rename_i h2
  split at h
  · cases h
  injection h with h
  injection h with e1 e2
  subst e1 e2
  have hx2 : x2 = 0 := by
    by_cases hx : x2 = 0
    · exact hx
    · exact absurd hx h2
  subst hx2
  have hk : (ruleL n).kind ≠ 0 := by
    intro e
    have := (rule_in (n : Int) q h1).2
    omega
  obtain ⟨l1, rfl, rfl, _⟩ := var_inv hv
  obtain ⟨r, rfl, rfl, hok, hid⟩ := one_inv (ruleL n).kind n (by rcases (kind_range n).2 with e | e; (· exact absurd e hk); exact e) ho
  refine ⟨r, ?_, rfl, hok⟩
  unfold oneL
  rw [hid, if_neg hk, Int.toNat_natCast, List.append_assoc]

theorem step_bad (q : Int) (acc : List Pr) (s : ByteArray) (e : Int) (h : stepP q acc s = .inl e) : e ≠ 0 := by
  unfold stepP at h
  split at h
  · injection h with h; omega
  split at h
  · injection h with h; omega
  split at h
  · injection h with h; omega
  split at h
  · injection h with h; omega
  cases h

theorem run_inv (q : Int) : ∀ (f : Nat) (acc : List Pr) (l : List UInt8) (P : List Pr), l.length ≤ f → runP q f acc (str l) = (P, 0) → ∃ Q, P = acc ++ Q ∧ l = bodyL Q ∧ (∀ p ∈ Q, p.ok) ∧ Q.length ≤ l.length
  | 0, acc, l, P, hl, h => by
    have : l = [] := List.eq_nil_of_length_eq_zero (by omega)
    subst this
    injection h with h _
    exact ⟨[], by rw [← h, List.append_nil], rfl, (fun p hp => by cases hp), Nat.le_refl _⟩
  | f + 1, acc, l, P, hl, h => by
    rw [runP] at h
    split at h
    · rename_i hz
      rw [str_size] at hz
      have : l = [] := List.eq_nil_of_length_eq_zero hz
      subst this
      injection h with h _
      exact ⟨[], by rw [← h, List.append_nil], rfl, (fun p hp => by cases hp), Nat.le_refl _⟩
    · cases hst : stepP q acc (str l) with
      | inl e =>
        rw [hst] at h
        injection h with _ h
        exact absurd h (step_bad q acc _ e hst)
      | inr y =>
        rw [hst] at h
        obtain ⟨y, s'⟩ := y
        have hlt := step_left q acc _ _ hst
        obtain ⟨r, rfl, rfl, hok⟩ := step_inv q acc hst
        dsimp only at h hlt
        rw [str_size, str_size] at hlt
        obtain ⟨Q, rfl, rfl, hQ, hn⟩ := run_inv q f (acc ++ [y]) r P (by omega) h
        refine ⟨y :: Q, by simp, by simp [bodyL], ?_, by rw [List.length_cons]; omega⟩
        intro p hp
        rcases List.mem_cons.1 hp with rfl | hp
        · exact hok
        · exact hQ p hp

theorem raw_invX {s t s' : ByteArray} {x : Int} {n : Nat} (h : rawT s x n = (t, s', 0)) : x = 0 ∧ s.data.toList = t.data.toList ++ s'.data.toList ∧ t.data.toList.length = n := by
  have hx : x = 0 := rawT_keeps s x n (by rw [h])
  subst hx
  rw [ba_str s] at h
  obtain ⟨a, r, e, ha, rfl, rfl⟩ := raw_inv h
  rw [str_data, str_data]
  exact ⟨rfl, e, ha⟩
theorem str_invX {s t s' : ByteArray} {x : Int} (h : strT s x = (t, s', 0)) : x = 0 ∧ s.data.toList = datL t ++ s'.data.toList ∧ t.size ≤ 65535 := by
  have hx : x = 0 := strT_keeps s x (by rw [h])
  subst hx
  rw [ba_str s] at h
  obtain ⟨r, e, rfl, hs, _⟩ := str_inv h
  rw [str_data]
  exact ⟨rfl, e, hs⟩
theorem dat_invX {s t s' : ByteArray} {x : Int} (h : datT s x = (t, s', 0)) : x = 0 ∧ s.data.toList = datL t ++ s'.data.toList ∧ t.size ≤ 65535 := by
  have hx : x = 0 := datT_keeps s x (by rw [h])
  subst hx
  rw [ba_str s] at h
  obtain ⟨r, e, rfl, hs⟩ := dat_inv h
  rw [str_data]
  exact ⟨rfl, e, hs⟩
theorem take_invX {q : Int} {s s' : ByteArray} {x : Int} {P : List Pr} (h : takeR q s x = (P, s', 0)) : x = 0 ∧ s.data.toList = propsL P ++ s'.data.toList ∧ (∀ p ∈ P, p.ok) ∧ P.length ≤ s.data.toList.length := by
  rcases hv : varT 3 0 0 s x with ⟨n, s1, x1⟩
  rcases hr : rawT s1 x1 n with ⟨t, s2, x2⟩
  rw [takeR_parts q s x n s1 x1 t s2 x2 hv hr] at h
  split at h
  · rename_i hx
    injection h with _ h
    injection h with _ h
    exact absurd h hx
  rename_i hx
  have hx2 : x2 = 0 := by
    by_cases e : x2 = 0
    · exact e
    · exact absurd e hx
  subst hx2
  obtain ⟨rfl, e1, e2⟩ := raw_invX hr
  have hx : x = 0 := ((var_left 3 0 0 s x).2 (by rw [hv])).1
  subst hx
  rw [ba_str s] at hv
  obtain ⟨r, e3, rfl, _⟩ := var_inv hv
  rw [str_data] at e1
  injection h with h1 h
  injection h with h2 h3
  subst h2
  have hz : t.data.toList.length = t.size := ba_size t
  obtain ⟨Q, e4, e5, hok, hn⟩ := run_inv q t.size [] t.data.toList P (by omega) (by rw [← ba_str t, ← h1, ← h3])
  rw [List.nil_append] at e4
  subst e4
  refine ⟨rfl, ?_, hok, ?_⟩
  · rw [e3, e1, ← e2]
    unfold propsL
    rw [← e5, List.append_assoc]
  · rw [e3, e1, List.length_append, List.length_append]; omega

theorem ver_invX {s s' : ByteArray} {x : Int} (h : verT s x = (s', 0)) : x = 0 ∧ s.data.toList = datL mqtt ++ [5] ++ s'.data.toList := by
  rcases ha : strT s x with ⟨a, s1, x1⟩
  by_cases hm : a = mqtt
  · have hA := verA_ok ha hm
    rcases hr : rawT s1 x1 1 with ⟨t, s2, x2⟩
    by_cases h5 : numL t.data.toList = 5
    · rw [verT_ok hA hr h5] at h
      injection h with h1 h2
      subst h1 h2 hm
      obtain ⟨rfl, e1, e2⟩ := raw_invX (n := 1) hr
      obtain ⟨rfl, e3, _⟩ := str_invX ha
      have e5 := (num1_inv _ e2).1
      rw [h5] at e5
      refine ⟨rfl, ?_⟩
      rw [e3, e1, ← e5, List.append_assoc]
      rfl
    · have : verT s x = (s2, failed x2 14) := by unfold verT; rw [hA]; dsimp only; rw [hr]; dsimp only; rw [if_neg h5]
      rw [this] at h
      injection h with _ h
      unfold failed at h
      split at h <;> omega
  · have hA := verA_no ha hm
    rcases hr : rawT s1 (failed x1 14) 1 with ⟨t, s2, x2⟩
    have hf : failed x1 14 ≠ 0 := by unfold failed; split <;> omega
    have hx2 : x2 = failed x1 14 := by have := rawT_err s1 (failed x1 14) 1 hf; rw [hr] at this; injection this with _ this; injection this
    exfalso
    have hv : (verT s x).2 = 0 := by rw [h]
    unfold verT at hv
    rw [hA] at hv
    dsimp only at hv
    rw [hr] at hv
    dsimp only at hv
    split at hv
    · omega
    · unfold failed at hv
      split at hv <;> omega

theorem will_invX {b : Bool} {s : ByteArray} {x : Int} {W : List Pr} {t p s' : ByteArray} (h : willT b s x = (W, t, p, s', 0)) :
    x = 0 ∧ s.data.toList = (if b = true then propsL W ++ datL t ++ datL p else []) ++ s'.data.toList ∧ (∀ y ∈ W, y.ok) ∧ W.length ≤ s.data.toList.length ∧ t.size ≤ 65535 ∧ p.size ≤ 65535 := by
  cases b
  · unfold willT at h
    rw [if_neg (by simp)] at h
    injection h with a1 h; injection h with a2 h; injection h with a3 h; injection h with a4 a5
    subst a1 a2 a3 a4 a5
    rw [if_neg (by simp)]
    exact ⟨rfl, rfl, (fun p hp => by cases hp), Nat.zero_le _, Nat.zero_le _, Nat.zero_le _⟩
  · unfold willT at h
    rw [if_pos rfl] at h
    rcases h1 : takeR (placeN 1 true) s x with ⟨W', s1, x1⟩
    rw [h1] at h
    dsimp only at h
    rcases h2 : strT s1 x1 with ⟨t', s2, x2⟩
    rw [h2] at h
    dsimp only at h
    injection h with a1 h; injection h with a2 h
    subst a1 a2
    obtain ⟨rfl, e1, z1⟩ := dat_invX h
    obtain ⟨rfl, e2, z2⟩ := str_invX h2
    obtain ⟨rfl, e3, z3, z4⟩ := take_invX h1
    rw [if_pos rfl]
    refine ⟨rfl, ?_, z3, z4, z2, z1⟩
    rw [e3, e2, e1, List.append_assoc, List.append_assoc]
theorem user_invX {b : Bool} {s t s' : ByteArray} {x : Int} (h : userT b s x = (t, s', 0)) : x = 0 ∧ s.data.toList = (if b = true then datL t else []) ++ s'.data.toList ∧ t.size ≤ 65535 := by
  cases b
  · unfold userT at h
    rw [if_neg (by simp)] at h
    injection h with a1 h; injection h with a2 a3
    subst a1 a2 a3
    rw [if_neg (by simp)]
    exact ⟨rfl, rfl, Nat.zero_le _⟩
  · unfold userT at h
    rw [if_pos rfl] at h
    rw [if_pos rfl]
    exact str_invX h
theorem pass_invX {b : Bool} {s t s' : ByteArray} {x : Int} (h : passT b s x = (t, s', 0)) : x = 0 ∧ s.data.toList = (if b = true then datL t else []) ++ s'.data.toList ∧ t.size ≤ 65535 := by
  cases b
  · unfold passT at h
    rw [if_neg (by simp)] at h
    injection h with a1 h; injection h with a2 a3
    subst a1 a2 a3
    rw [if_neg (by simp)]
    exact ⟨rfl, rfl, Nat.zero_le _⟩
  · unfold passT at h
    rw [if_pos rfl] at h
    rw [if_pos rfl]
    exact dat_invX h

/-- Flags that may be are those that are put. -/
def flagsP (f : Int) : Int := if flB f 4 = true then bits .or .u8 (bits .or .u8 (bits .or .u8 (btN (flB f 2) 2) (btN (flB f 64) 64)) (btN (flB f 128) 128)) (bits .or .u8 (bits .or .u8 4 (bits .and .u8 (quaN f) 3 * 8)) (btN (flB f 32) 32)) else bits .or .u8 (bits .or .u8 (btN (flB f 2) 2) (btN (flB f 64) 64)) (btN (flB f 128) 128)
theorem flags_put : ∀ k : Fin 256, mayF (k.val : Int) = true → flagsP (k.val : Int) = (k.val : Int) := by decide +kernel

theorem parts_inv (m : Parts) (body : ByteArray) (h : m.Of body) (he : m.err = 0) (hl : body.size ≤ 1000) : body = str (textL m.cn) ∧ m.cn.ok := by
  obtain ⟨⟨s1, x1⟩, ⟨t, s2, x2⟩, ⟨tk, s3, x3⟩, ⟨ps, s4, x4⟩, ⟨id, s5, x5⟩, ⟨wp, tp, py, s8, x8⟩, ⟨us, s9, x9⟩, ⟨pw, s10, x10⟩⟩ := m
  obtain ⟨hv, hf, hk, hp, hi, hw, hu, hq⟩ := h
  unfold Parts.err at he
  unfold Parts.cn
  unfold Parts.fl at *
  dsimp only at *
  have hx : x10 = 0 ∧ s10.size = 0 := by
    unfold endT at he
    split at he
    · omega
    · omega
  obtain ⟨rfl, hz⟩ := hx
  obtain ⟨rfl, e9, z9⟩ := pass_invX hq
  obtain ⟨rfl, e8, z8⟩ := user_invX hu
  obtain ⟨rfl, e5, w1, w2, w3, w4⟩ := will_invX hw
  obtain ⟨rfl, e4, z4⟩ := str_invX hi
  obtain ⟨rfl, e3, p1, p2⟩ := take_invX hp
  obtain ⟨hfx, e2, z2⟩ := raw_invX (n := 2) hk
  obtain ⟨hmay, hx2⟩ : mayF (numL t.data.toList) = true ∧ x2 = 0 := by
    unfold flagX at hfx
    split at hfx
    · rename_i hm; exact ⟨hm, hfx⟩
    · exact absurd hfx (failed_ne x2)
  subst hx2
  obtain ⟨rfl, e1, z1⟩ := raw_invX (n := 1) hf
  obtain ⟨-, e0⟩ := ver_invX hv
  obtain ⟨f1, f2⟩ := num1_inv _ z1
  obtain ⟨k1, k2⟩ := num2_inv _ z2
  have hput := flags_put ⟨numL t.data.toList, f2⟩ hmay
  dsimp only at hput
  have hten : s10.data.toList = [] := List.eq_nil_of_length_eq_zero (by rw [ba_size]; exact hz)
  have hb : body.data.toList.length ≤ 1000 := by rw [ba_size]; exact hl
  have l0 := congrArg List.length e0
  have l1 := congrArg List.length e1
  have l2 := congrArg List.length e2
  have l3 := congrArg List.length e3
  have l4 := congrArg List.length e4
  rw [List.length_append] at l0 l1 l2 l3 l4
  have hq3 := qua_range (numL t.data.toList) (by omega) (by omega)
  refine ⟨?_, ?_⟩
  · rw [ba_str body]
    congr 1
    unfold textL headL willL userL passL
    dsimp only
    have hfl : flagsN ⟨flB (numL t.data.toList) 2, numL tk.data.toList, ps, id, flB (numL t.data.toList) 4, wp, tp, py, quaN (numL t.data.toList), flB (numL t.data.toList) 32, flB (numL t.data.toList) 128, flB (numL t.data.toList) 64, us, pw⟩ = numL t.data.toList := by
      exact hput
    rw [hfl, e0, e1, e2, e3, e4, e5, e8, e9, hten, List.append_nil, k1]
    have f3 : [UInt8.ofNat (numL t.data.toList : Int).toNat] = t.data.toList := by
      have e : ((numL t.data.toList : Int) % 256).toNat = (numL t.data.toList : Int).toNat := by omega
      rw [← e]
      exact f1
    rw [f3]
    simp only [List.append_assoc]
  · exact ⟨by dsimp only; omega, by dsimp only; omega, hq3.1, by dsimp only; omega, z4, w3, w4, z8, z9, p1, w1, by dsimp only; omega, by dsimp only; omega⟩

#print axioms parts_inv
end Go.Proofs.YtdhdjkpocdfjbabDoor
