/-
  One number, put and taken again. (No statement.)
-/
import Derived.Test.YtmkajnephkaamaaDoorProp12
namespace Go.Proofs.YtmkajnephkaamaaDoor
open Go.RowKit

/-- One property of a number, put, and taken. -/
theorem one_num (q : Int) (p : Pr) (hp : p.ok) (hin : ¬ bits .and .i64 (ruleL p.id).inn q = 0) (hk : (ruleL p.id).kind ≤ 4) (hc : canon (ruleL p.id).kind p = p) :
    takeR q (str ([] ++ propsL [p])) 0 = if p.n < (ruleL p.id).least ∨ (ruleL p.id).most < p.n then ([], str [], 3) else ([p], str [], 0) := by
  have hkk := (rule_in p.id q hin).2
  have h0 : (ruleL p.id).kind ≠ 0 := by omega
  have hl : (bodyL [p]).length ≤ 268435455 := by
    have := bodyL_len [p] (fun x hx => by simp at hx; subst hx; exact hp)
    simp at this; omega
  have h := take_back q [p] [] hl
  rw [List.append_nil] at h
  rw [List.nil_append, h]
  have hb : bodyL [p] = oneL p ++ [] := by simp [bodyL]
  rw [hb, runA_step _ _ _ (oneL_ne p h0 []), step_back _ _ p [] hp ⟨fun h => by omega, fun h => by omega⟩ h0, hc]
  rw [if_neg hin, if_neg (by simp [hasP])]
  by_cases hbad : p.n < (ruleL p.id).least ∨ (ruleL p.id).most < p.n
  · rw [if_pos hbad, if_pos hbad]
  · rw [if_neg hbad, if_neg hbad]
    rfl

/-- What a number may be. -/
theorem rule_nums : ∀ i ∈ idsL, ((ruleL i).kind = 1 → (ruleL i).least = 0 ∧ (ruleL i).most = 1 ∧ i ≠ 11 ∧ i ≠ 33 ∧ i ≠ 39) ∧ ((ruleL i).kind = 2 → (ruleL i).least = (if i = 33 then 1 else 0) ∧ (ruleL i).most = 65535 ∧ i ≠ 11 ∧ i ≠ 39) ∧
    ((ruleL i).kind = 3 → (ruleL i).least = (if i = 39 then 1 else 0) ∧ (ruleL i).most = 4294967295 ∧ i ≠ 11 ∧ i ≠ 33) ∧ ((ruleL i).kind = 4 → (ruleL i).least = 1 ∧ (ruleL i).most = 268435455 ∧ i = 11) := by decide
theorem rule_num (i : Int) : ((ruleL i).kind = 1 → (ruleL i).least = 0 ∧ (ruleL i).most = 1 ∧ i ≠ 11 ∧ i ≠ 33 ∧ i ≠ 39) ∧ ((ruleL i).kind = 2 → (ruleL i).least = (if i = 33 then 1 else 0) ∧ (ruleL i).most = 65535 ∧ i ≠ 11 ∧ i ≠ 39) ∧
    ((ruleL i).kind = 3 → (ruleL i).least = (if i = 39 then 1 else 0) ∧ (ruleL i).most = 4294967295 ∧ i ≠ 11 ∧ i ≠ 33) ∧ ((ruleL i).kind = 4 → (ruleL i).least = 1 ∧ (ruleL i).most = 268435455 ∧ i = 11) := by
  rcases ids_mem i with h | ⟨_, h⟩
  · exact rule_nums i h
  · rw [h]; exact ⟨fun e => absurd e (by decide), fun e => absurd e (by decide), fun e => absurd e (by decide), fun e => absurd e (by decide)⟩

theorem and_255 (b : Int) (h0 : 0 ≤ b) (h1 : b < 4294967296) : bits .and .u32 b 255 = b % 256 := by
  obtain ⟨n, rfl⟩ := Int.eq_ofNat_of_zero_le h0
  have h := u32_and_nat n 255 (by omega) (by omega)
  have e : n &&& 255 = n % 256 := Nat.and_two_pow_sub_one_eq_mod n 8
  rw [e] at h
  exact h.trans (by omega)

theorem OwnP.one {B : Nat} {e : TypeId} {w : World} {v : Value} {p : Pr} (h : OwnP B e w v [p]) : ∃ g c, v = .slice (some ⟨g, 0, none⟩) 1 c ∧ w.cell? ⟨g, 0, none⟩ = some (.int .i64 p.id) ∧ w.cell? ⟨g, 1, none⟩ = some (.int .u32 p.n) := by
  have hc := h.props
  rcases h.2 with ⟨_, h0⟩ | ⟨g, cap, cur, rfl, _⟩
  · simp at h0
  · refine ⟨g, cap, rfl, ?_⟩
    obtain ⟨A, c2, hv, hcell⟩ := hc
    obtain ⟨b, off, hA, _, c0, c1, _⟩ := hcell 0 p rfl
    injection hv with hv1 hv2 hv3
    rw [hA] at hv1
    injection hv1 with hv1
    injection hv1 with hb ho
    subst hb ho
    exact ⟨c0, c1⟩

#print axioms one_num
end Go.Proofs.YtmkajnephkaamaaDoor
