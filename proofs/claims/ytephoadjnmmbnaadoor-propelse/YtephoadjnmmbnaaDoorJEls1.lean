/-
  Properties appended to a slice of the call's own. (No statement: laws that the proofs of the statements use.)
-/
import Derived.Test.YtephoadjnmmbnaaDoorJPropsB
import Derived.Test.YtephoadjnmmbnaaDoorJPropsC
import Derived.Deep.AppendLies
namespace Go.Proofs.YtephoadjnmmbnaaDoor
open Go.RowKit

theorem flat4_get : ∀ (X : List Pr) (j : Nat) (u : Value), (X.flatMap prC)[j]? = some u → ∃ x, X[j / 4]? = some x ∧ (prC x)[j % 4]? = some u
  | [], j, u, h => by simp at h
  | x :: X, j, u, h => by
    rw [List.flatMap_cons] at h
    have hl : (prC x).length = 4 := rfl
    rcases Nat.lt_or_ge j 4 with hj | hj
    · rw [List.getElem?_append_left (by omega)] at h
      refine ⟨x, ?_, ?_⟩
      · rw [Nat.div_eq_of_lt hj]; rfl
      · rw [Nat.mod_eq_of_lt hj]; exact h
    · rw [List.getElem?_append_right (by omega), hl] at h
      obtain ⟨y, h1, h2⟩ := flat4_get X (j - 4) u h
      refine ⟨y, ?_, ?_⟩
      · rw [show j / 4 = (j - 4) / 4 + 1 by omega]; exact h1
      · rw [show j % 4 = (j - 4) % 4 by omega]; exact h2
theorem flat4_len : ∀ X : List Pr, (X.flatMap prC).length = X.length * 4
  | [] => rfl
  | x :: X => by
    have := flat4_len X
    rw [List.flatMap_cons, List.length_append, this, List.length_cons]
    show 4 + _ = _
    omega
theorem flat4_one : ∀ (X : List Pr), ∀ u ∈ X.flatMap prC, u.oneCell' = true := by
  intro X u hu
  obtain ⟨x, _, h⟩ := List.mem_flatMap.1 hu
  simp [prC] at h
  rcases h with rfl | rfl | rfl | rfl <;> rfl

theorem props_cells {w : World} {b off : Nat} {X : List Pr} (h : ∀ (i : Nat) (x : Pr), X[i]? = some x → w.cell? ⟨b, off + i * 4, none⟩ = some (.int .i64 x.id) ∧ w.cell? ⟨b, off + i * 4 + 1, none⟩ = some (.int .u32 x.n) ∧ w.cell? ⟨b, off + i * 4 + 2, none⟩ = some (.string x.s) ∧ w.cell? ⟨b, off + i * 4 + 3, none⟩ = some (.string x.t)) :
    ∀ j u, (X.flatMap prC)[j]? = some u → w.cell? ((⟨b, off, none⟩ : Addr).add j) = some u := by
  intro j u hj
  obtain ⟨x, h1, h2⟩ := flat4_get X j u hj
  obtain ⟨c0, c1, c2, c3⟩ := h _ x h1
  have hadd : (⟨b, off, none⟩ : Addr).add j = ⟨b, off + j, none⟩ := by
    by_cases h0 : j = 0
    · subst h0; simp [Addr.add]
    · simp [Addr.add, h0]
  rw [hadd]
  rcases (show j % 4 = 0 ∨ j % 4 = 1 ∨ j % 4 = 2 ∨ j % 4 = 3 by omega) with e | e | e | e
  · rw [e] at h2; injection h2 with h2; subst h2; rw [show off + j = off + j / 4 * 4 by omega]; exact c0
  · rw [e] at h2; injection h2 with h2; subst h2; rw [show off + j = off + j / 4 * 4 + 1 by omega]; exact c1
  · rw [e] at h2; injection h2 with h2; subst h2; rw [show off + j = off + j / 4 * 4 + 2 by omega]; exact c2
  · rw [e] at h2; injection h2 with h2; subst h2; rw [show off + j = off + j / 4 * 4 + 3 by omega]; exact c3

/-- append(prop.List{}, x...). -/
theorem run_append_props (w : World) (ty : TypeId) (base g0 : Nat) (v : Value) (X : List Pr) (hown : w.ownsRow base 50 4 (.slice (some ⟨g0, 0, none⟩) 0 0) 0 []) (hv : PropsAt w v X) (hl : X.length ≤ 1000) (hb : base ≤ w.heap.size) :
    ∃ v' w', (Builtin.append_ #[36, 36] ty #[.slice (some ⟨g0, 0, none⟩) 0 0, v]).run Tryd.prog w = .ok v' w' ∧ OwnP base 50 w' v' X ∧ w.grownBy w' (some g0) := by
  obtain ⟨i0, hi, hz0, hz1, hz2⟩ := info_parts Tryd.infoProp
  obtain ⟨A, cap, rfl, hc⟩ := hv
  have key : ∀ ad : Addr, A = some ad → (∀ j u, (X.flatMap prC)[j]? = some u → w.cell? (ad.add j) = some u) → ∃ v' w', (Builtin.append_ #[36, 36] ty #[.slice (some ⟨g0, 0, none⟩) 0 0, .slice A X.length cap]).run Tryd.prog w = .ok v' w' ∧ OwnP base 50 w' v' X ∧ w.grownBy w' (some g0) := by
    rintro ad rfl hcs
    obtain ⟨v', w', hr, h2, h3, _, _⟩ := run_append_own_at (P := Tryd.prog) w base 36 ty 50 i0 (.agg #[.int .i64 0, .int .u32 0, .string ⟨#[]⟩, .string ⟨#[]⟩]) 4 48 Tryd.underlying36 hi hz0 hz1 hz2 rfl (by decide) _ 0 [] hown ad X.length cap (X.flatMap prC) (flat4_len X) hcs (flat4_one X) (by unfold maxLen; omega) (by omega) hb
    refine ⟨v', w', hr, ?_, h3⟩
    rw [Nat.zero_add, List.nil_append] at h2
    exact h2
  cases A with
  | some ad =>
    cases X with
    | nil => exact key ad rfl (fun j u h => by simp at h)
    | cons x X =>
      obtain ⟨b, off, e, _⟩ := hc 0 x rfl
      injection e with e
      subst e
      refine key _ rfl (props_cells fun i y hy => ?_)
      obtain ⟨b', off', e, _, h⟩ := hc i y hy
      injection e with e
      injection e with e1 e2
      subst e1 e2
      exact h
  | none =>
    have hX : X = [] := by
      cases X with
      | nil => rfl
      | cons x X => obtain ⟨b, off, e, _⟩ := hc 0 x rfl; cases e
    subst hX
    exact ⟨_, w, (show _ from by
      simp [Builtin.append_, run_underlying Tryd.underlying36, sizeOf, typeInfo, hi, Builtin.lenOf, Builtin.firstCells, loadCells, loadCellsFrom, storeCells]), hown, ⟨rfl, rfl, rfl, Nat.le_refl _, fun _ _ _ => rfl⟩⟩

/-- At a step of a region that draws its order. -/
theorem step_append_props {ops : Array Oper} {o : Oper} {a : Act} {K : Act → World → Prop} {Q : Exit → Act → World → Prop} {E : Prop} (w : World) (hgd : o.guard = none) (s x : Operand)
    (ho : o.op = .call { callee := .builtin .append, args := #[s, x], argTypes := #[36, 36] }) (base g0 : Nat) (v : Value) (X : List Pr)
    (hs : a.eval s = .slice (some ⟨g0, 0, none⟩) 0 0) (hx : a.eval x = v) (hown : w.ownsRow base 50 4 (.slice (some ⟨g0, 0, none⟩) 0 0) 0 []) (hv : PropsAt w v X) (hl : X.length ≤ 1000) (hb : base ≤ w.heap.size)
    (h : ∀ v' w', OwnP base 50 w' v' X → w.grownBy w' (some g0) → K (a.put o.dst v') w') :
    if Region.wanted o (yielded ops a.tmps) = true then Oper.wp Tryd.prog o a w K Q else E := by
  have hw : Region.wanted o (yielded ops a.tmps) = true := by simp [Region.wanted, hgd]
  rw [if_pos hw]
  obtain ⟨v', w', hr, h2, h3⟩ := run_append_props w o.type base g0 v X hown hv hl hb
  unfold Oper.wp execOp
  simp only [ho, resolve, invoke, builtin, Sem.run_bind, Sem.run_pure, Result.andThen_ok, List.map_toArray, List.map_cons, List.map_nil, hs, hx, hr]
  exact h v' w' h2 h3

/-- A property that is put is told by its identifier. -/
theorem step_id (q : Int) (acc : List Pr) (p : Pr) (l : List UInt8) (hk : (ruleL p.id).kind ≠ 0) :
    (bits .and .i64 (ruleL p.id).inn q = 0 → stepP q acc (str (oneL p ++ l)) = .inl 2) ∧ (¬ bits .and .i64 (ruleL p.id).inn q = 0 → hasP acc p.id = true → bits .and .i64 (ruleL p.id).sev q = 0 → stepP q acc (str (oneL p ++ l)) = .inl 3) := by
  have hr := (kind_range p.id).1
  have hi : 1 ≤ p.id ∧ p.id ≤ 42 := by rcases hr with e | e; (· exact absurd e hk); exact e
  have hv : (varT 3 0 0 (str (oneL p ++ l)) 0).1 = p.id.toNat := by
    unfold oneL
    rw [if_neg hk, List.append_assoc, varT_back 3 0 0 p.id.toNat _ (by omega) (fun h => absurd h (by decide))]
    simp
  have hc : ((p.id.toNat : Nat) : Int) = p.id := by omega
  constructor
  · intro h
    unfold stepP
    rw [hv, hc, if_pos h]
  · intro h1 h2 h3
    unfold stepP
    rw [hv, hc, if_neg h1, if_pos ⟨h2, h3⟩]

theorem else_run (k : Int) (isW : Bool) (X : List Pr) (p : Pr) (hX : Fine (placeN k isW) [] X) (hk : (ruleL p.id).kind ≠ 0) (E : Int)
    (hE : (bits .and .i64 (ruleL p.id).inn (placeN k isW) = 0 ∧ E = 2) ∨ (¬ bits .and .i64 (ruleL p.id).inn (placeN k isW) = 0 ∧ hasP X p.id = true ∧ bits .and .i64 (ruleL p.id).sev (placeN k isW) = 0 ∧ E = 3)) :
    runA (placeN k isW) [] (str (bodyL (X ++ [p]))) = ([], E) := by
  have hb : bodyL (X ++ [p]) = bodyL X ++ (oneL p ++ []) := by simp [bodyL]
  rw [hb, run_fine _ X [] _ hX, List.nil_append, runA_step _ _ _ (oneL_ne p hk _)]
  rcases hE with ⟨h1, rfl⟩ | ⟨h1, h2, h3, rfl⟩
  · rw [(step_id _ X p [] hk).1 h1]
  · rw [(step_id _ X p [] hk).2 h1 h2 h3]

theorem sev_ofE (i k : Int) (isW : Bool) (h : mayP i k isW = true) : (bits .and .i64 (ruleL i).sev (placeN k isW) == 0) = (decide (i ≠ 38) && (decide (i ≠ 11) || decide (k ≠ 3) || isW)) := by
  have hi : i ∈ idsL := by
    rcases ids_mem i with h1 | ⟨_, h1⟩
    · exact h1
    · unfold mayP at h
      rw [h1] at h
      simp [and_zero] at h
  cases isW with
  | true =>
    have := sev_all i hi (0, true) (by decide) (by simpa [mayP, placeN] using h)
    simpa [placeN] using this
  | false =>
    by_cases hk : 1 ≤ k ∧ k ≤ 15
    · have hm : (k, false) ∈ placesL := by
        have hj : ∃ j : Nat, k = j ∧ 1 ≤ j ∧ j ≤ 15 := ⟨k.toNat, by omega, by omega, by omega⟩
        obtain ⟨j, rfl, h1, h2⟩ := hj
        have : ∀ j : Nat, j ≤ 15 → 1 ≤ j → ((j : Int), false) ∈ placesL := by decide
        exact this j h2 h1
      exact sev_all i hi (k, false) hm h
    · have h0 : placeN k false = 0 := by
        unfold placeN
        rw [if_neg (by simp), if_pos (by omega)]
      unfold mayP at h
      rw [h0] at h
      have : ∀ i ∈ idsL, bits .and .i64 (ruleL i).inn 0 = 0 := by decide
      rw [this i hi] at h
      simp at h
theorem right_one (k : Int) (isW : Bool) (p : Pr) : rightL k isW [p] = if mayP p.id k isW = false then [] else [fixP (cutP p)] := by
  show rStep k isW [] (cutP p) = _
  unfold rStep
  rw [show (cutP p).id = p.id from rfl]
  split
  · rfl
  · rw [if_neg (by simp [hasP])]; rfl
theorem ok_cut (p : Pr) (h : p.ok) : Pr.ok ⟨p.id, p.n, p.s.extract 0 20, p.t.extract 0 20⟩ := by
  have z1 : (p.s.extract 0 20).size ≤ 20 := by simp [ByteArray.size_extract]; omega
  have z2 : (p.t.extract 0 20).size ≤ 20 := by simp [ByteArray.size_extract]; omega
  exact ⟨h.n0, h.n1, by show (p.s.extract 0 20).size ≤ _; omega, by show (p.t.extract 0 20).size ≤ _; omega⟩

#print axioms run_append_props
end Go.Proofs.YtephoadjnmmbnaaDoor
