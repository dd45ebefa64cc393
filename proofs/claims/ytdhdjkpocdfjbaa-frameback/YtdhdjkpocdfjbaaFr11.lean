/-
  A stream in parts. (No statement: what the proofs of the statements use.)
-/
import Derived.Test.YtdhdjkpocdfjbaaFr10
import Derived.ChangeSlices
import Derived.OpenShut
namespace Go.Proofs.Ytdhdjkpocdfjbaa
open Go.RowKit Go.WideShapes Go.ChangeShapes

/-- A number that is there, or malformed, is so whatever comes behind it. -/
theorem varT_app : ∀ (k i m : Nat) (l r : List UInt8) (n : Nat) (s' : ByteArray) (x : Int), varT k i m (str l) 0 = (n, s', x) → x ≠ 1 → ∃ s2, varT k i m (str (l ++ r)) 0 = (n, s2, x) := by
  intro k
  induction k with
  | zero =>
    intro i m l r n s' x h hx
    cases l with
    | nil =>
      have hr : rawT (str []) 0 1 = (⟨#[]⟩, str [], 1) := rfl
      rw [varT_stop hr (by decide)] at h
      injection h with _ h
      injection h with _ h
      exact absurd h.symm hx
    | cons c t =>
      have h1 := rawT_list (c :: t) 1 (by simp)
      have h2 := rawT_list (c :: (t ++ r)) 1 (by simp)
      rw [varT_end h1 (.inl rfl)] at h
      rw [List.cons_append, varT_end h2 (.inl rfl)]
      rw [show (c :: t).take 1 = [c] from rfl] at h
      rw [show (c :: (t ++ r)).take 1 = [c] from rfl]
      unfold varEnd at h ⊢
      injection h with e1 h
      injection h with e2 e3
      exact ⟨_, Prod.ext e1 (Prod.ext rfl e3)⟩
  | succ k ih =>
    intro i m l r n s' x h hx
    cases l with
    | nil =>
      have hr : rawT (str []) 0 1 = (⟨#[]⟩, str [], 1) := rfl
      rw [varT_stop hr (by decide)] at h
      injection h with _ h
      injection h with _ h
      exact absurd h.symm hx
    | cons c t =>
      have h1 := rawT_list (c :: t) 1 (by simp)
      have h2 := rawT_list (c :: (t ++ r)) 1 (by simp)
      rw [show (c :: t).take 1 = [c] from rfl, show (c :: t).drop 1 = t from rfl] at h1
      rw [show (c :: (t ++ r)).take 1 = [c] from rfl, show (c :: (t ++ r)).drop 1 = t ++ r from rfl] at h2
      rw [List.cons_append]
      by_cases hc : 128 ≤ numL (str [c]).data.toList
      · rw [varT_go h1 hc] at h
        rw [varT_go h2 hc]
        exact ih _ _ t r n s' x h hx
      · rw [varT_end h1 (.inr (by omega))] at h
        rw [varT_end h2 (.inr (by omega))]
        unfold varEnd at h ⊢
        injection h with e1 h
        injection h with e2 e3
        exact ⟨_, Prod.ext e1 (Prod.ext rfl e3)⟩

/-- A packet, or an error that stays, is there whatever comes behind it. -/
theorem next_app (most : Int) (bs r : List UInt8) (F : Fm) (y : Int) (h : nextF most bs = (F, y)) (hy : y ≠ 1) : nextF most (bs ++ r) = (F, y) ∧ (y = 0 → leftR F 0 (bs ++ r) = leftR F 0 bs ++ r) := by
  by_cases h0 : y = 0
  · subst h0
    obtain ⟨k, f, b⟩ := F
    obtain ⟨p1, p2, p3, p4, p5, p6, p7⟩ := next_parts h
    have hfn := frame_next k f p3 p4 p5 b (bs.drop (1 + (varb 3 b.length).length + b.length) ++ r) p1 most (by rw [frame_len]; exact p6)
    rw [← List.append_assoc, ← p7] at hfn
    refine ⟨hfn.1, fun _ => hfn.2.trans ?_⟩
    unfold leftR
    rw [if_pos rfl]
  · refine ⟨?_, fun e => absurd e h0⟩
    cases bs with
    | nil => rw [nextF] at h; injection h with _ h; exact absurd h.symm hy
    | cons c t =>
      have hF := next_none h h0
      subst hF
      generalize hV : varT 3 0 0 (str t) 0 = V at *
      obtain ⟨n, s', x⟩ := V
      rw [List.cons_append]
      by_cases hk : chkB ((c.toNat / 16 : Nat) : Int) ((c.toNat % 16 : Nat) : Int) = true
      · by_cases hx : x = 0
        · subst hx
          obtain ⟨s2, hV2⟩ := varT_app 3 0 0 t r n s' 0 hV (by decide)
          by_cases hm : most < ((1 + (varb 3 n).length + n : Nat) : Int)
          · rw [next_big hk hV hm] at h
            rw [next_big hk hV2 hm]
            exact h
          · by_cases hl : (c :: t).length < 1 + (varb 3 n).length + n
            · rw [next_cut hk hV hm hl] at h; injection h with _ h; exact absurd h.symm hy
            · rw [next_ok hk hV hm hl] at h; injection h with _ h; exact absurd h.symm h0
        · rw [next_num hk hV hx] at h
          injection h with _ h
          subst h
          obtain ⟨s2, hV2⟩ := varT_app 3 0 0 t r n s' x hV hy
          exact next_num hk hV2 hx
      · have hk' : chkB ((c.toNat / 16 : Nat) : Int) ((c.toNat % 16 : Nat) : Int) = false := by simpa using hk
        rw [next_bad hk'] at h ⊢
        exact h

/-- The packets of a stream are those of its beginning, and those of what is left with what comes behind. -/
theorem run_app (most : Int) : ∀ (n : Nat) (bs r : List UInt8) (P : List Fm) (y : Int) (left : List UInt8), bs.length < n → runF most n bs = (P, y, left) →
    ∀ m, bs.length + r.length < m → (y ≠ 1 → (runF most m (bs ++ r)).1 = P ∧ (runF most m (bs ++ r)).2.1 = y) ∧
      (y = 1 → (runF most m (bs ++ r)).1 = P ++ (runF most m (left ++ r)).1 ∧ (runF most m (bs ++ r)).2 = (runF most m (left ++ r)).2)
  | 0, bs, r, P, y, left, h, _, _, _ => by omega
  | n + 1, bs, r, P, y, left, hn, hR, m, hm => by
    obtain ⟨m', rfl⟩ : ∃ m', m = m' + 1 := ⟨m - 1, by omega⟩
    generalize hF : nextF most bs = R
    obtain ⟨F, z⟩ := R
    by_cases hz : z = 0
    · subst hz
      rw [runF_go most n bs F hF] at hR
      have hlt := left_lt most bs F hF
      obtain ⟨ha1, ha2⟩ := next_app most bs r F 0 hF (by decide)
      rw [runF_go most m' (bs ++ r) F ha1, ha2 rfl]
      generalize hR' : runF most n (leftR F 0 bs) = R' at hR
      obtain ⟨P', y', left'⟩ := R'
      injection hR with e1 hR
      injection hR with e2 e3
      subst e1 e2 e3
      obtain ⟨i1, i2⟩ := run_app most n (leftR F 0 bs) r P' y' left' (by omega) hR' m' (by omega)
      refine ⟨fun hy => ?_, fun hy => ?_⟩
      · obtain ⟨j1, j2⟩ := i1 hy
        exact ⟨by rw [j1], j2⟩
      · obtain ⟨j1, j2⟩ := i2 hy
        have hl := runF_left most n (leftR F 0 bs)
        rw [hR'] at hl
        dsimp only at hl
        have hfu : runF most m' (left' ++ r) = runF most (m' + 1) (left' ++ r) := runF_fuel most m' (m' + 1) _ (by rw [List.length_append]; omega) (by rw [List.length_append]; omega)
        rw [← hfu]
        exact ⟨by rw [j1]; rfl, j2⟩
    · rw [runF_end most n bs F z hF hz] at hR
      injection hR with e1 hR
      injection hR with e2 e3
      subst e1 e2 e3
      refine ⟨fun hy => ?_, fun hy => ?_⟩
      · rw [runF_end most m' (bs ++ r) F z (next_app most bs r F z hF hy).1 hz]
        exact ⟨rfl, rfl⟩
      · rw [List.nil_append]
        exact ⟨rfl, rfl⟩

/-- A slice of numbers that came in. -/
def IntsIn (W : World) (v : Value) (zs : List Int) : Prop :=
  ∃ A cap, v = .slice A zs.length cap ∧ zs.length ≤ maxLen ∧ ∀ (i : Nat) (x : Int), zs[i]? = some x → (Lit.int .i64 x).wf = true ∧ ∃ ad, A = some ad ∧ ad.block < W.heap.size ∧ W.cell? (ad.add i) = some (.int .i64 x)

theorem open_intsIn {H : Type} {enc : TypeId × Value → H} {W : World} {v : Value} {d : DataW H} {p : List MemPlace} {base : Nat} (hv : Value.okWide Try.prog W .any base 41 v) (h : DataW.Trod enc Try.prog W 0 (fun _ => true) true 41 v d p) :
    ∃ zs, IntsIn W v zs := by
  obtain ⟨A, len, cap, rfl⟩ := okWide_slice Try.underlying41 hv
  obtain ⟨fuel, hf⟩ := h
  rcases open_ints Try.underlying41 Try.underlying3 (by kernel_rfl) hf with ⟨hcs, _⟩ | ⟨ad, l, c, zs, hcs, _, hl, hm, hzl, _, hall, hwf⟩
  · simp [Value.cells] at hcs
    obtain ⟨rfl, rfl, rfl⟩ := hcs
    exact ⟨[], none, 0, rfl, Nat.zero_le _, fun i x hx => by simp at hx⟩
  · simp [Value.cells] at hcs
    obtain ⟨rfl, rfl, rfl⟩ := hcs
    simp only [if_true] at hzl
    have htl : (zs.take len).length = len := by rw [List.length_take]; omega
    refine ⟨zs.take len, some ad, cap, by rw [htl], by omega, fun i x hx => ?_⟩
    have hi : i < len := by have := (List.getElem?_eq_some_iff.1 hx).1; omega
    rw [List.getElem?_take, if_pos hi] at hx
    have hc := hall i (by omega)
    have hg : zs.getD i 0 = x := by rw [List.getD_eq_getElem?_getD, hx]; rfl
    rw [hg] at hc
    refine ⟨hwf x (List.mem_of_getElem? hx), ad, rfl, ?_, hc⟩
    have := World.block_lt_of_cell? W _ hc
    rwa [block_add] at this

#print axioms run_app
end Go.Proofs.Ytdhdjkpocdfjbaa
