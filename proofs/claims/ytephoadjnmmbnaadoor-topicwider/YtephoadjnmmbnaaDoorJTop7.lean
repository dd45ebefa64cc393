/-
  Wider filters, pure. (No statement: facts that the proofs of the statements use.)
-/
import Derived.Test.YtephoadjnmmbnaaDoorJTop6
import Derived.Test.YtephoadjnmmbnaaDoorJWords
namespace Go.Proofs.YtephoadjnmmbnaaDoor
open Go.RowKit Go.Lib

theorem dec_cont (l : List UInt8) (i : Nat) (h1 : 1 ≤ i) (h2 : i < (decodeL l).2) : 128 ≤ (l.getD i 0).toNat := by
  rw [decodeL_N] at h2
  rcases decodeN_shape l.length (l.getD 0 0).toNat (l.getD 1 0).toNat (l.getD 2 0).toNat (l.getD 3 0).toNat with ⟨c, e⟩ | ⟨c1, c2, c3, cv, e⟩ | ⟨c1, c2, c3, c4, cv, cs, e⟩ | ⟨c1, c2, c3, c4, c5, cv, cw, e⟩ | e
  · rw [e] at h2; dsimp only at h2; omega
  · rw [e] at h2; dsimp only at h2
    obtain rfl : i = 1 := by omega
    omega
  · rw [e] at h2; dsimp only at h2
    rcases (show i = 1 ∨ i = 2 by omega) with rfl | rfl <;> omega
  · rw [e] at h2; dsimp only at h2
    rcases (show i = 1 ∨ i = 2 ∨ i = 3 by omega) with rfl | rfl | rfl <;> omega
  · rw [e] at h2; dsimp only at h2; omega

theorem valid_cut : ∀ (n : Nat) (x r : List UInt8), x.length ≤ n → validD (x ++ 47 :: r) = true → validD x = true
  | _, [], _, _, _ => rfl
  | 0, c :: x, _, h, _ => by simp at h
  | n + 1, c :: x, r, h, hv => by
    have hne : (c :: x) ++ 47 :: r ≠ [] := by simp
    obtain ⟨_, hd⟩ := valid_ne _ hne hv
    have ht := valid_take _ hne hv
    have hw := decodeL_width ((c :: x) ++ 47 :: r)
    have hc := dec_cont ((c :: x) ++ 47 :: r)
    generalize (decodeL ((c :: x) ++ 47 :: r)).2 = m at *
    have hm : m ≤ (c :: x).length := by
      rcases Nat.lt_or_ge (c :: x).length m with hlt | hge
      · have := hc (c :: x).length (by simp) hlt
        rw [List.getD_eq_getElem?_getD, List.getElem?_append_right (Nat.le_refl _), Nat.sub_self] at this
        exact absurd this (by simp)
      · exact hge
    rw [List.drop_append_of_le_length hm] at hd
    rw [List.take_append_of_le_length hm] at ht
    have ih := valid_cut n ((c :: x).drop m) r (by rw [List.length_drop]; simp at h ⊢; omega) hd
    rw [← List.take_append_drop m (c :: x), valid_append _ _ _ (Nat.le_refl _) ht]
    exact ih

theorem valid_slash (r : List UInt8) : validD (47 :: r) = validD r := valid_append 1 [47] r (by decide) (by decide +kernel)

theorem valid_unlev : ∀ ls : List (List UInt8), (∀ x ∈ ls, validD x = true) → validD (unlev ls) = true
  | [], _ => rfl
  | [x], h => h x (.head _)
  | x :: y :: r, h => by
    rw [unlev_cons _ _ (by simp), valid_append _ _ _ (Nat.le_refl _) (h x (.head _)), valid_slash]
    exact valid_unlev (y :: r) (fun z hz => h z (.tail _ hz))
theorem unlev_valid : ∀ ls : List (List UInt8), validD (unlev ls) = true → ∀ x ∈ ls, validD x = true
  | [], _, _, hx => by cases hx
  | [x], h, y, hy => by simp at hy; subst hy; exact h
  | x :: y :: r, h, z, hz => by
    rw [unlev_cons _ _ (by simp)] at h
    have h1 := valid_cut _ x _ (Nat.le_refl _) h
    rw [valid_append _ _ _ (Nat.le_refl _) h1, valid_slash] at h
    rcases List.mem_cons.1 hz with rfl | hz
    · exact h1
    · exact unlev_valid (y :: r) h z hz
theorem unlev_len (m : Nat) : ∀ ls : List (List UInt8), (∀ x ∈ ls, x.length ≤ m) → (unlev ls).length ≤ ls.length * (m + 1)
  | [], _ => by simp [unlev]
  | [x], h => by have := h x (.head _); simp [unlev]; omega
  | x :: y :: r, h => by
    have h1 := h x (.head _)
    have ih := unlev_len m (y :: r) (fun z hz => h z (.tail _ hz))
    rw [unlev_cons _ _ (by simp), List.length_append, List.length_cons]
    rw [show (x :: y :: r).length = (y :: r).length + 1 from rfl, Nat.add_mul]
    omega
theorem unlev_mem (c : UInt8) (hc : c ≠ 47) : ∀ ls : List (List UInt8), (∀ x ∈ ls, c ∉ x) → c ∉ unlev ls
  | [], _ => by simp [unlev]
  | [x], h => h x (.head _)
  | x :: y :: r, h => by
    rw [unlev_cons _ _ (by simp)]
    intro e
    rcases List.mem_append.1 e with e | e
    · exact h x (.head _) e
    · rcases List.mem_cons.1 e with e | e
      · exact hc e
      · exact unlev_mem c hc (y :: r) (fun z hz => h z (.tail _ hz)) e

/-- Levels whose text may be a name's or a filter's. -/
theorem may_unlev (ls : List (List UInt8)) (h0 : ls ≠ []) (h1 : ls.length ≤ 32) (hs : ∀ x ∈ ls, (47 : UInt8) ∉ x ∧ (0 : UInt8) ∉ x ∧ validD x = true ∧ x.length ≤ 80) (hn : ls ≠ [[]]) : mayT (unlev ls) = true := by
  have hl := lev_unlev ls h0 (fun x hx => (hs x hx).1)
  have hc := lev_length (unlev ls)
  rw [hl] at hc
  have hlen := unlev_len 80 ls (fun x hx => (hs x hx).2.2.2)
  have hm : ls.length * (80 + 1) ≤ 32 * 81 := Nat.mul_le_mul_right 81 h1
  have hg : goodB (str (unlev ls)) = true := (good_iff _).2 ⟨by omega, valid_unlev ls (fun x hx => (hs x hx).2.2.1), unlev_mem 0 (by decide) ls (fun x hx => (hs x hx).2.1)⟩
  have hne : unlev ls ≠ [] := fun e => by rw [e] at hl; exact hn hl.symm
  unfold mayT
  rw [decide_eq_true hne, hg, decide_eq_true (by omega)]
  rfl

/-- The levels of a filter's text. -/
theorem may_levs (l : List UInt8) (hl : l.length ≤ 80) (h : mayT l = true) : (lev l).length ≤ 32 ∧ ∀ x ∈ lev l, (47 : UInt8) ∉ x ∧ (0 : UInt8) ∉ x ∧ validD x = true ∧ x.length ≤ 80 := by
  unfold mayT at h
  simp only [Bool.and_eq_true, decide_eq_true_eq] at h
  obtain ⟨_, hg, hc⟩ := h
  obtain ⟨_, hv, h0⟩ := (good_iff _).1 hg
  refine ⟨by rw [lev_length]; omega, fun x hx => ⟨(lev_mem l x hx).1, fun e => h0 ((lev_mem l x hx).2 0 e), ?_, Nat.le_trans (lev_len l x hx) hl⟩⟩
  rw [← unlev_lev l] at hv
  exact unlev_valid _ hv x hx

/-- Up to a level, and # behind that. -/
def endsL (ls : List (List UInt8)) (k : Nat) : List (List UInt8) := ls.take k ++ [[35]]
theorem ends_filt : ∀ (ls : List (List UInt8)) (k : Nat), k < ls.length → filtR ls = true → filtR (endsL ls k) = true
  | [], _, h, _ => by simp at h
  | x :: r, 0, _, _ => rfl
  | [x], k + 1, h, _ => by simp at h
  | x :: y :: r, k + 1, h, hf => by
    unfold filtR at hf
    rw [Bool.and_eq_true] at hf
    have ih := ends_filt (y :: r) k (by simpa using h) hf.2
    unfold endsL at ih ⊢
    rw [List.take_succ_cons, List.cons_append, filtR_step, ih, Bool.and_true, Bool.or_eq_true]
    rcases Bool.or_eq_true _ _ ▸ hf.1 with h1 | h1
    · left; rw [h1]; rfl
    · right; exact h1
theorem ends_meet : ∀ (ls : List (List UInt8)) (k : Nat) (ns : List (List UInt8)), k < ls.length → meetB ls ns = true → meetB (endsL ls k) ns = true
  | [], _, _, h, _ => by simp at h
  | x :: r, 0, ns, _, _ => by simp [endsL, meetB]
  | x :: r, k + 1, ns, h, hm => by
    unfold endsL
    rw [List.take_succ_cons, List.cons_append]
    unfold meetB at hm ⊢
    rw [Bool.or_eq_true] at hm ⊢
    rcases hm with hm | hm
    · exact .inl hm
    · right
      cases ns with
      | nil => cases hm
      | cons n ns =>
        dsimp only at hm ⊢
        rw [Bool.and_eq_true] at hm ⊢
        exact ⟨hm.1, ends_meet r k ns (by simpa using h) hm.2⟩
theorem wide_filt : ∀ (ls : List (List UInt8)) (k : Nat), filtR ls = true → filtR (ls.set k [43]) = true
  | [], _, _ => rfl
  | [x], 0, _ => rfl
  | [x], k + 1, h => h
  | x :: y :: r, 0, h => by
    unfold filtR at h
    rw [Bool.and_eq_true] at h
    show filtR ([43] :: y :: r) = true
    rw [filtR_step, h.2]
    rfl
  | x :: y :: r, k + 1, h => by
    unfold filtR at h
    rw [Bool.and_eq_true] at h
    have ih := wide_filt (y :: r) k h.2
    rw [List.set_cons_succ, filtR_step, ih, Bool.and_true, Bool.or_eq_true]
    rcases Bool.or_eq_true _ _ ▸ h.1 with h1 | h1
    · left; rw [h1]; rfl
    · right; exact h1
theorem wide_meet : ∀ (ls : List (List UInt8)) (k : Nat) (x : List UInt8) (ns : List (List UInt8)), ls[k]? = some x → x ≠ [35] → meetB ls ns = true → meetB (ls.set k [43]) ns = true
  | [], _, _, _, h, _, _ => by simp at h
  | y :: r, 0, x, ns, h, hx, hm => by
    simp at h
    subst h
    unfold meetB at hm
    rw [beq_eq_false_iff_ne.2 hx, Bool.false_or] at hm
    rw [List.set_cons_zero]
    unfold meetB
    cases ns with
    | nil => cases hm
    | cons n ns =>
      dsimp only at hm ⊢
      rw [Bool.and_eq_true] at hm
      rw [hm.2]
      rfl
  | y :: r, k + 1, x, ns, h, hx, hm => by
    rw [List.set_cons_succ]
    unfold meetB at hm ⊢
    rw [Bool.or_eq_true] at hm ⊢
    rcases hm with hm | hm
    · exact .inl hm
    · right
      cases ns with
      | nil => cases hm
      | cons n ns =>
        dsimp only at hm ⊢
        rw [Bool.and_eq_true] at hm ⊢
        exact ⟨hm.1, wide_meet r k x ns (by simpa using h) hx hm.2⟩

/-- All that is asked of a filter's levels and of a name. -/
theorem ends_all (f n : List UInt8) (hl : f.length ≤ 80) (hf : filtB f = true) (hm : matchB f n = true) (hh : hidB n = false) (k : Nat) (hk : k < (lev f).length) :
    filtB (unlev (endsL (lev f) k)) = true ∧ matchB (unlev (endsL (lev f) k)) n = true ∧ (unlev (endsL (lev f) k)).length ≤ 2592 := by
  unfold filtB at hf
  rw [Bool.and_eq_true] at hf
  obtain ⟨h32, hx⟩ := may_levs f hl hf.1
  have hlen : (endsL (lev f) k).length ≤ 32 := by unfold endsL; simp; omega
  have hs : ∀ x ∈ endsL (lev f) k, (47 : UInt8) ∉ x ∧ (0 : UInt8) ∉ x ∧ validD x = true ∧ x.length ≤ 80 := by
    intro x hx'
    unfold endsL at hx'
    rcases List.mem_append.1 hx' with h | h
    · exact hx x (List.mem_of_mem_take h)
    · simp at h; subst h; decide +kernel
  have hne : endsL (lev f) k ≠ [] := by unfold endsL; simp
  have hnn : endsL (lev f) k ≠ [[]] := by
    unfold endsL
    intro e
    have := congrArg (fun l => l.getLast?) e
    simp at this
  have hu := lev_unlev _ hne (fun x hx => (hs x hx).1)
  refine ⟨?_, ?_, ?_⟩
  · unfold filtB
    rw [may_unlev _ hne hlen hs hnn, hu, ends_filt _ _ hk hf.2]
    rfl
  · unfold matchB at hm ⊢
    rw [hh] at hm ⊢
    rw [Bool.and_eq_true] at hm
    rw [hu, ends_meet _ _ _ hk hm.2]
    rfl
  · have := unlev_len 80 _ (fun x hx => (hs x hx).2.2.2)
    have := Nat.mul_le_mul_right 81 hlen
    omega
theorem wide_all (f n : List UInt8) (hl : f.length ≤ 80) (hf : filtB f = true) (hm : matchB f n = true) (hh : hidB n = false) (k : Nat) (x : List UInt8) (hk : (lev f)[k]? = some x) (hx35 : x ≠ [35]) :
    filtB (unlev ((lev f).set k [43])) = true ∧ matchB (unlev ((lev f).set k [43])) n = true ∧ (unlev ((lev f).set k [43])).length ≤ 2592 := by
  have hkl := (List.getElem?_eq_some_iff.1 hk).1
  unfold filtB at hf
  rw [Bool.and_eq_true] at hf
  obtain ⟨h32, hx⟩ := may_levs f hl hf.1
  have hlen : ((lev f).set k [43]).length ≤ 32 := by simpa using h32
  have hs : ∀ x ∈ (lev f).set k [43], (47 : UInt8) ∉ x ∧ (0 : UInt8) ∉ x ∧ validD x = true ∧ x.length ≤ 80 := by
    intro x hx'
    rcases List.mem_or_eq_of_mem_set hx' with h | h
    · exact hx x h
    · subst h; decide +kernel
  have hne : (lev f).set k [43] ≠ [] := by intro e; have := congrArg List.length e; rw [List.length_set] at this; simp at this; exact lev_ne f this
  have hnn : (lev f).set k [43] ≠ [[]] := by
    intro e
    have h1 : ((lev f).set k [43])[k]? = some [43] := by rw [List.getElem?_set_self hkl]
    rw [e] at h1
    cases k with
    | zero => simp at h1
    | succ k => simp at h1
  have hu := lev_unlev _ hne (fun x hx => (hs x hx).1)
  refine ⟨?_, ?_, ?_⟩
  · unfold filtB
    rw [may_unlev _ hne hlen hs hnn, hu, wide_filt _ _ hf.2]
    rfl
  · unfold matchB at hm ⊢
    rw [hh] at hm ⊢
    rw [Bool.and_eq_true] at hm
    rw [hu, wide_meet _ _ _ _ hk hx35 hm.2]
    rfl
  · have := unlev_len 80 _ (fun x hx => (hs x hx).2.2.2)
    have := Nat.mul_le_mul_right 81 hlen
    omega

/-- Go's Join of levels. -/
theorem join_unlev : ∀ ls : List (List UInt8), Lib.join ls [47] = unlev ls
  | [] => rfl
  | [x] => join_one x _
  | x :: y :: r => by
    have ih := join_unlev (y :: r)
    rw [join_cons] at ih
    rw [unlev_cons _ _ (by simp), ← ih, join_cons]
    simp [joinTail]

/-- Levels, and that their cells may be written. -/
theorem levels_calls2 (w : World) (l : List UInt8) (hl : l.length ≤ 1000000) (hT : T10 w) :
    Calls Tryd.prog 18 #[.string (str l)] w fun e w' => e = .returned (.slice (some ⟨w.heap.size, 0, none⟩) (lev l).length (lev l).length) ∧ LevAt w' w.heap.size (lev l) ∧ (∀ j, w'.frozen? ⟨w.heap.size, j, none⟩ = false) ∧ Below w.heap.size w w' ∧ w.heap.size < w'.heap.size := by
  obtain ⟨m, hm⟩ := hT.most
  have c := Tryd.strings_Split (str l) ⟨#[47]⟩ m w (by rw [str_size]; omega) hm (by decide)
  rw [split_map] at c
  have hc : countB (str l) ⟨#[47]⟩ + 1 = (lev l).length := by
    rw [lev_length]
    show Lib.count (str l).data.toList [47] + 1 = _
    rw [str_data, count_slash]
  rw [hc] at c
  clear hc hm
  generalize hn : (lev l).length = n at *
  go_enter Tryd.func18, Tryd.ntmps18
  go_wp2_with (go_at_call 89; refine c.mono ?_; rintro e w' ⟨rfl, hw⟩; rw [hw])
  go_ret
  refine ⟨rfl, fun j x hj => ?_, fun j => ?_, (Below.refl _ _).alloc (Nat.le_refl _) _, by simp⟩
  · rw [World.cell?_alloc_at _ _ _ _ rfl]
    simp [hj]
  · exact World.frozen?_alloc_at _ _ _ _ rfl

theorem lev_set {w : World} {p : Nat} {ls : List (List UInt8)} (h : LevAt w p ls) (k : Nat) (x : List UInt8) (hk : k < ls.length) : LevAt (w.setCell ⟨p, k, none⟩ (.string (str x))) p (ls.set k x) := by
  intro j y hj
  have hs : (w.cell? ⟨p, k, none⟩).isSome := by rw [h k _ (List.getElem?_eq_getElem hk)]; rfl
  by_cases e : j = k
  · subst e
    rw [List.getElem?_set_self hk] at hj
    injection hj with hj
    subst hj
    exact World.cell?_setCell_same' _ _ _ hs
  · rw [List.getElem?_set_ne (fun h => e h.symm)] at hj
    rw [World.cell?_setCell_other _ _ _ _ (by intro h; injection h with _ h; exact e h.symm)]
    exact h j y hj
/-- Levels as Join is handed them. -/
theorem join_at (w : World) (p c : Nat) (ls : List (List UInt8)) (h : LevAt w p ls) (hp : p < w.heap.size) (hl : ls.length ≤ 10000) (hc : ls.length ≤ c) (hu : (unlev ls).length ≤ 1000000) :
    Calls Tryd.prog 26 #[.slice (some ⟨p, 0, none⟩) ls.length c, .string ⟨#[47]⟩] w fun e w' => e = .returned (.string (str (unlev ls))) ∧ Below w.heap.size w w' := by
  have hm : (ls.map str).map (·.data.toList) = ls := by
    rw [List.map_map]
    conv => rhs; rw [← List.map_id ls]
    exact List.map_congr_left fun x _ => str_data x
  have c1 := Tryd.strings_Join p 0 c (ls.map str) ⟨#[47]⟩ w (fun j x hj => by
    rw [List.getElem?_map] at hj
    cases e : ls[j]? with
    | none => rw [e] at hj; cases hj
    | some y => rw [e] at hj; injection hj with hj; subst hj; rw [Nat.zero_add]; exact h j y e) hp (by rw [List.length_map]; omega) (by rw [List.length_map]; exact hc) (by rw [hm, join_unlev]; omega)
  rw [hm, List.length_map, join_unlev] at c1
  exact c1

#print axioms ends_all
end Go.Proofs.YtephoadjnmmbnaaDoor
