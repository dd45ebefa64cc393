/-
  Strings taken, as the document takes them; two of them. (No statement: contracts that the proofs of the statements use.)
-/
import Derived.Test.YtdhdjkpocdfjbabDoorWord3
namespace Go.Proofs.YtdhdjkpocdfjbabDoor
open Go.RowKit Go.Lib

/-- A string taken: the string, what is left, the error. -/
structure TakS (s : ByteArray) (x : Int) (a s2 : ByteArray) (x2 : Int) : Prop where
  out : ∃ t s1 x1 t2 y, rawT s x 2 = (t, s1, x1) ∧ rawT s1 x1 (numL t.data.toList) = (t2, s2, y) ∧ a = (if goodB t2 = true then t2 else ⟨#[]⟩) ∧ x2 = (if goodB t2 = true then y else 2) ∧ (goodB t2 = false → y = 0) ∧ t2.size ≤ 65535

theorem rawT_fine {s t s' : ByteArray} {x n x' : Int} (h : rawT s x n = (t, s', x')) (hx : x' ≠ 0) : t = ⟨#[]⟩ := by
  unfold rawT at h
  split at h
  · injection h with h1 _; exact h1.symm
  · split at h
    · injection h with h1 _; exact h1.symm
    · split at h
      · injection h with h1 _; exact h1.symm
      · injection h with _ h2; injection h2 with _ h3; exact absurd h3.symm hx

theorem takS (s : ByteArray) (x : Int) : ∃ a s2 x2, TakS s x a s2 x2 := by
  rcases hr : rawT s x 2 with ⟨t, s1, x1⟩
  rcases hr2 : rawT s1 x1 (numL t.data.toList) with ⟨t2, s2, y⟩
  have hb := num_lt2 s x t s1 x1 hr
  refine ⟨_, s2, _, ⟨t, s1, x1, t2, y, hr, hr2, rfl, rfl, fun hg => ?_, ?_⟩⟩
  · by_cases hy : y = 0
    · exact hy
    · rw [rawT_fine hr2 hy] at hg
      exact absurd hg (by decide +kernel)
  · have := rawT_size s1 x1 (numL t.data.toList)
    rw [hr2] at this
    dsimp only at this
    omega

theorem takeS_calls (w : World) (p : Nat) (s : ByteArray) (x : Int) (a s2 : ByteArray) (x2 : Int) (hk : TakS s x a s2 x2) (h : InAt w p s x) (hT : Tabs w) :
    Calls Tryd.prog 30 #[.pointer (some ⟨p, 0, none⟩)] w fun e w' => e = .returned (.string a) ∧ TookS w p s2 x2 w' := by
  obtain ⟨t, s1, x1, t2, y, hr, hr2, rfl, rfl, hg, _⟩ := hk.out
  refine (takeW_calls w p s x t s1 x1 hr t2 s2 y hr2 h hT).mono ?_
  rintro e w' ⟨he, hw⟩
  refine ⟨he, ?_⟩
  cases hgt : goodB t2 with
  | true => rw [hgt] at hw; exact hw
  | false =>
    rw [hgt, hg hgt] at hw
    exact hw

/-- Two cells stored, behind a call. -/
theorem stored2 {w1 w2 : World} {b : Nat} {u v u' v' : Value} (c0 : w1.cell? ⟨b, 0, none⟩ = some u) (c1 : w1.cell? ⟨b, 1, none⟩ = some v)
    (h : Below ((w1.setCell ⟨b, 0, none⟩ u').setCell ⟨b, 1, none⟩ v').heap.size ((w1.setCell ⟨b, 0, none⟩ u').setCell ⟨b, 1, none⟩ v') w2) :
    w2.cell? ⟨b, 0, none⟩ = some u' ∧ w2.cell? ⟨b, 1, none⟩ = some v' ∧ w2.frozen? ⟨b, 0, none⟩ = w1.frozen? ⟨b, 0, none⟩ ∧ w2.frozen? ⟨b, 1, none⟩ = w1.frozen? ⟨b, 1, none⟩ ∧ w1.heap.size ≤ w2.heap.size ∧ (∀ k, k < w1.heap.size → k ≠ b → w2.heap[k]? = w1.heap[k]?) := by
  have hlt : b < w1.heap.size := World.block_lt_of_cell? w1 _ c0
  have hs : ((w1.setCell ⟨b, 0, none⟩ u').setCell ⟨b, 1, none⟩ v').heap.size = w1.heap.size := by simp [World.setCell]
  have hlt' : b < ((w1.setCell ⟨b, 0, none⟩ u').setCell ⟨b, 1, none⟩ v').heap.size := by rw [hs]; exact hlt
  have n1 : (⟨b, 0, none⟩ : Addr) ≠ ⟨b, 1, none⟩ := by simp
  have hc1 : (w1.setCell ⟨b, 0, none⟩ u').cell? ⟨b, 1, none⟩ = some v := by rw [World.cell?_setCell_other _ _ _ _ n1]; exact c1
  refine ⟨?_, ?_, ?_, ?_, ?_, ?_⟩
  · rw [h.cell hlt', World.cell?_setCell_other _ _ _ _ n1.symm, World.cell?_setCell_same _ _ _ c0]
  · rw [h.cell hlt', World.cell?_setCell_same _ _ _ hc1]
  · rw [h.frozen hlt']; simp
  · rw [h.frozen hlt']; simp
  · rw [← hs]; exact h.size
  · intro k hk hne
    rw [h.block k (by rw [hs]; exact hk), Below.heap_setCell _ _ _ _ hne, Below.heap_setCell _ _ _ _ hne]

set_option maxRecDepth 100000 in
set_option maxHeartbeats 2000000 in
theorem r2take_calls (w : World) (s : ByteArray) (x : Int) (a s2 : ByteArray) (x2 : Int) (hk : TakS s x a s2 x2) :
    Calls Tryd.prog 33 #[cur s x] w fun e w' => e = .returned (.tuple #[cur s2 x2, .string a]) ∧ Below w.heap.size w w' := by
  obtain ⟨t, s1, x1, t2, y, hr, hr2, rfl, rfl, hg, hsz⟩ := hk.out
  have HR := Lib.hid hr
  have HR2 := Lib.hid hr2
  clear hr hr2 hk
  obtain ⟨l, rfl⟩ : ∃ l, t2 = str l := ⟨_, ba_str t2⟩
  rw [str_size] at hsz
  by_cases hy : y = 0
  · subst hy
    have hP : ∃ A X, (if goodB (str l) = true then str l else ⟨#[]⟩) = A ∧ (if goodB (str l) = true then (0 : Int) else 2) = X := ⟨_, _, rfl, rfl⟩
    obtain ⟨A, X, hA, hX⟩ := hP
    rw [hA, hX]
    have HA := Lib.hid hA
    have HX := Lib.hid hX
    clear hA hX hg
    go_enter Tryd.func33, Tryd.ntmps33
    go_wp2_with fail
    refine (r1data2_calls _ s x t s1 x1 HR.out (str l) s2 0 HR2.out).mono ?_
    rintro e w1 ⟨rfl, hb1⟩
    obtain ⟨k1, k2, hz, hbl⟩ := two_kept hb1
    obtain ⟨c0, c1, f0, f1⟩ := pair_cells k1
    have HB := Lib.hid hbl
    have K2 := Lib.hid k2
    clear hb1 k1 k2 hbl HR HR2
    go_wp2_with fail
    refine (r2good_calls _ l (by omega)).mono ?_
    cases hgt : goodB (str l) with
    | true =>
      have hA := HA.out
      have hX := HX.out
      rw [if_pos hgt] at hA hX
      subst hA hX
      rintro e w2 ⟨rfl, hb2⟩
      obtain ⟨e0, e1, g0, g1, hz2, hk⟩ := stored2 c0 c1 hb2
      rw [f0] at g0
      rw [f1] at g1
      have k2 := (hk (w.heap.size + 1) (by omega) (by omega)).trans K2.out
      obtain ⟨d0, d1, j0, j1⟩ := pair_cells k2
      have HB2 : Hid (Below w.heap.size w w2) := ((HB.out.setCell (Nat.le_refl _) _).setCell (Nat.le_refl _) _).trans (hb2.mono (by simp [World.setCell]; omega))
      clear hb2 hk k2 K2 HB c0 c1 f0 f1 HA HX hgt
      go_wp2
      exact bodyPost_ret (v := .tuple #[cur s2 0, .string (str l)]) (by simp [results, Tryd.results33, go_sem, d0, d1]) rfl
        ⟨rfl, (HB2.out.setCell (Nat.le_succ _) _).setCell (Nat.le_succ _) _⟩
    | false =>
      have hA := HA.out
      have hX := HX.out
      rw [if_neg (by rw [hgt]; simp)] at hA hX
      subst hA hX
      rintro e w2 ⟨rfl, hb2⟩
      obtain ⟨e0, e1, g0, g1, hz2, hk⟩ := stored2 c0 c1 hb2
      rw [f0] at g0
      rw [f1] at g1
      have k2 := (hk (w.heap.size + 1) (by omega) (by omega)).trans K2.out
      obtain ⟨d0, d1, j0, j1⟩ := pair_cells k2
      have HB2 : Hid (Below w.heap.size w w2) := ((HB.out.setCell (Nat.le_refl _) _).setCell (Nat.le_refl _) _).trans (hb2.mono (by simp [World.setCell]; omega))
      clear hb2 hk k2 K2 HB c0 c1 f0 f1 HA HX hgt
      go_wp2
      exact bodyPost_ret (v := .tuple #[cur s2 2, .string ⟨#[]⟩]) (by simp [results, Tryd.results33, go_sem, d0, d1]) rfl
        ⟨rfl, (HB2.out.setCell (Nat.le_succ _) _).setCell (Nat.le_succ _) _⟩
  · have hgt : goodB (str l) = true := by
      cases hgt : goodB (str l) with
      | true => rfl
      | false => exact absurd (hg hgt) hy
    rw [if_pos hgt, if_pos hgt]
    have d1 : (y == 0) = false := by simpa using hy
    clear hg hgt hy
    go_enter Tryd.func33, Tryd.ntmps33
    go_wp2_with fail
    refine (r1data2_calls _ s x t s1 x1 HR.out (str l) s2 y HR2.out).mono ?_
    rintro e w1 ⟨rfl, hb1⟩
    obtain ⟨k1, k2, hz, hbl⟩ := two_kept hb1
    obtain ⟨c0, c1, f0, f1⟩ := pair_cells k1
    obtain ⟨d0, d2, j0, j1⟩ := pair_cells k2
    have HB := Lib.hid hbl
    clear hb1 k1 k2 hbl HR HR2
    go_wp2
    exact bodyPost_ret (v := .tuple #[cur s2 y, .string (str l)]) (by simp [results, Tryd.results33, go_sem, d0, d2]) rfl
      ⟨rfl, (((HB.out.setCell (Nat.le_refl _) _).setCell (Nat.le_refl _) _).setCell (Nat.le_succ _) _).setCell (Nat.le_succ _) _⟩

theorem takePair_calls (w : World) (p : Nat) (s : ByteArray) (x : Int) (a s1 : ByteArray) (x1 : Int) (hk : TakS s x a s1 x1) (b s2 : ByteArray) (x2 : Int) (hk2 : TakS s1 x1 b s2 x2) (h : InAt w p s x) (hT : Tabs w) :
    Calls Tryd.prog 95 #[.pointer (some ⟨p, 0, none⟩)] w fun e w' => e = .returned (.tuple #[.string (if x2 = 0 then a else ⟨#[]⟩), .string (if x2 = 0 then b else ⟨#[]⟩)]) ∧ TookS w p s2 x2 w' := by
  have HK := Lib.hid hk
  have HK2 := Lib.hid hk2
  have HT := Lib.hid hT
  clear hk hk2 hT
  by_cases hx : x2 = 0
  · rw [if_pos hx, if_pos hx]
    subst hx
    go_enter Tryd.func95, Tryd.ntmps95
    go_wp2_with fail
    refine (takeS_calls _ p s x a s1 x1 HK.out h HT.out).mono ?_
    rintro e w1 ⟨rfl, hi, hc⟩
    have hT1 := HT.out.chg h hc
    go_wp2_with fail
    refine (takeS_calls _ p s1 x1 b s2 0 HK2.out hi hT1).mono ?_
    rintro e w2 ⟨rfl, hi2, hc2⟩
    have HH := Lib.hid (show TookS w p s2 0 w2 from ⟨hi2, hc.trans hc2⟩)
    clear hc hc2 hi hT1 h HT
    go_wp2_with fail
    refine (err_calls _ p s2 0 hi2).mono ?_
    rintro e w3 ⟨rfl, rfl⟩
    clear hi2
    go_wp2
    go_ret2
    exact ⟨rfl, HH.out⟩
  · rw [if_neg hx, if_neg hx]
    have d1 : (x2 == 0) = false := by simpa using hx
    go_enter Tryd.func95, Tryd.ntmps95
    go_wp2_with fail
    refine (takeS_calls _ p s x a s1 x1 HK.out h HT.out).mono ?_
    rintro e w1 ⟨rfl, hi, hc⟩
    have hT1 := HT.out.chg h hc
    go_wp2_with fail
    refine (takeS_calls _ p s1 x1 b s2 x2 HK2.out hi hT1).mono ?_
    rintro e w2 ⟨rfl, hi2, hc2⟩
    have HH := Lib.hid (show TookS w p s2 x2 w2 from ⟨hi2, hc.trans hc2⟩)
    clear hc hc2 hi hT1 h HT
    go_wp2_with fail
    refine (err_calls _ p s2 x2 hi2).mono ?_
    rintro e w3 ⟨rfl, rfl⟩
    clear hi2
    go_wp2
    go_ret2
    exact ⟨rfl, HH.out⟩

#print axioms r2take_calls
#print axioms takePair_calls
end Go.Proofs.YtdhdjkpocdfjbabDoor
