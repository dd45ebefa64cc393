/-
  A stream in parts: Feed and all. (No statement: contracts that the proofs of the statements use.)
-/
import Derived.Test.YtdhdjkpocdfjbaaFr11
namespace Go.Proofs.Ytdhdjkpocdfjbaa
open Go.RowKit

/-- What holds of a Reader that was fed S up to n, L being taken: at last it is P, and the error y. -/
def ChJ (w : World) (q : Nat) (most : Int) (S : List UInt8) (P : List Fm) (y : Int) (n : Nat) (v : Value) (L : List Fm) (W : World) : Prop :=
  OwnF w.heap.size 37 W v L ∧ Below w.heap.size w W ∧ ∃ x bs r, RdAt W q r most bs x ∧ (∀ g, r = some g → w.heap.size ≤ g) ∧
    ((x = 0 ∧ L ++ (runF most 400 (bs ++ S.drop n)).1 = P ∧ (runF most 400 (bs ++ S.drop n)).2.1 = y ∧ bs.length + (S.length - n) ≤ 300) ∨ (x ≠ 0 ∧ L = P ∧ x = y))

/-- What Feed leaves of it. -/
def FedCh (w : World) (q : Nat) (most : Int) (S : List UInt8) (P : List Fm) (y : Int) (n : Nat) (v : Value) (L : List Fm) (e : Ending) (W : World) : Prop := e = .returned (.tuple #[]) ∧ ChJ w q most S P y n v L W

theorem feed_ch (w : World) (q : Nat) (hq : w.heap.size ≤ q) (most : Int) (S : List UInt8) (P : List Fm) (y : Int) (n k : Nat) (hk : n + k ≤ S.length) (v : Value) (L : List Fm) (W : World) (h : ChJ w q most S P y n v L W) :
    Calls Try.prog 10 #[.pointer (some ⟨q, 0, none⟩), .string (str ((S.drop n).take k))] W (FedCh w q most S P y (n + k) v L) := by
  obtain ⟨ho, hb, x, bs, r, hr, hrow, h⟩ := h
  have hlt := hr.lt
  have hbs := hb.size
  rcases h with ⟨rfl, h1, h2, h3⟩ | ⟨hx, h1, h2⟩
  · have hcl : ((S.drop n).take k).length = k := by rw [List.length_take, List.length_drop]; omega
    refine (feed_ok W q r most bs _ hr (by rw [str_size, hcl]; omega)).mono ?_
    rintro e W' ⟨rfl, r', hr', hs⟩
    rw [str_data] at hr'
    have hcat : (bs ++ (S.drop n).take k) ++ S.drop (n + k) = bs ++ S.drop n := by rw [List.append_assoc, ← List.drop_drop, List.take_append_drop]
    refine ⟨rfl, ho.read hr hs (by decide) (by decide), hb.trans (hs.below (by omega) hq hrow), 0, _, r', hr', hs.row_ge (by omega) hrow, .inl ⟨rfl, by rw [hcat]; exact h1, by rw [hcat]; exact h2, by rw [List.length_append, hcl]; omega⟩⟩
  · refine (feed_err W q r most bs x hx _ hr).mono ?_
    rintro e W' ⟨rfl, r', hr', hs⟩
    exact ⟨rfl, ho.read hr hs (by decide) (by decide), hb.trans (hs.below (by omega) hq hrow), x, bs, r', hr', hs.row_ge (by omega) hrow, .inr ⟨hx, h1, h2⟩⟩

/-- What all answers of it, and leaves. -/
def TookCh (w : World) (q : Nat) (most : Int) (S : List UInt8) (P : List Fm) (y : Int) (n : Nat) (e : Ending) (W : World) : Prop :=
  ∃ v L z, e = .returned (.tuple #[v, .int .i64 z]) ∧ ChJ w q most S P y n v L W ∧ (n = S.length → L = P ∧ z = y)

theorem all_ch (w : World) (q : Nat) (hq : w.heap.size ≤ q) (most : Int) (S : List UInt8) (P : List Fm) (hP : P.length ≤ 400) (y : Int) (n : Nat) (v : Value) (L : List Fm) (W : World) (h : ChJ w q most S P y n v L W) :
    Calls Try.prog 11 #[.pointer (some ⟨q, 0, none⟩), v] W (TookCh w q most S P y n) := by
  obtain ⟨ho, hb, x, bs, r, hr, hrow, h⟩ := h
  rcases h with ⟨rfl, h1, h2, h3⟩ | ⟨hx, h1, h2⟩
  · have hL : L.length ≤ 400 := by have := congrArg List.length h1; rw [List.length_append] at this; omega
    generalize hR : runF most 400 bs = R
    obtain ⟨P1, y1, left1⟩ := R
    have hyne := runF_err most 400 bs (by omega)
    have hll := runF_left most 400 bs
    rw [hR] at hyne hll
    dsimp only at hyne hll
    obtain ⟨i1, i2⟩ := run_app most 400 bs (S.drop n) P1 y1 left1 (by omega) hR 400 (by rw [List.length_drop]; omega)
    refine (all_calls w.heap.size W q r most bs v L ho hr hq hrow (by omega) (by omega) P1 y1 left1 hR hyne).mono ?_
    rintro e W' ⟨v', r', rfl, ho', hr', hrow', hb'⟩
    by_cases hy1 : y1 = 1
    · subst hy1
      obtain ⟨j1, j2⟩ := i2 rfl
      rw [j1] at h1
      rw [j2] at h2
      refine ⟨v', L ++ P1, 1, rfl, ⟨ho', hb.trans hb', 0, left1, r', hr', hrow', .inl ⟨rfl, by rw [List.append_assoc]; exact h1, h2, by omega⟩⟩, fun hS => ?_⟩
      have hd : S.drop n = [] := List.drop_of_length_le (by omega)
      simp only [hd, List.append_nil] at j1 j2 h1 h2
      rw [hR] at j1 j2
      dsimp only at j1 j2
      rw [← j1] at h1
      rw [← j2] at h2
      exact ⟨h1, h2⟩
    · obtain ⟨j1, j2⟩ := i1 hy1
      rw [j1] at h1
      rw [j2] at h2
      rw [show stayR y1 = y1 by unfold stayR; rw [if_neg hy1]] at hr'
      exact ⟨v', L ++ P1, y1, rfl, ⟨ho', hb.trans hb', y1, _, r', hr', hrow', .inr ⟨hyne, h1, h2⟩⟩, fun _ => ⟨h1, h2⟩⟩
  · refine (all_err w.heap.size W q r most bs x hx v L ho hr hq hrow).mono ?_
    rintro e W' ⟨v', r', rfl, ho', hr', hrow', hb'⟩
    exact ⟨v', L, x, rfl, ⟨ho', hb.trans hb', x, bs, r', hr', hrow', .inr ⟨hx, h1, h2⟩⟩, fun _ => ⟨h1, h2⟩⟩

theorem ChJ.size {w : World} {q : Nat} {most : Int} {S : List UInt8} {P : List Fm} {y : Int} {n : Nat} {v : Value} {L : List Fm} {W : World} (h : ChJ w q most S P y n v L W) : w.heap.size ≤ W.heap.size := h.2.1.size

#print axioms all_ch
end Go.Proofs.Ytdhdjkpocdfjbaa
