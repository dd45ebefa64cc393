/-
  Rising lists of numbers; the search round about. (No statement: plain facts, and laws on scopes and worlds, that the contracts use.)
-/
import Derived.Test.YtnpkiknidmhciaaDoorRows
import Derived.WalkKit
import Derived.WalkSpells
import Derived.Lib.Hide
import Derived.ProofKit
import Derived.OpenShut
import Derived.Maps.OwnSet
namespace Go.Proofs.YtnpkiknidmhciaaDoor
open Go.RowKit Go.Maps

/-- The numbers rise. -/
def Rise (U : List Nat) : Prop := U.Pairwise (· < ·)

/-- A number put in its place. -/
def ins (n : Nat) : List Nat → List Nat
  | [] => [n]
  | x :: r => if n < x then n :: x :: r else x :: ins n r

theorem mem_ins (n m : Nat) : ∀ U : List Nat, m ∈ ins n U ↔ m = n ∨ m ∈ U
  | [] => by simp [ins]
  | x :: r => by
    unfold ins
    split
    · simp
    · simp [mem_ins n m r]
      constructor
      · rintro (h | h | h)
        · exact .inr (.inl h)
        · exact .inl h
        · exact .inr (.inr h)
      · rintro (h | h | h)
        · exact .inr (.inl h)
        · exact .inl h
        · exact .inr (.inr h)

theorem length_ins (n : Nat) : ∀ U : List Nat, (ins n U).length = U.length + 1
  | [] => rfl
  | x :: r => by
    unfold ins
    split
    · rfl
    · simp [length_ins n r]

theorem rise_ins (n : Nat) : ∀ U : List Nat, Rise U → n ∉ U → Rise (ins n U)
  | [], _, _ => by simp [ins, Rise]
  | x :: r, h, hn => by
    unfold Rise at h
    rw [List.pairwise_cons] at h
    have hnx : n ≠ x := fun e => hn (by simp [e])
    unfold ins
    split
    · rename_i hlt
      unfold Rise
      rw [List.pairwise_cons, List.pairwise_cons]
      refine ⟨fun y hy => ?_, h⟩
      rcases List.mem_cons.1 hy with rfl | hy
      · exact hlt
      · exact Nat.lt_trans hlt (h.1 y hy)
    · rename_i hlt
      unfold Rise
      rw [List.pairwise_cons]
      refine ⟨fun y hy => ?_, rise_ins n r h.2 (fun hm => hn (by simp [hm]))⟩
      rcases (mem_ins n y r).1 hy with rfl | hy
      · omega
      · exact h.1 y hy

/-- A number struck. -/
def cut1 (n : Nat) (U : List Nat) : List Nat := U.filter (· != n)

theorem mem_cut1 (n m : Nat) (U : List Nat) : m ∈ cut1 n U ↔ m ∈ U ∧ m ≠ n := by simp [cut1]

theorem rise_cut1 (n : Nat) (U : List Nat) (h : Rise U) : Rise (cut1 n U) := List.Pairwise.filter _ h

theorem cut1_none (n : Nat) (U : List Nat) (h : n ∉ U) : cut1 n U = U :=
  List.filter_eq_self.2 fun a ha => by simpa using fun e => h (by rw [← e]; exact ha)

theorem length_cut1 (n : Nat) : ∀ U : List Nat, Rise U → n ∈ U → (cut1 n U).length + 1 = U.length
  | [], _, h => by simp at h
  | x :: r, h, hm => by
    unfold Rise at h
    rw [List.pairwise_cons] at h
    by_cases e : x = n
    · subst e
      have hn : x ∉ r := fun hx => Nat.lt_irrefl _ (h.1 x hx)
      have := cut1_none x r hn
      unfold cut1 at *
      rw [List.filter_cons]
      simp [this]
    · have hm' : n ∈ r := by
        rcases List.mem_cons.1 hm with rfl | h'
        · exact absurd rfl e
        · exact h'
      have := length_cut1 n r h.2 hm'
      unfold cut1 at *
      rw [List.filter_cons]
      simp [e, this]

/-- The i-th number that is looked at behind the last one (i from 1). -/
def look1 (most last i : Nat) : Nat := (last + i - 1) % most + 1

theorem look1_step (most last i : Nat) (hi : 1 ≤ i) : look1 most last (i + 1) = look1 most last i % most + 1 := by
  unfold look1
  rw [show last + (i + 1) - 1 = last + i - 1 + 1 by omega]
  simp [Nat.add_mod]

theorem look1_one (most last : Nat) : look1 most last 1 = last % most + 1 := by simp [look1]

theorem look1_le (most last i : Nat) (hm : 1 ≤ most) : 1 ≤ look1 most last i ∧ look1 most last i ≤ most := by
  unfold look1
  have := Nat.mod_lt (last + i - 1) (show 0 < most by omega)
  omega

theorem sub_length : ∀ (l U : List Nat), l.Nodup → (∀ x ∈ l, x ∈ U) → l.length ≤ U.length
  | [], _, _, _ => Nat.zero_le _
  | x :: r, U, h, hs => by
    rw [List.nodup_cons] at h
    have hx : x ∈ U := hs x (by simp)
    have := sub_length r (U.erase x) h.2 (fun y hy => (List.mem_erase_of_ne (fun e => h.1 (by rw [← e]; exact hy))).2 (hs y (by simp [hy])))
    have h2 := List.length_erase_of_mem hx
    have h3 := List.length_pos_of_mem hx
    simp only [List.length_cons]
    omega

theorem mod_inj {m a i j : Nat} (hi : i < m) (hj : j < m) (h : (a + i) % m = (a + j) % m) : i = j := by
  have e1 := Nat.div_add_mod (a + i) m
  have e2 := Nat.div_add_mod (a + j) m
  rw [h] at e1
  generalize (a + i) / m = p at *
  generalize (a + j) / m = q at *
  rcases Nat.lt_trichotomy p q with hpq | hpq | hpq
  · have : m * (p + 1) ≤ m * q := Nat.mul_le_mul_left m hpq
    rw [Nat.mul_add] at this
    omega
  · subst hpq; omega
  · have : m * (q + 1) ≤ m * p := Nat.mul_le_mul_left m hpq
    rw [Nat.mul_add] at this
    omega

/-- While not all are in use, one of the first most that are looked at isn't. -/
theorem look1_free (most last : Nat) (U : List Nat) (hl : U.length < most) : ∃ k, 1 ≤ k ∧ k ≤ most ∧ look1 most last k ∉ U ∧ ∀ i, 1 ≤ i → i < k → look1 most last i ∈ U := by
  have ex : ∃ i, i < most ∧ look1 most last (i + 1) ∉ U := by
    refine Classical.byContradiction fun hno => ?_
    have hall : ∀ i, i < most → look1 most last (i + 1) ∈ U := fun i hi => Classical.byContradiction fun h => hno ⟨i, hi, h⟩
    have hnd : ((List.range most).map fun i => look1 most last (i + 1)).Nodup := by
      refine List.pairwise_map.2 (List.Pairwise.imp_of_mem ?_ List.nodup_range)
      intro a b ha hb hne he
      simp only [List.mem_range] at ha hb
      unfold look1 at he
      exact hne (mod_inj (a := last) ha hb (by simpa using he))
    have := sub_length _ U hnd (fun x hx => by
      obtain ⟨i, hi, rfl⟩ := List.mem_map.1 hx
      exact hall i (List.mem_range.1 hi))
    simp at this
    omega
  have least : ∀ n, (∃ i, i < n ∧ look1 most last (i + 1) ∉ U) → ∃ i, i < n ∧ look1 most last (i + 1) ∉ U ∧ ∀ j, j < i → look1 most last (j + 1) ∈ U := by
    intro n
    induction n with
    | zero => rintro ⟨i, hi, _⟩; omega
    | succ n ih =>
      rintro ⟨i, hi, hni⟩
      by_cases he : ∃ j, j < n ∧ look1 most last (j + 1) ∉ U
      · obtain ⟨j, hj, h1, h2⟩ := ih he
        exact ⟨j, by omega, h1, h2⟩
      · have hin : i = n := by
          refine Classical.byContradiction fun h => he ⟨i, by omega, hni⟩
        subst hin
        exact ⟨i, by omega, hni, fun j hj => Classical.byContradiction fun h => he ⟨j, hj, h⟩⟩
  obtain ⟨i, hi, h1, h2⟩ := least most ex
  refine ⟨i + 1, by omega, by omega, h1, fun j hj hjk => ?_⟩
  have := h2 (j - 1) (by omega)
  rwa [show j - 1 + 1 = j by omega] at this

/-- The label is come to. -/
theorem label_pass {P : Program} {Q : Exit → Act → World → Prop} {rest : Code} (l : Nat) (J : Act → World → Prop) (μ : Act → World → Nat)
    (pass : ∀ a w, J a w → rest.wp P (Exit.jump l (fun a' w' => J a' w' ∧ μ a' w' < μ a w) Q) a w) (a1 : Act) (w1 : World) (h : J a1 w1) : ((Code.label l).seq rest).wp P (Exit.jump l J Q) a1 w1 := by
  refine wp_seq (wp_label ?_)
  refine wp_mono (pass a1 w1 h) ?_
  intro e a2 w2 h2
  cases e with
  | goto l' => exact ⟨h2.1, h2.2.1⟩
  | normal => exact h2
  | exit id => exact h2
  | ret => exact h2
  | panic ch => exact h2
  | outgrown => exact h2

/-- A scope that begins with two pieces of code ahead of its one label. -/
theorem scope_head2 {P : Program} {a : Act} {w : World} {Q : Exit → Act → World → Prop} {A B rest : Code} (l : Nat) (J : Act → World → Prop) (μ : Act → World → Nat) (hf : findLabel (A.seq (B.seq ((Code.label l).seq rest))) l = some (Code.skip.seq rest))
    (start : A.wp P (Exit.then (fun a w => B.wp P (Exit.then J (Exit.jump l J Q)) a w) (Exit.jump l J Q)) a w)
    (pass : ∀ a w, J a w → rest.wp P (Exit.jump l (fun a' w' => J a' w' ∧ μ a' w' < μ a w) Q) a w) : (Code.scope (A.seq (B.seq ((Code.label l).seq rest)))).wp P Q a w := by
  refine wp_scope_jumps l J μ hf (wp_seq (wp_mono start ?_)) (fun a w hJ => wp_seq (wp_skip (pass a w hJ)))
  intro e a1 w1 h
  cases e with
  | normal =>
    refine wp_seq (wp_mono h ?_)
    intro e a2 w2 h2
    cases e with
    | normal => exact label_pass l J μ pass a2 w2 h2
    | goto l' => exact h2
    | exit id => exact h2
    | ret => exact h2
    | panic ch => exact h2
    | outgrown => exact h2
  | goto l' => exact h
  | exit id => exact h
  | ret => exact h
  | panic ch => exact h
  | outgrown => exact h

theorem least_of (p : Nat → Prop) (h : ∃ n, p n) : ∃ n, p n ∧ ∀ m, p m → n ≤ m := by
  have go : ∀ N, (∃ n, n ≤ N ∧ p n) → ∃ n, p n ∧ ∀ m, p m → n ≤ m := by
    intro N
    induction N with
    | zero =>
      rintro ⟨n, hn, hp⟩
      obtain rfl : n = 0 := by omega
      exact ⟨0, hp, fun m _ => Nat.zero_le m⟩
    | succ N ih =>
      rintro ⟨n, hn, hp⟩
      by_cases he : ∃ m, m ≤ N ∧ p m
      · exact ih he
      · refine ⟨n, hp, fun m hm => ?_⟩
        have : ¬ m ≤ N := fun h => he ⟨m, h, hm⟩
        omega
  obtain ⟨n, hn⟩ := h
  exact go n ⟨n, Nat.le_refl _, hn⟩

/-- The least n that J lets (0: none). -/
noncomputable def leastN (p : Nat → Prop) : Nat := @dite Nat (∃ n, p n) (Classical.propDecidable _) (fun h => Classical.choose (least_of p h)) (fun _ => 0)
theorem leastN_spec {p : Nat → Prop} (h : ∃ n, p n) : p (leastN p) ∧ ∀ m, p m → leastN p ≤ m := by
  unfold leastN
  rw [dif_pos h]
  exact Classical.choose_spec (least_of p h)

/-- A scope with two pieces of code ahead of its one label, the rounds counted by the relation itself. -/
theorem scope_head2n {P : Program} {a : Act} {w : World} {Q : Exit → Act → World → Prop} {A B rest : Code} (l : Nat) (J : Nat → Act → World → Prop) (hf : findLabel (A.seq (B.seq ((Code.label l).seq rest))) l = some (Code.skip.seq rest))
    (start : A.wp P (Exit.then (fun a w => B.wp P (Exit.then (fun a w => ∃ n, J n a w) (Exit.jump l (fun a w => ∃ n, J n a w) Q)) a w) (Exit.jump l (fun a w => ∃ n, J n a w) Q)) a w)
    (pass : ∀ n a w, J n a w → rest.wp P (Exit.jump l (fun a' w' => ∃ m, m < n ∧ J m a' w') Q) a w) : (Code.scope (A.seq (B.seq ((Code.label l).seq rest)))).wp P Q a w := by
  refine scope_head2 l (fun a w => ∃ n, J n a w) (fun a w => leastN fun n => J n a w) hf start (fun a w h => ?_)
  obtain ⟨h1, _⟩ := leastN_spec h
  refine wp_mono (pass _ a w h1) ?_
  intro e a2 w2 h2
  cases e with
  | goto l' =>
    obtain ⟨hl, m, hm, hJ⟩ := h2
    exact ⟨hl, ⟨m, hJ⟩, Nat.lt_of_le_of_lt ((leastN_spec (p := fun n => J n a2 w2) ⟨m, hJ⟩).2 m hJ) hm⟩
  | normal => exact h2
  | exit id => exact h2
  | ret => exact h2
  | panic ch => exact h2
  | outgrown => exact h2

/-- Nothing old has turned but the blocks p and b. -/
structure Moved (w w' : World) (p b : Nat) : Prop where
  os : w'.os = w.os
  tape : w'.tape = w.tape
  output : w'.output = w.output
  size : w.heap.size ≤ w'.heap.size
  block : ∀ k, k < w.heap.size → k ≠ p → k ≠ b → w'.heap[k]? = w.heap[k]?

theorem Moved.of_below {w w' : World} {p b : Nat} (h : Below w.heap.size w w') : Moved w w' p b := ⟨h.os, h.tape, h.output, h.size, fun k hk _ _ => h.block k hk⟩
theorem Moved.refl (w : World) (p b : Nat) : Moved w w p b := Moved.of_below (Below.refl _ _)
theorem Moved.trans {w1 w2 w3 : World} {p b : Nat} (h : Moved w1 w2 p b) (k : Moved w2 w3 p b) : Moved w1 w3 p b :=
  ⟨k.os.trans h.os, k.tape.trans h.tape, k.output.trans h.output, Nat.le_trans h.size k.size, fun i hi h1 h2 => (k.block i (Nat.lt_of_lt_of_le hi h.size) h1 h2).trans (h.block i hi h1 h2)⟩
theorem Moved.below {w w' : World} {p b B : Nat} (h : Moved w w' p b) (hp : B ≤ p) (hb : B ≤ b) (hB : B ≤ w.heap.size) : Below B w w' :=
  ⟨h.os, h.tape, h.output, h.size, fun k hk => h.block k (Nat.lt_of_lt_of_le hk hB) (by omega) (by omega)⟩
theorem Moved.turned {w w' : World} {p b : Nat} (h : w.mapTurned w' b) : Moved w w' p b := by
  have g := h.grown
  exact ⟨g.os, g.tape, g.output, g.size, fun k hk _ hb => g.block k hk (fun e => hb (by injection e))⟩
theorem Moved.setCell {w : World} {p b o : Nat} (v : Value) : Moved w (w.setCell ⟨p, o, none⟩ v) p b :=
  ⟨rfl, rfl, rfl, by simp [World.setCell], fun k _ h _ => Below.heap_setCell _ _ _ _ h⟩

theorem lit_u32 {n : Nat} (h : n < 4294967296) : (Lit.int .u32 (n : Int)).wf = true := by
  have e1 : IntKind.u32.min = 0 := rfl
  have e2 : IntKind.u32.max = 4294967295 := rfl
  simp [Lit.wf, e1, e2]
  omega

theorem m_size {w : World} {b : Nat} {o : Obj} (h : w.heap[b]? = some o) : b < w.heap.size := (Array.getElem?_eq_some_iff.1 h).1

#print axioms look1_free
end Go.Proofs.YtnpkiknidmhciaaDoor
