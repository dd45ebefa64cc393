/-
  Packets in memory; all of a stream. (No statement: contracts that the proofs of the statements use.)
-/
import Derived.Test.YtdhdjkpocdfjbaaFr7
import Derived.Deep.QuietTactic
import Derived.BigQuiet
import Derived.WalkLawsBesides
namespace Go.Proofs.Ytdhdjkpocdfjbaa
open Go.RowKit

/-- A packet: its kind, its flags, its body. -/
abbrev Fm : Type := Nat × Nat × List UInt8
/-- The cells of a packet; its value. -/
def frC (p : Fm) : List Value := [.int .i64 p.1, .int .i64 p.2.1, .string (str p.2.2)]
def frV (p : Fm) : Value := .agg #[.int .i64 p.1, .int .i64 p.2.1, .string (str p.2.2)]

theorem frC_at : ∀ (P : List Fm) (i k : Nat), k < 3 → (P.flatMap frC)[i * 3 + k]? = (P[i]?).bind fun p => (frC p)[k]?
  | [], i, k, _ => by simp
  | p :: P, 0, k, hk => by
    rw [List.flatMap_cons, List.getElem?_append_left (by simp [frC]; omega)]
    simp
  | p :: P, i + 1, k, hk => by
    rw [List.flatMap_cons, List.getElem?_append_right (by simp [frC]; omega)]
    have : (i + 1) * 3 + k - (frC p).length = i * 3 + k := by simp [frC]; omega
    rw [this, frC_at P i k hk]
    simp

/-- A slice that reads as a list of packets. -/
def FrsAt (W : World) (v : Value) (P : List Fm) : Prop :=
  ∃ A cap, v = .slice A P.length cap ∧ ∀ (i : Nat) (x : Fm), P[i]? = some x →
    ∃ b off, A = some ⟨b, off, none⟩ ∧ b < W.heap.size ∧ W.cell? ⟨b, off + i * 3, none⟩ = some (.int .i64 x.1) ∧ W.cell? ⟨b, off + i * 3 + 1, none⟩ = some (.int .i64 x.2.1) ∧ W.cell? ⟨b, off + i * 3 + 2, none⟩ = some (.string (str x.2.2))

theorem FrsAt.below {W W' : World} {v : Value} {P : List Fm} (h : FrsAt W v P) (hb : Below W.heap.size W W') : FrsAt W' v P := by
  obtain ⟨A, cap, rfl, hc⟩ := h
  refine ⟨A, cap, rfl, fun i x hx => ?_⟩
  obtain ⟨b, off, hA, hl, c0, c1, c2⟩ := hc i x hx
  exact ⟨b, off, hA, Nat.lt_of_lt_of_le hl hb.size, (hb.cell (p := ⟨b, _, none⟩) hl).trans c0, (hb.cell (p := ⟨b, _, none⟩) hl).trans c1, (hb.cell (p := ⟨b, _, none⟩) hl).trans c2⟩

/-- A row of packets of the call's own, from block B on; its elements' type is e. -/
def OwnF (B : Nat) (e : TypeId) (w : World) (v : Value) (P : List Fm) : Prop := w.ownsRow B e 3 v P.length (P.flatMap frC)

theorem OwnF.frs {B : Nat} {e : TypeId} {w : World} {v : Value} {P : List Fm} (h : OwnF B e w v P) : FrsAt w v P := by
  rcases h.2 with ⟨rfl, h0⟩ | ⟨g, cap, cur, rfl, _, hg, hrest⟩
  · have : P = [] := List.eq_nil_of_length_eq_zero h0
    subst this
    exact ⟨none, 0, rfl, fun i x hx => by simp at hx⟩
  · refine ⟨_, cap, rfl, fun i x hx => ⟨g, 0, rfl, lt_of_block hg, ?_⟩⟩
    have hi : i < P.length := (List.getElem?_eq_some_iff.1 hx).1
    have hcell : ∀ k, k < 3 → w.cell? ⟨g, i * 3 + k, none⟩ = (frC x)[k]? := by
      intro k hk
      have := World.ownsRow.cellAt h (i * 3 + k) (by omega)
      rw [this, frC_at P i k hk, hx]
      rfl
    refine ⟨?_, ?_, ?_⟩
    · rw [Nat.zero_add]; exact hcell 0 (by omega)
    · rw [Nat.zero_add]; exact hcell 1 (by omega)
    · rw [Nat.zero_add]; exact hcell 2 (by omega)
theorem OwnF.form {B : Nat} {e : TypeId} {w : World} {v : Value} {P : List Fm} (h : OwnF B e w v P) : ∃ a c, v = .slice a P.length c := by
  rcases h.2 with ⟨rfl, h0⟩ | ⟨g, cap, _, rfl, _⟩
  · exact ⟨none, 0, by rw [h0]⟩
  · exact ⟨_, _, rfl⟩
theorem OwnF.nil (B : Nat) (e : TypeId) (w : World) : OwnF B e w (.slice none 0 0) [] := World.ownsRow_nil _ _ _ _
theorem OwnF.empty (w : World) (e : TypeId) : OwnF w.heap.size e (w.alloc (.cells #[] e)) (.slice (some ⟨w.heap.size, 0, none⟩) 0 0) [] :=
  ⟨rfl, .inr ⟨w.heap.size, 0, #[], rfl, Nat.le_refl _, heap_alloc_new w _, Nat.le_refl _, Nat.zero_le _, rfl, rfl⟩⟩
theorem OwnF.mono {B C : Nat} {e : TypeId} {w : World} {v : Value} {P : List Fm} (h : OwnF B e w v P) (hc : C ≤ B) : OwnF C e w v P := by
  refine ⟨h.1, ?_⟩
  rcases h.2 with h | ⟨g, cap, cur, hv, hb, rest⟩
  · exact .inl h
  · exact .inr ⟨g, cap, cur, hv, Nat.le_trans hc hb, rest⟩
theorem OwnF.below {B : Nat} {e : TypeId} {w w' : World} {v : Value} {P : List Fm} (h : OwnF B e w v P) (hb : Below w.heap.size w w') : OwnF B e w' v P := by
  refine ⟨h.1, ?_⟩
  rcases h.2 with h | ⟨g, cap, cur, hv, hB, hg, rest⟩
  · exact .inl h
  · exact .inr ⟨g, cap, cur, hv, hB, (hb.block g (lt_of_block hg)).trans hg, rest⟩
/-- A call on a Reader leaves a row of packets as it was. -/
theorem OwnF.read {B q : Nat} {e : TypeId} {w w' : World} {v : Value} {P : List Fm} {r r' : Option Nat} {most : Int} {bs : List UInt8} {x : Int} (h : OwnF B e w v P) (hr : RdAt w q r most bs x) (hs : RStep w w' q r r') (h1 : e ≠ 53) (h2 : e ≠ 5) : OwnF B e w' v P := by
  refine ⟨h.1, ?_⟩
  rcases h.2 with h | ⟨g, cap, cur, hv, hB, hg, rest⟩
  · exact .inl h
  · obtain ⟨f1, f2⟩ := hr.far hg h1 h2
    exact .inr ⟨g, cap, cur, hv, hB, (hs.block g (lt_of_block hg) f1 f2).trans hg, rest⟩
/-- A row that has one more. -/
theorem own_snocF {B : Nat} {e : TypeId} {w : World} {v : Value} {acc : List Fm} {x : Fm} (h : w.ownsRow B e 3 v (acc.length + 1) (acc.flatMap frC ++ [.int .i64 x.1, .int .i64 x.2.1, .string (str x.2.2)])) : OwnF B e w v (acc ++ [x]) := by
  unfold OwnF
  rw [show (acc ++ [x]).length = acc.length + 1 by simp, List.flatMap_append]
  exact h
theorem three_new (w : World) (a b c : Value) (t : TypeId) : ∀ j u, [a, b, c][j]? = some u → (w.alloc (.cells #[a, b, c] t)).cell? ((⟨w.heap.size, 0, none⟩ : Addr).add j) = some u := by
  intro j u hj
  match j, hj with
  | 0, hj => simp at hj; subst hj; simp [Addr.add]
  | 1, hj => simp at hj; subst hj; simp [Addr.add]
  | 2, hj => simp at hj; subst hj; simp [Addr.add]

theorem Try.infoFrame : (Try.prog.info? 37).map (fun i => (i.zero, i.size, i.bytes)) = some (some (.agg #[.int .i64 0, .int .i64 0, .string ⟨#[]⟩]), 3, 32) := by kernel_rfl
theorem Try.infoRFrame : (Try.prog.info? 47).map (fun i => (i.zero, i.size, i.bytes)) = some (some (.agg #[.int .i64 0, .int .i64 0, .string ⟨#[]⟩]), 3, 32) := by kernel_rfl

/-- All packets of bytes: these, the error behind them, what is left ahead of it. -/
def runF (most : Int) : Nat → List UInt8 → List Fm × Int × List UInt8
  | 0, bs => ([], 0, bs)
  | n + 1, bs => if (nextF most bs).2 ≠ 0 then ([], (nextF most bs).2, bs)
    else ((nextF most bs).1 :: (runF most n (leftR (nextF most bs).1 0 bs)).1, (runF most n (leftR (nextF most bs).1 0 bs)).2)

theorem runF_end (most : Int) (n : Nat) (bs : List UInt8) (F : Fm) (y : Int) (h : nextF most bs = (F, y)) (hy : y ≠ 0) : runF most (n + 1) bs = ([], y, bs) := by
  rw [runF, h]; dsimp only; rw [if_pos hy]
theorem runF_go (most : Int) (n : Nat) (bs : List UInt8) (F : Fm) (h : nextF most bs = (F, 0)) : runF most (n + 1) bs = (F :: (runF most n (leftR F 0 bs)).1, (runF most n (leftR F 0 bs)).2) := by
  rw [runF, h]; dsimp only; rw [if_neg (by simp)]
theorem left_lt (most : Int) (bs : List UInt8) (F : Fm) (h : nextF most bs = (F, 0)) : (leftR F 0 bs).length < bs.length := by
  obtain ⟨k, f, b⟩ := F
  obtain ⟨_, h2, _⟩ := next_parts h
  unfold leftR
  rw [if_pos rfl]
  dsimp only
  rw [List.length_drop]
  omega
/-- With enough rounds there is an error at last, and nothing more of them matters. -/
theorem runF_err (most : Int) : ∀ (n : Nat) (bs : List UInt8), bs.length < n → (runF most n bs).2.1 ≠ 0
  | 0, bs, h => by omega
  | n + 1, bs, h => by
    generalize hF : nextF most bs = R
    obtain ⟨F, y⟩ := R
    by_cases hy : y = 0
    · subst hy
      rw [runF_go most n bs F hF]
      exact runF_err most n _ (by have := left_lt most bs F hF; omega)
    · rw [runF_end most n bs F y hF hy]
      exact hy
theorem runF_fuel (most : Int) : ∀ (n m : Nat) (bs : List UInt8), bs.length < n → bs.length < m → runF most n bs = runF most m bs
  | 0, m, bs, h, _ => by omega
  | n + 1, 0, bs, _, h => by omega
  | n + 1, m + 1, bs, h1, h2 => by
    generalize hF : nextF most bs = R
    obtain ⟨F, y⟩ := R
    by_cases hy : y = 0
    · subst hy
      rw [runF_go most n bs F hF, runF_go most m bs F hF, runF_fuel most n m _ (by have := left_lt most bs F hF; omega) (by have := left_lt most bs F hF; omega)]
    · rw [runF_end most n bs F y hF hy, runF_end most m bs F y hF hy]
theorem runF_len (most : Int) : ∀ (n : Nat) (bs : List UInt8), (runF most n bs).1.length ≤ n
  | 0, bs => by simp [runF]
  | n + 1, bs => by
    generalize hF : nextF most bs = R
    obtain ⟨F, y⟩ := R
    by_cases hy : y = 0
    · subst hy
      rw [runF_go most n bs F hF]
      have := runF_len most n (leftR F 0 bs)
      simp; omega
    · rw [runF_end most n bs F y hF hy]
      simp

#print axioms runF_fuel
end Go.Proofs.Ytdhdjkpocdfjbaa
