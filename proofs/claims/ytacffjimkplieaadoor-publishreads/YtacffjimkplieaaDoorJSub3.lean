/-
  Parse of subscribe. (No statement: contracts that the proofs of the statements use.)
-/
import Derived.Test.YtacffjimkplieaaDoorJSub2
import Derived.Deep.RegionLaw
import Derived.Deep.AppendLies
import Derived.Deep.LoopGhost
namespace Go.Proofs.YtacffjimkplieaaDoor
open Go.RowKit

theorem Tryd.infoSub : (Tryd.prog.info? 175).map (fun i => (i.zero, i.size, i.bytes)) = some (some (.agg #[.string ⟨#[]⟩, .int .u8 0, .bool false, .bool false, .int .u8 0]), 5, 24) := by kernel_rfl

/-- A row of Subs of the call's own. -/
def OwnS (B : Nat) (w : World) (v : Value) (L : List Sb) : Prop := w.ownsRow B 175 5 v L.length (L.flatMap sbC)
theorem OwnS.form {B : Nat} {w : World} {v : Value} {L : List Sb} (h : OwnS B w v L) : ∃ a c, v = .slice a L.length c := by
  rcases h.2 with ⟨rfl, h0⟩ | ⟨g, cap, cur, hv, _⟩
  · exact ⟨none, 0, by rw [h0]⟩
  · exact ⟨_, _, hv⟩
theorem OwnS.keep {B : Nat} {w w' : World} {v : Value} {L : List Sb} (h : OwnS B w v L) (hk : ∀ g, v.ownBlock = some g → B ≤ g → g < w.heap.size → w'.heap[g]? = w.heap[g]?) : OwnS B w' v L := by
  refine ⟨h.1, ?_⟩
  rcases h.2 with h | ⟨g, cap, cur, hv, hB, hg, rest⟩
  · exact .inl h
  · exact .inr ⟨g, cap, cur, hv, hB, (hk g (by rw [hv]; rfl) hB (lt_of_block hg)).trans hg, rest⟩
theorem OwnS.below {B : Nat} {w w' : World} {v : Value} {L : List Sb} (h : OwnS B w v L) (hb : Below w.heap.size w w') : OwnS B w' v L := h.keep (fun g _ _ hl => hb.block g hl)
theorem OwnS.chg {B p : Nat} {w w' : World} {v : Value} {L : List Sb} (h : OwnS B w v L) (hc : Chg p w w') (hp : p < B) : OwnS B w' v L := h.keep (fun g _ hB hl => hc.block g hl (fun e => by injection e; omega))
theorem OwnS.set {B b j : Nat} {w : World} {v y : Value} {L : List Sb} (h : OwnS B w v L) (hb : b < B) : OwnS B (w.setCell ⟨b, j, none⟩ y) v L := h.keep (fun g _ hB _ => Below.heap_setCell _ _ _ _ (by show g ≠ b; omega))
theorem OwnP.keepG {B : Nat} {e : TypeId} {w w' : World} {v : Value} {P : List Pr} (h : OwnP B e w v P) (hk : ∀ g, v.ownBlock = some g → B ≤ g → g < w.heap.size → w'.heap[g]? = w.heap[g]?) : OwnP B e w' v P := by
  refine ⟨h.1, ?_⟩
  rcases h.2 with h | ⟨g, cap, cur, hv, hB, hg, rest⟩
  · exact .inl h
  · exact .inr ⟨g, cap, cur, hv, hB, (hk g (by rw [hv]; rfl) hB (lt_of_block hg)).trans hg, rest⟩

/-- One part, as it is taken. -/
def stepS (s : ByteArray) (x : Int) : Sb × ByteArray × Int :=
  (sbOf (strT s x).1 (numL (rawT (strT s x).2.1 (strT s x).2.2 1).1.data.toList), (rawT (strT s x).2.1 (strT s x).2.2 1).2.1,
    subX2 (bits .and .u8 (numL (rawT (strT s x).2.1 (strT s x).2.2 1).1.data.toList) 3) (bits .and .u8 ((numL (rawT (strT s x).2.1 (strT s x).2.2 1).1.data.toList : Int) / 16) 3) (subX1 (numL (rawT (strT s x).2.1 (strT s x).2.2 1).1.data.toList) (rawT (strT s x).2.1 (strT s x).2.2 1).2.2))
theorem step_sub (s : ByteArray) (x : Int) : ∃ s1 x1 t x2 f b, SubOf s x f b (stepS s x).2.1 (stepS s x).2.2 s1 x1 t x2 ∧ sbOf f b = (stepS s x).1 :=
  ⟨_, _, _, _, _, _, ⟨rfl, rfl, rfl, rfl⟩, rfl⟩
/-- All of them. -/
def runS : Nat → List Sb → ByteArray → Int → List Sb × ByteArray × Int
  | 0, acc, s, x => (acc, s, x)
  | f + 1, acc, s, x => if x = 0 ∧ s.size ≠ 0 then runS f (acc ++ [(stepS s x).1]) (stepS s x).2.1 (stepS s x).2.2 else (acc, s, x)

/-- How many rounds may come. -/
def mS (s : ByteArray) (x : Int) : Nat := s.size + (if x = 0 then 1 else 0)

theorem rawT_left (s : ByteArray) (x n : Int) : (rawT s x n).2.1.size ≤ s.size := by
  unfold rawT
  split
  · exact Nat.le_refl _
  · split
    · exact Nat.le_refl _
    · split
      · exact Nat.le_refl _
      · simp
theorem strT_left (s : ByteArray) (x : Int) : (strT s x).2.1.size ≤ s.size := by
  unfold strT
  split <;> exact Nat.le_trans (rawT_left _ _ _) (rawT_left _ _ _)
theorem mS_lt (s : ByteArray) (_hz : s.size ≠ 0) : mS (stepS s 0).2.1 (stepS s 0).2.2 < mS s 0 := by
  have h1 := strT_left s 0
  have h2 := rawT_left (strT s 0).2.1 (strT s 0).2.2 1
  have h3 : (stepS s 0).2.1.size ≤ s.size := Nat.le_trans h2 h1
  unfold mS
  rw [if_pos rfl]
  by_cases hx : (stepS s 0).2.2 = 0
  · rw [if_pos hx]
    have hs : (stepS s 0).2.1.size < s.size := by
      rcases hf : strT s 0 with ⟨f, s1, x1⟩
      rcases ht : rawT s1 x1 1 with ⟨t, s', x2⟩
      have e1 : (stepS s 0).2.1 = s' := by unfold stepS; rw [hf]; dsimp only; rw [ht]
      have e2 : (stepS s 0).2.2 = subX2 (bits .and .u8 (numL t.data.toList) 3) (bits .and .u8 ((numL t.data.toList : Int) / 16) 3) (subX1 (numL t.data.toList) x2) := by unfold stepS; rw [hf]; dsimp only; rw [ht]
      rw [e1]
      rw [e2] at hx
      have hx2 : x2 = 0 := by
        unfold subX2 subX1 failed at hx
        split at hx
        · split at hx
          · split at hx <;> omega
          · omega
        · split at hx
          · split at hx
            · split at hx <;> omega
            · omega
          · split at hx
            · split at hx <;> omega
            · exact hx
      subst hx2
      obtain ⟨-, e3, z3⟩ := raw_invX (n := 1) ht
      have := congrArg List.length e3
      rw [List.length_append, z3, ba_size, ba_size] at this
      rw [hf] at h1
      dsimp only at h1
      omega
    omega
  · rw [if_neg hx]
    omega

theorem runS_fuel : ∀ (f : Nat) (acc : List Sb) (s : ByteArray) (x : Int), mS s x ≤ f → runS f acc s x = runS (mS s x) acc s x := by
  intro f
  induction f using Nat.strongRecOn with
  | ind f ih =>
    intro acc s x hm
    by_cases hc : x = 0 ∧ s.size ≠ 0
    · obtain ⟨rfl, hz⟩ := hc
      have hlt := mS_lt s hz
      obtain ⟨g, rfl⟩ : ∃ g, f = g + 1 := ⟨f - 1, by omega⟩
      obtain ⟨k, hk⟩ : ∃ k, mS s 0 = k + 1 := ⟨mS s 0 - 1, by omega⟩
      rw [hk, runS, runS, if_pos ⟨rfl, hz⟩, if_pos ⟨rfl, hz⟩, ih g (by omega) _ _ _ (by omega)]
      by_cases hgk : g = k
      · subst hgk; rw [ih g (by omega) _ _ _ (by omega)]
      · rw [ih k (by omega) _ _ _ (by omega)]
    · have : ∀ k, runS k acc s x = (acc, s, x) := fun k => by
        cases k with
        | zero => rfl
        | succ k => rw [runS, if_neg hc]
      rw [this, this]
def runA8 (acc : List Sb) (s : ByteArray) (x : Int) : List Sb × ByteArray × Int := runS (mS s x) acc s x
theorem runA8_step (acc : List Sb) (s : ByteArray) (hz : s.size ≠ 0) : runA8 acc s 0 = runA8 (acc ++ [(stepS s 0).1]) (stepS s 0).2.1 (stepS s 0).2.2 := by
  have hlt := mS_lt s hz
  obtain ⟨k, hk⟩ : ∃ k, mS s 0 = k + 1 := ⟨mS s 0 - 1, by omega⟩
  unfold runA8
  rw [hk, runS, if_pos ⟨rfl, hz⟩]
  exact runS_fuel k _ _ _ (by omega)
theorem runA8_done (acc : List Sb) (s : ByteArray) (x : Int) (hc : ¬ (x = 0 ∧ s.size ≠ 0)) : runA8 acc s x = (acc, s, x) := by
  unfold runA8
  cases mS s x with
  | zero => rfl
  | succ k => rw [runS, if_neg hc]

#print axioms runA8_step
end Go.Proofs.YtacffjimkplieaaDoor
