/-
  A map from identifiers to numbers that the call makes. (No statement: laws that the proofs of the statements use.)
-/
import Derived.Test.YticlenpgokajdaaJIds3
import Derived.Maps.OwnOps
namespace Go.Proofs.Yticlenpgokajdaa
open Go.RowKit Go.Maps

theorem zero_int (w : World) : (zeroValue 3).run Try.prog w = .ok (.int .i64 0) w := by kernel_rfl

/-- Block b is a map in which f says what stands at each identifier (0: nothing, or 0). -/
def TimesAt (w : World) (b n : Nat) (f : Nat → Int) : Prop :=
  ∃ D : DataW Unit, w.ownsMap Try.prog 22 (plainElem Try.prog 3) b n D ∧ ∀ i : Nat, D.atKey (.int .u32 (i : Int)) (.lit (.int .i64 0)) = .lit (.int .i64 (f i))

theorem TimesAt.keep {w w' : World} {b n : Nat} {f : Nat → Int} (h : TimesAt w b n f) (hb : w'.heap[b]? = w.heap[b]?) : TimesAt w' b n f := by
  obtain ⟨D, ⟨es, clock, h1, F, hs, hD⟩, r⟩ := h
  exact ⟨D, ⟨es, clock, hb.trans h1, F, hs, hD⟩, r⟩
theorem TimesAt.lt {w : World} {b n : Nat} {f : Nat → Int} (h : TimesAt w b n f) : b < w.heap.size := by
  obtain ⟨D, h1, _⟩ := h
  exact h1.lt
theorem TimesAt.made (w : World) : TimesAt (w.alloc (.map #[] 0)) w.heap.size 0 (fun _ => 0) :=
  ⟨_, World.ownsMap_made _ _ _ _, fun _ => rfl⟩

theorem times_put {w w' : World} {b n i : Nat} {f g : Nat → Int} {v : Int} {D : DataW Unit} (hown : w.ownsMap Try.prog 22 (plainElem Try.prog 3) b n D) (hat : ∀ i : Nat, D.atKey (.int .u32 (i : Int)) (.lit (.int .i64 0)) = .lit (.int .i64 (f i)))
    (h' : w'.ownsMap Try.prog 22 (plainElem Try.prog 3) b (n + 1) (D.put (.int .u32 (i : Int)) (.lit (.int .i64 v)))) (hg : ∀ j, g j = if j = i then v else f j) : TimesAt w' b (n + 1) g := by
  refine ⟨_, h', fun j => ?_⟩
  rw [hg j]
  by_cases e : j = i
  · subst e
    rw [atKey_put_same hown.isMap (by simp [WideAt.IsKeyLit]), if_pos rfl]
  · rw [atKey_put_other (key_ne e), hat j, if_neg e]

theorem TimesAt.look {w : World} {b n : Nat} {f : Nat → Int} (h : TimesAt w b n f) {i : Nat} (hi : i < 4294967296) {v : Int} (hv : f i = v) :
    (Instr.lookup 41 (.map (some b)) (.int .u32 (i : Int)) false).run Try.prog w = .ok (.int .i64 v) w := by
  obtain ⟨D, hown, hat⟩ := h
  obtain ⟨c, hrun, hc, _⟩ := hown.lookup_int law_u32 Try.underlying41 Try.underlying3 (zero_int _) (key_u32 hi)
  rw [hat i] at hc
  have e : c = v := by rw [← hv]; simpa using hc.symm
  rw [hrun, e]

#print axioms times_put
end Go.Proofs.Yticlenpgokajdaa
