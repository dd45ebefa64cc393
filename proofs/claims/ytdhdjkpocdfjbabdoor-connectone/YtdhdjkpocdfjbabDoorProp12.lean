/-
  awake of layer 3's statements. (No statement: a contract that the proofs of the statements use.)
-/
import Derived.Test.YtdhdjkpocdfjbabDoorProp11
namespace Go.Proofs.YtdhdjkpocdfjbabDoor
open Go.RowKit

/-- The property that awake puts. -/
def aw : Pr := ⟨2, 9, ⟨#[]⟩, ⟨#[]⟩⟩
theorem aw_ok : aw.ok := ⟨by decide, by decide, by decide, by decide⟩
theorem aw_bytes : str ([] ++ propsL [aw]) = ⟨#[5, 2, 0, 0, 0, 9]⟩ := by decide +kernel
theorem aw_take : takeR (placeN 3 false) ⟨#[5, 2, 0, 0, 0, 9]⟩ 0 = ([aw], str [], 0) := by
  rw [← aw_bytes]
  have h := take_back (placeN 3 false) [aw] [] (by decide +kernel)
  rw [List.append_nil] at h
  rw [List.nil_append, h]
  have hb : bodyL [aw] = oneL aw ++ [] := by decide +kernel
  rw [hb, runA_step _ _ _ (oneL_ne aw (by decide) []), step_back _ _ aw [] aw_ok ⟨fun h => absurd h (by decide), fun h => absurd h (by decide)⟩ (by decide)]
  rw [if_neg (by decide +kernel), if_neg (by decide +kernel), if_neg (by decide +kernel)]
  rfl

theorem PropsAt.lit (w : World) (a : Pr) (t : TypeId) (cap : Nat) : PropsAt (w.alloc (.cells #[.int .i64 a.id, .int .u32 a.n, .string a.s, .string a.t] t)) (.slice (some ⟨w.heap.size, 0, none⟩) 1 cap) [a] := by
  refine ⟨_, cap, rfl, fun i x hx => ?_⟩
  cases i with
  | zero =>
    simp at hx
    subst hx
    exact ⟨w.heap.size, 0, rfl, by simp, by simp, by simp, by simp, by simp⟩
  | succ i => simp at hx

end Go.Proofs.YtdhdjkpocdfjbabDoor
