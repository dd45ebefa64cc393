/-
  Push, as the statements without the document's words want it. (No statement: contracts that the proofs of the statements use.)
-/
import Derived.Test.YteofjcmpelcmaaaJQue7
import Derived.Test.YteofjcmpelcmaaaJMsg2
namespace Go.Proofs.Yteofjcmpelcmaaa
open Go.RowKit

theorem run_w_int (w : World) (n : Nat) (hn : n ≤ 64) : (convert 92 3 (.float .f32 (floatOfInt .f32 n))).run Try.prog w = .ok (.int .i64 n) w := by
  have h := fl_int ⟨n, by omega⟩
  dsimp only at h
  exact run_convert_float_int w _ _ _ _ _ _ (by kernel_rfl) Try.underlying3 h

/-- What Push does, in short. -/
structure PushS (w : World) (p b : Nat) (most : Int) (X : List Ms) (m : Ms) (w' : World) (X' : List Ms) (b' : Nat) (ok : Bool) (xm : Ms) (xv : Value) : Prop where
  q : QAt w' p b' most X'
  mv : Mv (fun k => k = p ∨ k = b) w w'
  new : b' = b ∨ w.heap.size ≤ b'
  len : (X'.length : Int) ≤ most
  heavy : heavyL X ≤ heavyL X'
  drop : ok = true → xm.q ≠ 0 → ¬ ((heavyL X : Int) < most)
  sub : X'.Sublist (X ++ [m])
  room : (X.length : Int) < most → ok = false ∧ X' = X ++ [m]
  full : ¬ (X.length : Int) < most → ok = true ∧ X'.length = X.length
  xv : ∃ A n c, xv = Value.slice A n c

theorem push_s {w : World} {p b : Nat} {most : Int} {X : List Ms} {m : Ms} {e : Ending} {w' : World} (h : QPush w p b most X m e w') (hX : (X.length : Int) ≤ most) :
    ∃ X' b' ok xm xv, e = .returned (.tuple #[msV xm xv, .bool ok]) ∧ PushS w p b most X m w' X' b' ok xm xv := by
  rcases h with ⟨h1, rfl, b', k⟩ | ⟨h1, h2, v, rfl, hm, hq, hmv⟩ | ⟨h1, h2, X1, y, X2, v, b', rfl, hy, hX1, rfl, hm, k⟩
  · exact ⟨X ++ [m], b', false, _, _, rfl, ⟨k.at', k.mv, k.new, by simp; omega, by rw [heavy_app]; omega, (fun h => by cases h), List.Sublist.refl _, fun _ => ⟨rfl, rfl⟩, fun h => absurd h1 h, ⟨_, _, _, rfl⟩⟩⟩
  · obtain ⟨A, c, rfl⟩ := hm.ps.form
    refine ⟨X, b, true, m, _, rfl, ⟨hq, hmv, .inl rfl, hX, Nat.le_refl _, fun _ h => ?_, List.sublist_append_left _ _, fun h => absurd h h1, fun _ => ⟨rfl, rfl⟩, ⟨_, _, _, rfl⟩⟩⟩
    rcases h2 with h2 | h2
    · exact absurd h2 h
    · have := light_heavy X
      omega
  · obtain ⟨A, c, rfl⟩ := hm.ps.form
    refine ⟨X1 ++ X2 ++ [m], b', true, y, _, rfl, ⟨k.at', k.mv, k.new, by simp at hX ⊢; omega, ?_, fun _ h => absurd hy h, ?_, fun h => absurd h h1, fun _ => ⟨rfl, by simp⟩, ⟨_, _, _, rfl⟩⟩⟩
    · rw [heavy_cut, heavy_app (X1 ++ X2)]
      have : heavyL [y] = 0 := by simp [heavyL, hy]
      omega
    · refine List.Sublist.append ?_ (List.Sublist.refl _)
      exact List.Sublist.append (List.Sublist.refl _) (List.sublist_cons_self _ _)

/-- While the queue of a statement is pushed to. -/
structure RunQ (w : World) (p : Nat) (most : Int) (X : List Ms) (b : Nat) (W : World) : Prop where
  q : QAt W p b most X
  len : (X.length : Int) ≤ most
  hp : w.heap.size ≤ p
  hb : w.heap.size ≤ b
  bel : Below w.heap.size w W
theorem RunQ.below {w W W' : World} {p b : Nat} {most : Int} {X : List Ms} (h : RunQ w p most X b W) (k : Below W.heap.size W W') : RunQ w p most X b W' := ⟨h.q.below k, h.len, h.hp, h.hb, Below.next h.bel k⟩
theorem RunQ.push {w W W' : World} {p b b' : Nat} {most : Int} {X X' : List Ms} {m xm : Ms} {ok : Bool} {xv : Value} (h : RunQ w p most X b W) (k : PushS W p b most X m W' X' b' ok xm xv) : RunQ w p most X' b' W' := by
  have h1 := h.hp
  have h2 := h.hb
  have h3 := h.bel.size
  exact ⟨k.q, k.len, h.hp, by have := k.new; omega, h.bel.trans (k.mv.below h3 (fun k hk => by omega))⟩

#print axioms push_s
end Go.Proofs.Yteofjcmpelcmaaa
