/-
  awake of layer 16's statements; Pop. (No statement: contracts that the proofs of the statements use.)
-/
import Derived.Test.YteofjcmpelcmaaaJQue6
namespace Go.Proofs.Yteofjcmpelcmaaa
open Go.RowKit

/-- A message of a topic alone. -/
abbrev tpM (q : Int) (t : ByteArray) : Ms := ⟨⟨#[]⟩, 0, q, false, [], t, ⟨#[]⟩⟩
theorem tpM_at (w : World) (q : Int) (t : ByteArray) : MsAt w (tpM q t) (.slice none 0 0) := ⟨⟨none, 0, rfl, fun i x hx => by simp at hx⟩, by simp⟩
theorem no_block (p b : Nat) : ∀ g, (Value.slice none 0 0).ownBlock = some g → g ≠ p ∧ g ≠ b := fun g hg => by simp [Value.ownBlock] at hg
theorem fl32_two : (FloatKind.f32.format.order (floatOfInt .f32 ((0 : Nat) : Int)) 0 == some .eq) = true ∧ (FloatKind.f32.format.order (floatOfInt .f32 ((2 : Nat) : Int)) 1073741824 == some .eq) = true := by decide +kernel

/-- While awake runs. -/
structure AwQ (w : World) (p : Nat) (X : List Ms) (b : Nat) (W : World) : Prop where
  q : QAt W p b 2 X
  hp : w.heap.size ≤ p
  hb : w.heap.size ≤ b
  bel : Below w.heap.size w W
theorem AwQ.put {w W W' : World} {p b b' : Nat} {X X' : List Ms} (h : AwQ w p X b W) (k : QPut W p b 2 X' W' b') : AwQ w p X' b' W' := by
  have h1 := h.hp
  have h2 := h.hb
  have h3 := h.bel.size
  exact ⟨k.at', h.hp, by have := k.new; omega, h.bel.trans (k.mv.below h3 (fun k hk => by omega))⟩
theorem AwQ.below {w W W' : World} {p b : Nat} {X : List Ms} (h : AwQ w p X b W) (k : Below W.heap.size W W') : AwQ w p X b W' := ⟨h.q.below k, h.hp, h.hb, Below.next h.bel k⟩
theorem AwQ.moved {w W W' : World} {p b : Nat} {X : List Ms} (h : AwQ w p X b W) (q : QAt W' p b 2 X) (k : Mv (fun k => k = p ∨ k = b) W W') : AwQ w p X b W' := by
  have h1 := h.hp
  have h2 := h.hb
  exact ⟨q, h.hp, h.hb, h.bel.trans (k.below h.bel.size (fun k hk => by omega))⟩

set_option maxRecDepth 100000 in
set_option maxHeartbeats 4000000 in
theorem awake16_calls (w : World) : Calls Try.prog 28 #[] w fun e w' => e = .returned (.bool true) ∧ Below w.heap.size w w' := by
  go_enter Try.func28, Try.ntmps28
  go_wp2_with fail
  refine (qNew_calls w 2).mono ?_
  rintro e w1 ⟨p, rfl, q1, hp, b1⟩
  have A1 := Lib.hid (show AwQ w p [] p w1 from ⟨q1, hp, hp, b1⟩)
  clear q1 b1
  go_wp2_with fail
  refine (qPush_calls w1 p p 2 [] (tpM 0 ⟨#[97]⟩) _ A1.out.q (tpM_at _ _ _) (no_block _ _) (by simp)).mono ?_
  intro e w2 h2
  rcases h2 with ⟨_, rfl, b2, k2⟩ | ⟨h, _⟩ | ⟨h, _⟩
  rotate_left
  · exact absurd h (by decide)
  · exact absurd h (by decide)
  have A2 := Lib.hid (A1.out.put k2)
  clear k2
  go_wp2_with fail
  refine (qPush_calls w2 p b2 2 [tpM 0 ⟨#[97]⟩] (tpM 1 ⟨#[98]⟩) _ A2.out.q (tpM_at _ _ _) (no_block _ _) (by simp)).mono ?_
  intro e w3 h3
  rcases h3 with ⟨_, rfl, b3, k3⟩ | ⟨h, _⟩ | ⟨h, _⟩
  rotate_left
  · exact absurd h (by decide)
  · exact absurd h (by decide)
  have A3 := Lib.hid (A2.out.put k3)
  clear k3
  go_wp2_with fail
  refine (qPush_calls w3 p b3 2 [tpM 0 ⟨#[97]⟩, tpM 1 ⟨#[98]⟩] (tpM 1 ⟨#[99]⟩) _ A3.out.q (tpM_at _ _ _) (no_block _ _) (by simp)).mono ?_
  intro e w4 h4
  rcases h4 with ⟨h, _⟩ | ⟨_, h, _⟩ | ⟨_, _, X1, y, X2, v, b4, hX, hy, hX1, rfl, hm4, k4⟩
  · exact absurd h (by decide)
  · exact absurd h (by decide)
  have hX1n : X1 = [] := by
    cases X1 with
    | nil => rfl
    | cons z Z =>
      injection hX with hz _
      exact absurd (by rw [← hz]) (hX1 z (by simp))
  subst hX1n
  injection hX with e1 e2
  subst e1 e2
  obtain ⟨Ay, cy, rfl⟩ := hm4.ps.form
  have A4 := Lib.hid (A3.out.put k4)
  clear k4 hm4 hX1 hy
  have b5 := below_one w4 (.cells #[.string ⟨#[]⟩, .int .i64 0, .int .u8 0, .bool false, .slice Ay 0 cy, .string ⟨#[97]⟩, .string ⟨#[]⟩] 50)
  have A5 := Lib.hid (A4.out.below b5)
  have X5 := Lib.hid (heap_alloc_new w4 (.cells #[.string ⟨#[]⟩, .int .i64 0, .int .u8 0, .bool false, .slice Ay 0 cy, .string ⟨#[97]⟩, .string ⟨#[]⟩] 50))
  clear b5
  go_wp2_with fail
  refine (qPush_calls _ p b4 2 [tpM 1 ⟨#[98]⟩, tpM 1 ⟨#[99]⟩] (tpM 0 ⟨#[100]⟩) _ A5.out.q (tpM_at _ _ _) (no_block _ _) (by simp)).mono ?_
  generalize w4.alloc (.cells #[.string ⟨#[]⟩, .int .i64 0, .int .u8 0, .bool false, .slice Ay 0 cy, .string ⟨#[97]⟩, .string ⟨#[]⟩] 50) = w5 at *
  intro e w6 h6
  rcases h6 with ⟨h, _⟩ | ⟨_, _, v, rfl, hm6, q6, mv6⟩ | ⟨_, h, _⟩
  · exact absurd h (by decide)
  rotate_left
  · exact absurd rfl h
  obtain ⟨Ad, cd, rfl⟩ := hm6.ps.form
  have X6 := Lib.hid ((mv6.block _ (lt_of_block X5.out) (fun e => by have h1 := A4.out.q.lt; omega)).trans X5.out)
  have A6 := Lib.hid (A5.out.moved q6 mv6)
  clear hm6 q6 mv6
  have b7 := below_one w6 (.cells #[.string ⟨#[]⟩, .int .i64 0, .int .u8 0, .bool false, .slice Ad 0 cd, .string ⟨#[100]⟩, .string ⟨#[]⟩] 50)
  have A7 := Lib.hid (A6.out.below b7)
  have X7 := Lib.hid (heap_alloc_new w6 (.cells #[.string ⟨#[]⟩, .int .i64 0, .int .u8 0, .bool false, .slice Ad 0 cd, .string ⟨#[100]⟩, .string ⟨#[]⟩] 50))
  have Y7 := Lib.hid ((b7.block _ (lt_of_block X6.out)).trans X6.out)
  clear b7
  obtain ⟨d0, d1, d2, d3, d4, d5, d6, df⟩ := cells7 X7.out
  obtain ⟨c0, c1, c2, c3, c4, c5, c6, cf⟩ := cells7 Y7.out
  go_wp2_with fail
  generalize w6.alloc (.cells #[.string ⟨#[]⟩, .int .i64 0, .int .u8 0, .bool false, .slice Ad 0 cd, .string ⟨#[100]⟩, .string ⟨#[]⟩] 50) = w7 at *
  refine (qLen_calls w7 p b4 2 _ A7.out.q).mono ?_
  rintro e w8 ⟨rfl, rfl⟩
  go_wp2_with fail
  refine (qWeigh_calls w7 p b4 2 _ A7.out.q (by decide)).mono ?_
  rintro e w8 ⟨rfl, rfl⟩
  have hw : wV32 (lightL ([] ++ [tpM 1 ⟨#[98]⟩] ++ [tpM 1 ⟨#[99]⟩])) (heavyL ([] ++ [tpM 1 ⟨#[98]⟩] ++ [tpM 1 ⟨#[99]⟩])) = .complex .f32 (floatOfInt .f32 ((0 : Nat) : Int)) (floatOfInt .f32 ((2 : Nat) : Int)) := rfl
  obtain ⟨o1, o2⟩ := fl32_two
  have HB := Lib.hid A7.out.bel
  rw [hw]
  clear hw
  generalize floatOfInt .f32 ((0 : Nat) : Int) = z0 at *
  generalize floatOfInt .f32 ((2 : Nat) : Int) = z2 at *
  go_wp2
  go_ret
  exact ⟨rfl, HB.out⟩

#print axioms awake16_calls
end Go.Proofs.Yteofjcmpelcmaaa
