/-
  awake of layer 3's statements. (No statement: a contract that the proofs of the statements use.)
-/
import Derived.Test.YtmkajnephkaamaaDoorProp11
namespace Go.Proofs.YtmkajnephkaamaaDoor
open Go.RowKit

/-- The property that awake puts. -/
def aw : Pr := ⟨2, 9, ⟨#[]⟩, ⟨#[]⟩⟩
theorem aw_ok : aw.ok := ⟨by decide, by decide, by decide, by decide⟩
theorem aw_bytes : str ([] ++ propsL [aw]) = ⟨#[5, 2, 0, 0, 0, 9]⟩ := by decide +kernel
theorem aw_take : takeR (placeN 3 false) ⟨#[5, 2, 0, 0, 0, 9]⟩ 0 = ([aw], str [], 0) := by
  rw [← aw_bytes]
  have h := take_back (placeN 3 false) [aw] [] (by decide +kernel)
  rw [List.append_nil] at h
  rw [List.nil_append, h]
  have hb : bodyL [aw] = oneL aw ++ [] := by decide +kernel
  rw [hb, runA_step _ _ _ (oneL_ne aw (by decide) []), step_back _ _ aw [] aw_ok ⟨fun h => absurd h (by decide), fun h => absurd h (by decide)⟩ (by decide)]
  rw [if_neg (by decide +kernel), if_neg (by decide +kernel), if_neg (by decide +kernel)]
  rfl

theorem PropsAt.lit (w : World) (a : Pr) (t : TypeId) (cap : Nat) : PropsAt (w.alloc (.cells #[.int .i64 a.id, .int .u32 a.n, .string a.s, .string a.t] t)) (.slice (some ⟨w.heap.size, 0, none⟩) 1 cap) [a] := by
  refine ⟨_, cap, rfl, fun i x hx => ?_⟩
  cases i with
  | zero =>
    simp at hx
    subst hx
    exact ⟨w.heap.size, 0, rfl, by simp, by simp, by simp, by simp, by simp⟩
  | succ i => simp at hx

set_option maxRecDepth 100000 in
set_option maxHeartbeats 1000000 in
theorem awake3_calls (w : World) (hT : Tabs w) : Calls Tryd.prog 9 #[] w fun e w' => e = .returned (.bool true) ∧ Below w.heap.size w w' := by
  have HT := Lib.hid hT
  clear hT
  go_enter Tryd.func9, Tryd.ntmps9
  go_wp2_with fail
  have ho := (OutAt.new w).alloc (.cells #[.int .i64 2, .int .u32 9, .string ⟨#[]⟩, .string ⟨#[]⟩] 47)
  have hp : PropsAt ((w.alloc (.cells #[.slice none 0 0] 42)).alloc (.cells #[.int .i64 2, .int .u32 9, .string ⟨#[]⟩, .string ⟨#[]⟩] 47)) (.slice (some ⟨w.heap.size + 1, 0, none⟩) 1 1) [aw] := by
    have h := PropsAt.lit (w.alloc (.cells #[.slice none 0 0] 42)) aw 47 1
    rw [show (w.alloc (.cells #[.slice none 0 0] 42)).heap.size = w.heap.size + 1 by simp] at h
    exact h
  have b0 := below_two w (.cells #[.slice none 0 0] 42) (.cells #[.int .i64 2, .int .u32 9, .string ⟨#[]⟩, .string ⟨#[]⟩] 47)
  have hok : ∀ p ∈ [aw], p.ok := fun p hp => by simp at hp; subst hp; exact aw_ok
  refine (put3_calls _ w.heap.size none [] _ [aw] hp hok (by decide) ho (by decide)).mono ?_
  rintro e w1 ⟨rfl, r1, h1, s1⟩
  have hb1 : Below w.heap.size w w1 := b0.trans (s1.below (by simp; omega) (Nat.le_refl _) (fun g hg => by cases hg))
  have hr1 := s1.row_ge (B := w.heap.size) (by simp; omega) (fun g hg => by cases hg)
  have hby := aw_bytes
  generalize [] ++ propsL [aw] = D at *
  have HBY := Lib.hid hby
  have HB1 := Lib.hid hb1
  have HR1 := Lib.hid hr1
  clear ho hp b0 hok s1 hby hb1 hr1
  go_wp2_with fail
  refine (text_calls _ _ r1 _ h1).mono ?_
  rw [HBY.out]
  rintro e w2 ⟨rfl, rfl⟩
  go_wp2_with fail
  refine (over_calls _ _).mono ?_
  rintro e w2 ⟨rfl, rfl⟩
  have i2 := InAt.new w1 ⟨#[5, 2, 0, 0, 0, 9]⟩
  have b2 := below_one w1 (.cells #[.string ⟨#[5, 2, 0, 0, 0, 9]⟩, .int .i64 0] 63)
  have h2 := h1.below b2
  have hz1 := HB1.out.size
  have HB2 := Lib.hid (Below.next HB1.out b2)
  have ht2 := HT.out.below HB2.out
  have hl1 := h1.lt
  have HRL := Lib.hid (h1.row_lt)
  clear h1 b2 HB1 HT
  generalize w1.alloc (.cells #[.string ⟨#[5, 2, 0, 0, 0, 9]⟩, .int .i64 0] 63) = w2 at *
  generalize w1.heap.size = p at *
  go_wp2_with fail
  refine (take3_calls _ p _ 0 3 false i2 ht2).mono ?_
  rw [aw_take]
  rintro e w3 ⟨v, rfl, hown, _, i3, c3⟩
  have hP := hown.props
  obtain ⟨a, c, rfl⟩ := hown.form
  have h3 : OutAt w3 w.heap.size r1 D := h2.keep (c3.block _ h2.lt (fun e => by injection e; omega)) (fun g hg => c3.block g (h2.row_lt g hg) (fun e => by injection e with e; have := HRL.out g hg; omega))
  have HB3 := Lib.hid (HB2.out.trans (c3.below HB2.out.size hz1))
  dsimp only at hP
  clear hown i3 c3 h2 i2 ht2 HB2 HRL HR1
  go_wp2_with fail
  refine (text_calls _ _ r1 _ h3).mono ?_
  rw [HBY.out]
  rintro e w4 ⟨rfl, rfl⟩
  clear h3
  go_wp2_with fail
  refine (num_calls _ _ [aw] 2 0 hP (by decide)).mono ?_
  rw [show numP [aw] 2 0 = 9 from rfl]
  rintro e w5 ⟨rfl, b5⟩
  have hP5 := hP.below b5
  have HB5 := Lib.hid (HB3.out.trans (b5.mono HB3.out.size))
  clear hP b5 HB3
  go_wp2_with fail
  refine (num_calls _ _ [aw] 1 7 hP5 (by decide)).mono ?_
  rw [show numP [aw] 1 7 = 7 from rfl]
  rintro e w6 ⟨rfl, b6⟩
  have HB6 := Lib.hid (HB5.out.trans (b6.mono HB5.out.size))
  clear hP5 b6 HB5
  go_wp2_with fail
  refine (kind3_calls _ 38).mono ?_
  rw [show (ruleL 38).kind = 7 from rfl]
  rintro e w7 ⟨rfl, b7⟩
  have HB7 := Lib.hid (HB6.out.trans (b7.mono HB6.out.size))
  clear b7 HB6
  go_wp2
  go_ret
  exact ⟨rfl, HB7.out⟩

#print axioms awake3_calls
end Go.Proofs.YtmkajnephkaamaaDoor
