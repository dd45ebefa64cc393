/-
  The calls of queue.Queue: Pop. (No statement: contracts that the proofs of the statements use.)
-/
import Derived.Test.YteofjcmpelcmaaaJQue8
namespace Go.Proofs.Yteofjcmpelcmaaa
open Go.RowKit

/-- What Pop answers, and leaves. -/
def QPop (w : World) (p b : Nat) (most : Int) (X : List Ms) (e : Ending) (w' : World) : Prop :=
  (X = [] ∧ e = .returned (.tuple #[msV ⟨⟨#[]⟩, 0, 0, false, [], ⟨#[]⟩, ⟨#[]⟩⟩ (.slice none 0 0), .bool false]) ∧ QAt w' p b most X ∧ Below w.heap.size w w') ∨
  (∃ m X2 v, X = m :: X2 ∧ e = .returned (.tuple #[msV m v, .bool true]) ∧ MsAt w' m v ∧ QAt w' p b most X2 ∧ Mv (fun k => k = p ∨ k = b) w w')

set_option maxRecDepth 100000 in
set_option maxHeartbeats 4000000 in
theorem qPop_calls (w : World) (p b : Nat) (most : Int) (X : List Ms) (h : QAt w p b most X) (hX : X.length ≤ 60) :
    Calls Try.prog 35 #[.pointer (some ⟨p, 0, none⟩)] w (QPop w p b most X) := by
  have hb0 := below_one w (.cells #[.string ⟨#[]⟩, .int .i64 0, .int .u8 0, .bool false, .slice none 0 0, .string ⟨#[]⟩, .string ⟨#[]⟩] 50)
  have hx0 := heap_alloc_new w (.cells #[.string ⟨#[]⟩, .int .i64 0, .int .u8 0, .bool false, .slice none 0 0, .string ⟨#[]⟩, .string ⟨#[]⟩] 50)
  have hq := h.below hb0
  have hlt := h.lt
  have HB0 := Lib.hid hb0
  have HX0 := Lib.hid hx0
  have HQ := Lib.hid hq
  have hs := World.size_alloc w (.cells #[.string ⟨#[]⟩, .int .i64 0, .int .u8 0, .bool false, .slice none 0 0, .string ⟨#[]⟩, .string ⟨#[]⟩] 50)
  have HS := Lib.hid hs
  clear h hb0 hx0 hq hs
  go_enter Try.func35, Try.ntmps35
  go_wp2_with fail
  generalize w.alloc (.cells #[.string ⟨#[]⟩, .int .i64 0, .int .u8 0, .bool false, .slice none 0 0, .string ⟨#[]⟩, .string ⟨#[]⟩] 50) = w1 at *
  refine (qLen_calls w1 p b most X HQ.out).mono ?_
  rintro e w2 ⟨rfl, rfl⟩
  cases X with
  | nil =>
    obtain ⟨d0, d1, d2, d3, d4, d5, d6, df⟩ := cells7 HX0.out
    go_wp2
    change bodyPost _ _ _ _ _ (put7 w1 w.heap.size 0 _ _ _ _ _ _ _)
    have hfin := put7_block (a0 := .string ⟨#[]⟩) (a1 := .int .i64 0) (a2 := .int .u8 0) (a3 := .bool false) (a4 := .slice none 0 0) (a5 := .string ⟨#[]⟩) (a6 := .string ⟨#[]⟩) HX0.out
    obtain ⟨t0, t1, t2, t3, t4, t5, t6, tf⟩ := cells7 hfin
    refine bodyPost_ret (v := .tuple #[msV ⟨⟨#[]⟩, 0, 0, false, [], ⟨#[]⟩, ⟨#[]⟩⟩ (.slice none 0 0), .bool false]) ?_ rfl (.inl ⟨rfl, rfl, HQ.out.box ⟨_, _, _, _, _, _, _, _, HX0.out⟩ put7_size (fun _ hk => put7_other hk) (by omega) (by omega), put7_below HB0.out (Nat.le_refl _)⟩)
    simp [results, Try.results35, go_sem, t0, t1, t2, t3, t4, t5, t6]
  | cons m X2 =>
    have HT := Lib.hid (qTake_calls w1 p b most [] X2 m HQ.out (by simp at hX ⊢; omega))
    have hne : ((m :: X2).length : Int) ≠ 0 := by simp; omega
    have hnb : (((m :: X2).length : Int) == 0) = false := by simp; omega
    generalize (m :: X2).length = NL at *
    go_wp2_with fail
    refine HT.out.mono ?_
    rintro e w3 ⟨v, rfl, hm3, hf3, hq3, hmv3⟩
    obtain ⟨A3, c3, rfl⟩ := hm3.ps.form
    have hx3 := (hmv3.block _ (lt_of_block HX0.out) (fun e => by omega)).trans HX0.out
    have hbx : BoxM w3 w.heap.size := ⟨_, _, _, _, _, _, _, _, hx3⟩
    have HP := Lib.hid (show QPop w p b most (m :: X2) (.returned (.tuple #[msV m (.slice A3 m.ps.length c3), .bool true])) (put7 w3 w.heap.size 0 (.string m.src) (.int .i64 m.tick) (.int .u8 m.q) (.bool m.rt) (.slice A3 m.ps.length c3) (.string m.tp) (.string m.pl)) from
      .inr ⟨m, X2, _, rfl, rfl, hm3.box hbx put7_size (fun _ hk => put7_other hk), hq3.box hbx put7_size (fun _ hk => put7_other hk) (by omega) (by omega), ((Mv.of_below HB0.out).trans hmv3).put7 (.inr (Nat.le_refl _))⟩)
    have HX3 := Lib.hid hx3
    obtain ⟨d0, d1, d2, d3, d4, d5, d6, df⟩ := cells7 hx3
    clear hm3 hf3 hq3 hmv3 hx3 hbx
    go_wp2
    change bodyPost _ _ _ _ _ (put7 w3 w.heap.size 0 _ _ _ _ _ _ _)
    have hfin := put7_block (a0 := .string m.src) (a1 := .int .i64 m.tick) (a2 := .int .u8 m.q) (a3 := .bool m.rt) (a4 := .slice A3 m.ps.length c3) (a5 := .string m.tp) (a6 := .string m.pl) HX3.out
    obtain ⟨t0, t1, t2, t3, t4, t5, t6, tf⟩ := cells7 hfin
    refine bodyPost_ret (v := .tuple #[msV m (.slice A3 m.ps.length c3), .bool true]) ?_ rfl HP.out
    simp [results, Try.results35, go_sem, t0, t1, t2, t3, t4, t5, t6]

#print axioms qPop_calls
end Go.Proofs.Yteofjcmpelcmaaa
