/-
  The calls of queue.Queue: First. (No statement: contracts that the proofs of the statements use.)
-/
import Derived.Test.YteofjcmpelcmaaaJPlq1
namespace Go.Proofs.Yteofjcmpelcmaaa
open Go.RowKit

/-- What First answers. -/
def QFst (w : World) (X : List Ms) (e : Ending) (w' : World) : Prop :=
  ∃ m v, e = .returned (.tuple #[msV m v, .bool (decide (0 < X.length))]) ∧ MsAt w' m v ∧ (∀ x, X[0]? = some x → m = x) ∧ Below w.heap.size w w'

set_option maxRecDepth 100000 in
set_option maxHeartbeats 400000 in
theorem qFirst_calls (w : World) (p b : Nat) (most : Int) (X : List Ms) (h : QAt w p b most X) (hX : X.length ≤ 60) :
    Calls Try.prog 34 #[.pointer (some ⟨p, 0, none⟩)] w (QFst w X) := by
  have hb0 := below_one w (.cells #[.string ⟨#[]⟩, .int .i64 0, .int .u8 0, .bool false, .slice none 0 0, .string ⟨#[]⟩, .string ⟨#[]⟩] 50)
  have hx0 := heap_alloc_new w (.cells #[.string ⟨#[]⟩, .int .i64 0, .int .u8 0, .bool false, .slice none 0 0, .string ⟨#[]⟩, .string ⟨#[]⟩] 50)
  have hq := h.below hb0
  have hlt := h.lt
  have HB0 := Lib.hid hb0
  have HX0 := Lib.hid hx0
  have HQ := Lib.hid hq
  clear h hb0 hx0 hq
  go_enter Try.func34, Try.ntmps34
  go_wp2_with fail
  generalize w.alloc (.cells #[.string ⟨#[]⟩, .int .i64 0, .int .u8 0, .bool false, .slice none 0 0, .string ⟨#[]⟩, .string ⟨#[]⟩] 50) = w1 at *
  refine (qLen_calls w1 p b most X HQ.out).mono ?_
  rintro e w2 ⟨rfl, rfl⟩
  cases X with
  | nil =>
    obtain ⟨d0, d1, d2, d3, d4, d5, d6, df⟩ := cells7 HX0.out
    go_wp2
    change bodyPost _ _ _ _ _ (put7 w1 w.heap.size 0 _ _ _ _ _ _ _)
    have hfin := put7_block (a0 := .string ⟨#[]⟩) (a1 := .int .i64 0) (a2 := .int .u8 0) (a3 := .bool false) (a4 := .slice none 0 0) (a5 := .string ⟨#[]⟩) (a6 := .string ⟨#[]⟩) HX0.out
    obtain ⟨t0, t1, t2, t3, t4, t5, t6, tf⟩ := cells7 hfin
    refine bodyPost_ret (v := .tuple #[msV ⟨⟨#[]⟩, 0, 0, false, [], ⟨#[]⟩, ⟨#[]⟩⟩ (.slice none 0 0), .bool false]) ?_ rfl (show QFst w [] (.returned (.tuple #[msV ⟨⟨#[]⟩, 0, 0, false, [], ⟨#[]⟩, ⟨#[]⟩⟩ (.slice none 0 0), .bool false])) _ from ⟨⟨⟨#[]⟩, 0, 0, false, [], ⟨#[]⟩, ⟨#[]⟩⟩, .slice none 0 0, by simp, ⟨⟨none, 0, rfl, fun i x hx => by simp at hx⟩, by simp⟩, (fun x hx => by simp at hx), put7_below HB0.out (Nat.le_refl _)⟩)
    simp [results, Try.results34, go_sem, t0, t1, t2, t3, t4, t5, t6]
  | cons m X2 =>
    obtain ⟨L, A, off, cap, hLX, hql⟩ := HQ.out
    cases L with
    | nil => simp at hLX
    | cons e0 L2 =>
    obtain ⟨m0, v0⟩ := e0
    rw [List.map_cons] at hLX
    injection hLX with hm0 hL2
    dsimp only at hm0
    subst hm0
    have hme := hql.each (m0, v0) (by simp)
    obtain ⟨Am, cm, hv⟩ := hme.ps.form
    dsimp only at hme hv
    subst hv
    obtain ⟨hA, hrow⟩ := row_get (k := 0) (e := (m0, .slice Am m0.ps.length cm)) hql.row rfl
    subst hA
    have a0 := hrow 0 (by omega)
    have a1 := hrow 1 (by omega)
    have a2 := hrow 2 (by omega)
    have a3 := hrow 3 (by omega)
    have a4 := hrow 4 (by omega)
    have a5 := hrow 5 (by omega)
    have a6 := hrow 6 (by omega)
    rw [Nat.add_zero] at a0
    simp only [Nat.zero_mul, Nat.add_zero, List.getElem?_cons_zero, List.getElem?_cons_succ] at a0 a1 a2 a3 a4 a5 a6
    obtain ⟨⟨c0, c1, c2⟩, f0, f1, f2⟩ := three_c hql.cells
    have HM := Lib.hid hme
    have hne : ((m0 :: X2).length : Int) ≠ 0 := by simp; omega
    have hnb : (((m0 :: X2).length : Int) == 0) = false := by simp; omega
    have hdec : decide (0 < (m0 :: X2).length) = true := by simp
    have HFIN := Lib.hid (show ∀ x, (m0 :: X2)[0]? = some x → m0 = x from fun x hx => by simpa using hx)
    have hll : (0 : Int) < (((m0, Value.slice Am m0.ps.length cm) :: L2).length : Int) := by simp
    clear hme hrow hql hdec HQ
    generalize hnl : (((m0, Value.slice Am m0.ps.length cm) :: L2).length) = NL at *
    generalize hnx : (m0 :: X2).length = NX at *
    generalize hnm : m0.ps.length = nm at *
    go_wp2_with fail
    refine (own_calls w1 m0 _ HM.out).mono ?_
    rintro e w3 ⟨v3, rfl, hm3, hf3, hb3⟩
    subst hnm
    obtain ⟨A3, c3, rfl⟩ := hm3.ps.form
    have hx3 := (hb3.block _ (lt_of_block HX0.out)).trans HX0.out
    have hbx : BoxM w3 w.heap.size := ⟨_, _, _, _, _, _, _, _, hx3⟩
    have HP := Lib.hid (hm3.box (w' := put7 w3 w.heap.size 0 (.string m0.src) (.int .i64 m0.tick) (.int .u8 m0.q) (.bool m0.rt) (.slice A3 m0.ps.length c3) (.string m0.tp) (.string m0.pl)) hbx put7_size (fun _ hk => put7_other hk))
    have HX3 := Lib.hid hx3
    have HB3 := Lib.hid (Below.next HB0.out hb3)
    have HZ := Lib.hid (show QFst w (m0 :: X2) (.returned (.tuple #[msV m0 (.slice A3 m0.ps.length c3), .bool true])) (put7 w3 w.heap.size 0 (.string m0.src) (.int .i64 m0.tick) (.int .u8 m0.q) (.bool m0.rt) (.slice A3 m0.ps.length c3) (.string m0.tp) (.string m0.pl)) from ⟨m0, .slice A3 m0.ps.length c3, by simp, HP.out, HFIN.out, put7_below HB3.out (Nat.le_refl _)⟩)
    obtain ⟨d0, d1, d2, d3, d4, d5, d6, df⟩ := cells7 hx3
    clear hm3 hf3 hb3 hx3 hbx
    go_wp2
    change bodyPost _ _ _ _ _ (put7 w3 w.heap.size 0 _ _ _ _ _ _ _)
    have hfin := put7_block (a0 := .string m0.src) (a1 := .int .i64 m0.tick) (a2 := .int .u8 m0.q) (a3 := .bool m0.rt) (a4 := .slice A3 m0.ps.length c3) (a5 := .string m0.tp) (a6 := .string m0.pl) HX3.out
    obtain ⟨t0, t1, t2, t3, t4, t5, t6, tf⟩ := cells7 hfin
    refine bodyPost_ret (v := .tuple #[msV m0 (.slice A3 m0.ps.length c3), .bool true]) ?_ rfl HZ.out
    simp [results, Try.results34, go_sem, t0, t1, t2, t3, t4, t5, t6]

#print axioms qFirst_calls
end Go.Proofs.Yteofjcmpelcmaaa
