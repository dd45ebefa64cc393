/-
  The document's Left and Gone of a message. (No statement: contracts that the proofs of the statements use.)
-/
import Derived.Test.YteofjcmpelcmaaaJPlq1
namespace Go.Proofs.Yteofjcmpelcmaaa
open Go.RowKit

set_option maxRecDepth 100000 in
set_option maxHeartbeats 4000000 in
theorem rLeft_calls (w : World) (m : Ms) (v : Value) (now : Int) (h : MsAt w m v) (hn : m.num) (h0 : 0 ≤ now) (h1 : now ≤ 1000000) :
    Calls Try.prog 82 #[msV m v, .int .i64 now] w fun e w' => e = .returned (.tuple #[.int .i64 (leftM m now).1, .bool (leftM m now).2]) ∧ Below w.heap.size w w' := by
  obtain ⟨A, cap, rfl⟩ := h.ps.form
  obtain ⟨a0, a1, q, a3, P, a5, a6⟩ := m
  dsimp only at h ⊢
  have hlen := h.len
  have HP := Lib.hid h
  have t0 := hn.t0
  have t1 := hn.t1
  have hp := hn.ps
  dsimp only at t0 t1 hp hlen
  have HN := Lib.hid hp
  clear h hn hp
  have hb0 := below_one w (.cells #[.string a0, .int .i64 a1, .int .u8 q, .bool a3, .slice A P.length cap, .string a5, .string a6] 77)
  have hps := HP.out.ps.below hb0
  dsimp only at hps
  have hx0 := heap_alloc_new w (.cells #[.string a0, .int .i64 a1, .int .u8 q, .bool a3, .slice A P.length cap, .string a5, .string a6] 77)
  have HX0 := Lib.hid hx0
  have HB0 := Lib.hid hb0
  have HPS := Lib.hid hps
  obtain ⟨c0, c1, c2, c3, c4, c5, c6, cf⟩ := cells7 hx0
  have hlm : P.length ≤ 1000000 := by omega
  clear hb0 hps hx0
  generalize hlm0 : leftM ⟨a0, a1, q, a3, P, a5, a6⟩ now = lm at *
  have HLM := Lib.hid hlm0
  clear hlm0
  go_enter Try.func82, Try.ntmps82
  go_wp2_with fail
  generalize w.alloc (.cells #[.string a0, .int .i64 a1, .int .u8 q, .bool a3, .slice A P.length cap, .string a5, .string a6] 77) = w1 at *
  go_wp2
  go_loopw [11] (fun j wr => ∃ k : Nat, k ≤ P.length ∧ j = .int .i64 k ∧ firstP (P.take k) 2 = none ∧ Below w1.heap.size w1 wr) (fun j _ => P.length - (intOf j).toNat)
  case atStart => exact ⟨0, by omega, rfl, rfl, Below.refl _ _⟩
  case round =>
    obtain ⟨k, hk, rfl, hf, hb⟩ := hrel
    have HF := Lib.hid hf
    have HB := Lib.hid hb
    have hz := hb.size
    have hlw := lt_of_block HX0.out
    have hx1 := (hb.block _ hlw).trans HX0.out
    have hlr : w.heap.size < wr.heap.size := by omega
    obtain ⟨e0, e1, e2, e3, e4, e5, e6, ef⟩ := cells7 hx1
    clear hf hb hx1 c0 c1 c2 c3 c4 c5 c6 cf
    by_cases hlt : k < P.length
    · obtain ⟨x, hx⟩ : ∃ x, P[k]? = some x := ⟨_, List.getElem?_eq_getElem hlt⟩
      obtain ⟨A', cap', hA', hc⟩ := HPS.out
      injection hA' with hA1 hA2 hA3
      subst hA1
      obtain ⟨b, off, hA, hbl2, c0, c1, c2, c3⟩ := hc k x hx
      rw [← HB.out.cell (p := ⟨b, _, none⟩) hbl2] at c0 c1 c2 c3
      subst hA
      have HX := Lib.hid hx
      have hkl : (k : Int) < P.length := by omega
      obtain ⟨xi, xn, xs, xt⟩ := x
      have hxn := HN.out _ (List.mem_of_getElem? hx)
      dsimp only at hxn c0 c1 c2 c3
      have hb1 := below_one wr (.cells #[.int .i64 xi, .int .u32 xn, .string xs, .string xt] 157)
      have hx1 := heap_alloc_new wr (.cells #[.int .i64 xi, .int .u32 xn, .string xs, .string xt] 157)
      obtain ⟨⟨d0, d1, d2, d3⟩, f0, f1, f2, f3⟩ := four_cells hx1
      have HB1 := Lib.hid (Below.next HB.out hb1)
      clear hx hc hA2 hA3 hb1 hx1
      by_cases hi : xi = 2
      · subst hi
        have w1' : IntKind.i64.wrap xn = xn := by rw [IntKind.wrap_i64]; omega
        have w2' : IntKind.i64.wrap (a1 + xn) = a1 + xn := by rw [IntKind.wrap_i64]; omega
        have w3' : IntKind.i64.wrap (a1 + xn - now) = a1 + xn - now := by rw [IntKind.wrap_i64]; omega
        have HL : lm = (a1 + xn - now, true) := by rw [← HLM.out]; unfold leftM; dsimp only; rw [first_some P k _ 2 HX.out HF.out rfl]
        subst HL
        go_wp2
        refine bodyPost_ret (v := .tuple #[.int .i64 (a1 + xn - now), .bool true]) ?_ rfl ⟨rfl, Below.next HB0.out HB1.out⟩
        simp [results, Try.results82, go_sem]
      · have hib : (xi == 2) = false := by simpa using hi
        have HN2 := Lib.hid (first_none P k _ 2 HX.out HF.out (by simpa using hi))
        clear HX HF
        go_wp2
        go_roundw
        case rel => exact ⟨k + 1, by omega, by go_num, HN2.out, HB1.out⟩
        case measure => simp [intOf]; omega
    · obtain rfl : k = P.length := by omega
      have HL : lm = (0, false) := by rw [← HLM.out]; have := HF.out; rw [List.take_length] at this; unfold leftM; dsimp only; rw [this]
      subst HL
      go_wp2
      go_ret2
      exact ⟨rfl, Below.next HB0.out HB.out⟩

set_option maxRecDepth 100000 in
set_option maxHeartbeats 2000000 in
theorem rGone_calls (w : World) (m : Ms) (v : Value) (now : Int) (h : MsAt w m v) (hn : m.num) (h0 : 0 ≤ now) (h1 : now ≤ 1000000) :
    Calls Try.prog 69 #[msV m v, .int .i64 now] w fun e w' => e = .returned (.bool (goneM m now)) ∧ Below w.heap.size w w' := by
  obtain ⟨A, cap, rfl⟩ := h.ps.form
  have hb0 := below_one w (.cells #[.string m.src, .int .i64 m.tick, .int .u8 m.q, .bool m.rt, .slice A m.ps.length cap, .string m.tp, .string m.pl] 77)
  have HL := Lib.hid (rLeft_calls (w.alloc (.cells #[.string m.src, .int .i64 m.tick, .int .u8 m.q, .bool m.rt, .slice A m.ps.length cap, .string m.tp, .string m.pl] 77)) m _ now (h.below hb0) hn h0 h1)
  have HB0 := Lib.hid hb0
  have HG := Lib.hid (show goneM m now = ((leftM m now).2 && decide ((leftM m now).1 < 1)) from by unfold goneM; congr 1; simp only [decide_eq_decide]; omega)
  rw [HG.out]
  generalize leftM m now = lm at *
  obtain ⟨l, f⟩ := lm
  dsimp only at *
  generalize m.ps.length = nm at *
  clear h hn hb0 HG
  go_enter Try.func69, Try.ntmps69
  go_wp2_with fail
  refine HL.out.mono ?_
  rintro e w5 ⟨rfl, hb2⟩
  have HB2 := Lib.hid (Below.next HB0.out hb2)
  clear hb2
  cases f with
  | false =>
    go_wp2
    go_ret
    exact ⟨rfl, HB2.out⟩
  | true =>
    go_wp2
    go_ret
    exact ⟨by simp, HB2.out⟩

#print axioms rGone_calls
end Go.Proofs.Yteofjcmpelcmaaa
