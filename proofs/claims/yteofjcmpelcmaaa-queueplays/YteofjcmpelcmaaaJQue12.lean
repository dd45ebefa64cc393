/-
  Left and Gone of a message. (No statement: contracts that the proofs of the statements use.)
-/
import Derived.Test.YteofjcmpelcmaaaJQue11
namespace Go.Proofs.Yteofjcmpelcmaaa
open Go.RowKit

/-- Its numbers are small. -/
structure Ms.num (m : Ms) : Prop where
  t0 : 0 ≤ m.tick
  t1 : m.tick < 100000
  ps : ∀ x ∈ m.ps, 0 ≤ x.n ∧ x.n < 4294967296
theorem fewM_num {w : World} {m : Ms} {v : Value} (h : MsIn w m v) : (fewM m).num :=
  ⟨(tickN_range _).1, (tickN_range _).2, fun x hx => by
    have := (few_ok m.ps h.ps.num x hx).1
    exact ⟨this.n0, this.n1⟩⟩

/-- How long it may be told yet. -/
def leftM (m : Ms) (now : Int) : Int × Bool := match firstP m.ps 2 with
  | some x => (m.tick + x.n - now, true)
  | none => (0, false)
def goneM (m : Ms) (now : Int) : Bool := (leftM m now).2 && decide ((leftM m now).1 ≤ 0)

set_option maxRecDepth 100000 in
set_option maxHeartbeats 2000000 in
theorem mLeft_calls (w : World) (m : Ms) (v : Value) (now : Int) (h : MsAt w m v) (hn : m.num) (h0 : 0 ≤ now) (h1 : now ≤ 1000000) :
    Calls Try.prog 71 #[msV m v, .int .i64 now] w fun e w' => e = .returned (.tuple #[.int .i64 (leftM m now).1, .bool (leftM m now).2]) ∧ Below w.heap.size w w' := by
  obtain ⟨A, cap, rfl⟩ := h.ps.form
  obtain ⟨a0, a1, q, a3, P, a5, a6⟩ := m
  dsimp only at h ⊢
  have HP := Lib.hid h
  have t0 := hn.t0
  have t1 := hn.t1
  have hp := hn.ps
  dsimp only at t0 t1 hp
  clear h hn
  generalize hPl : P.length = n
  have HPL := Lib.hid hPl
  clear hPl
  have hb0 := below_one w (.cells #[.string a0, .int .i64 a1, .int .u8 q, .bool a3, .slice A n cap, .string a5, .string a6] 50)
  have hps := HP.out.ps
  dsimp only at hps
  rw [HPL.out] at hps
  have HG := Lib.hid (get_calls (w.alloc (.cells #[.string a0, .int .i64 a1, .int .u8 q, .bool a3, .slice A n cap, .string a5, .string a6] 50)) (.slice A n cap) P 2 (hps.below hb0) HP.out.len)
  have HB0 := Lib.hid hb0
  have hx0 := heap_alloc_new w (.cells #[.string a0, .int .i64 a1, .int .u8 q, .bool a3, .slice A n cap, .string a5, .string a6] 50)
  have HX0 := Lib.hid hx0
  clear hb0 hps hx0
  cases hf : firstP P 2 with
  | none =>
    have HL := Lib.hid (show leftM ⟨a0, a1, q, a3, P, a5, a6⟩ now = (0, false) by unfold leftM; dsimp only; rw [hf])
    have HV := Lib.hid (show getV P 2 = .tuple #[.agg #[.int .i64 0, .int .u32 0, .string ⟨#[]⟩, .string ⟨#[]⟩], .bool false] by unfold getV; rw [hf])
    rw [HL.out]
    clear hf hp HL
    go_enter Try.func71, Try.ntmps71
    go_wp2_with fail
    refine HG.out.mono ?_
    rw [HV.out]
    rintro e w2 ⟨rfl, hb2⟩
    have HB2 := Lib.hid (Below.next HB0.out hb2)
    have HB3 := Lib.hid (Below.next HB2.out (below_one w2 (.cells #[.int .i64 0, .int .u32 0, .string ⟨#[]⟩, .string ⟨#[]⟩] 153)))
    clear hb2
    go_wp2
    go_ret2
    exact ⟨rfl, HB3.out⟩
  | some x =>
    obtain ⟨xi, xn, xs, xt⟩ := x
    have hx := hp _ (List.mem_of_find?_eq_some hf)
    dsimp only at hx
    have HL := Lib.hid (show leftM ⟨a0, a1, q, a3, P, a5, a6⟩ now = (a1 + xn - now, true) by unfold leftM; dsimp only; rw [hf])
    have HV := Lib.hid (show getV P 2 = .tuple #[.agg #[.int .i64 xi, .int .u32 xn, .string xs, .string xt], .bool true] by unfold getV; rw [hf])
    rw [HL.out]
    have w1 : IntKind.i64.wrap xn = xn := by rw [IntKind.wrap_i64]; omega
    have w2 : IntKind.i64.wrap (a1 + xn) = a1 + xn := by rw [IntKind.wrap_i64]; omega
    have w3 : IntKind.i64.wrap (a1 + xn - now) = a1 + xn - now := by rw [IntKind.wrap_i64]; omega
    clear hf hp HL
    go_enter Try.func71, Try.ntmps71
    go_wp2_with fail
    refine HG.out.mono ?_
    rw [HV.out]
    rintro e w5 ⟨rfl, hb2⟩
    have HB2 := Lib.hid (Below.next HB0.out hb2)
    have hb3 := below_one w5 (.cells #[.int .i64 xi, .int .u32 xn, .string xs, .string xt] 153)
    have HB3 := Lib.hid (Below.next HB2.out hb3)
    have hx3 := (hb3.block _ (lt_of_block ((hb2.block _ (lt_of_block HX0.out)).trans HX0.out))).trans ((hb2.block _ (lt_of_block HX0.out)).trans HX0.out)
    have hz3 := heap_alloc_new w5 (.cells #[.int .i64 xi, .int .u32 xn, .string xs, .string xt] 153)
    obtain ⟨c0, c1, c2, c3, c4, c5, c6, cf⟩ := cells7 hx3
    obtain ⟨⟨d0, d1, d2, d3⟩, df⟩ := four_cells hz3
    clear hb2 hb3 hx3 hz3 df
    go_wp2
    go_ret2
    exact ⟨rfl, HB3.out⟩

set_option maxRecDepth 100000 in
set_option maxHeartbeats 2000000 in
theorem mGone_calls (w : World) (m : Ms) (v : Value) (now : Int) (h : MsAt w m v) (hn : m.num) (h0 : 0 ≤ now) (h1 : now ≤ 1000000) :
    Calls Try.prog 43 #[msV m v, .int .i64 now] w fun e w' => e = .returned (.bool (goneM m now)) ∧ Below w.heap.size w w' := by
  obtain ⟨A, cap, rfl⟩ := h.ps.form
  have hb0 := below_one w (.cells #[.string m.src, .int .i64 m.tick, .int .u8 m.q, .bool m.rt, .slice A m.ps.length cap, .string m.tp, .string m.pl] 50)
  have HL := Lib.hid (mLeft_calls (w.alloc (.cells #[.string m.src, .int .i64 m.tick, .int .u8 m.q, .bool m.rt, .slice A m.ps.length cap, .string m.tp, .string m.pl] 50)) m _ now (h.below hb0) hn h0 h1)
  have HB0 := Lib.hid hb0
  have HG := Lib.hid (show goneM m now = ((leftM m now).2 && decide ((leftM m now).1 ≤ 0)) from rfl)
  rw [HG.out]
  generalize leftM m now = lm at *
  obtain ⟨l, f⟩ := lm
  dsimp only at *
  generalize m.ps.length = nm at *
  clear h hn hb0 HG
  go_enter Try.func43, Try.ntmps43
  go_wp2_with fail
  refine HL.out.mono ?_
  rintro e w5 ⟨rfl, hb2⟩
  have HB2 := Lib.hid (Below.next HB0.out hb2)
  clear hb2
  cases f with
  | false =>
    go_wp2
    go_ret
    exact ⟨rfl, HB2.out⟩
  | true =>
    go_wp2
    go_ret
    exact ⟨by simp, HB2.out⟩

#print axioms mGone_calls
end Go.Proofs.Yteofjcmpelcmaaa
