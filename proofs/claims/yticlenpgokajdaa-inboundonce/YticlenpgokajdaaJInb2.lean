/-
  Begin of inbound.Set; awake of layer 14's statements. (No statement: contracts that the proofs of the statements use.)
-/
import Derived.Test.YticlenpgokajdaaJInb1
import Derived.BigQuiet
import Derived.Deep.QuietTactic
namespace Go.Proofs.Yticlenpgokajdaa
open Go.RowKit Go.Maps

theorem InbAt.more {w : World} {p b most T : Nat} {U : List Nat} {f : Nat → Int} (h : InbAt w p b most T U f) : InbAt w p b most (T + 1) U f := by
  obtain ⟨D, hown, hr, hlt, hhas, hsz, hat, hp, hT⟩ := h.wait
  exact ⟨h.cells, D, hown, hr, hlt, hhas, hsz, hat, hp, fun i => by have := hT i; omega⟩

/-- No identifier. -/
theorem inbBegin_none (w : World) (p : Nat) (n : Nat) (hn : n < 1 ∨ 65535 < n) :
    Calls Try.prog 25 #[.pointer (some ⟨p, 0, none⟩), .int .u32 n] w fun e w' => e = .returned (.tuple #[.bool false, .int .i64 3]) ∧ w = w' := by
  rcases hn with h | h
  all_goals
    go_enter Try.func25, Try.ntmps25
    go_wp2
    go_ret2
    exact ⟨rfl, rfl⟩

set_option maxRecDepth 100000 in
set_option maxHeartbeats 1000000 in
/-- It waits. -/
theorem inbBegin_again (w : World) (p b most T : Nat) (U : List Nat) (f : Nat → Int) (n : Nat) (hn1 : 1 ≤ n) (hn2 : n ≤ 65535) (hU : n ∈ U) (hTb : T < 1000000) (h : InbAt w p b most T U f) :
    Calls Try.prog 25 #[.pointer (some ⟨p, 0, none⟩), .int .u32 n] w (InbR w p b most (T + 1) U (upd f n (f n + 1)) (.tuple #[.bool false, .int .i64 0])) := by
  obtain ⟨v, hv⟩ : ∃ v, f n = v := ⟨_, rfl⟩
  have hpos := (h.wait.pos n).2 hU
  have hbd := (h.wait.bound n).2
  rw [hv] at hpos hbd
  rw [hv]
  have hz : (v == 0) = false := by simp; omega
  have hn : n < 4294967296 := by omega
  have hv1 : v < 1000001 := by omega
  have HW := Lib.hid (show (Lit.int .i64 (v + 1)).wf = true from WalkArith.wf_i64 ⟨by omega, by omega⟩)
  have HV := Lib.hid hv
  have HN := Lib.hid hn
  have HP := Lib.hid h
  have hl := h.wait.look hn hv
  have hkey := key_u32 hn
  have hne := h.ne
  have hpl := m_size h.cells
  have hlen := h.wait.len
  obtain ⟨⟨c0, c1⟩, _, _⟩ := two_m h.cells
  obtain ⟨D, hown, hr, hlt, hhas, hsz, hat, hp, hT⟩ := h.wait
  have H0 := Lib.hid hU
  have H1 := Lib.hid hr
  have H2 := Lib.hid hlt
  have H3 := Lib.hid hhas
  have H4 := Lib.hid hsz
  have H5 := Lib.hid hat
  have H6 := Lib.hid hp
  have H7 := Lib.hid hT
  have HL := Lib.hid hl
  clear hU hv hn h hr hlt hhas hsz hat hp hT hTb hbd hl
  go_enter Try.func25, Try.ntmps25
  go_wp2_with fail
  refine (inbTimes_calls _ p b most T U f n v HV.out HN.out HP.out).mono ?_
  rintro e w1 ⟨rfl, rfl⟩
  go_wp2_with fail
  go_quiet (fail)
  rename_i nq
  have e1 : (w.drewN nq).cell? ⟨p, 1, none⟩ = some (.map (some b)) := c1
  have hl2 : (Instr.lookup 41 (.map (some b)) (.int .u32 (n : Int)) false).run Try.prog (w.drewN nq) = .ok (.int .i64 v) (w.drewN nq) := (WaitAt.keep HP.out.wait (w' := w.drewN nq) rfl).look HN.out HV.out
  have hown1 : (w.drewN nq).ownsMap Try.prog 22 (plainElem Try.prog 3) b U.length D := hown
  have HM : Hid (Moved w (w.drewN nq) p b) := Lib.hid ⟨rfl, rfl, rfl, Nat.le_refl _, fun _ _ _ _ => rfl⟩
  have HP1 : Hid (InbAt (w.drewN nq) p b most T U f) := Lib.hid (HP.out.keep rfl rfl)
  clear hown HP c0 c1
  generalize w.drewN nq = w2 at *
  go_wp2_with (first
    | (at_mapUpdate; refine wpList_mapUpdate_in _ rfl _ _ _ 41 rfl 22 3 law_u32 Try.underlying41 _ b U.length D rfl hown1 hlen _ _ _ rfl rfl hkey _ [] (plainElem_int Try.underlying3 HW.out) ?_; intro w3 hown3 hturn3)
    | go_in)
  go_ret2
  have hmv : Moved w2 w3 p b := Moved.turned hturn3
  exact ⟨rfl, ⟨((Moved.turned (p := b) hturn3).block p (m_size HP1.out.cells) hne hne).trans HP1.out.cells, wait_again H0.out (by rw [HV.out]) hown1 H1.out H2.out H3.out H4.out H5.out H6.out H7.out hown3⟩, HM.out.trans hmv⟩

theorem drew_moved (w : World) (n p b : Nat) : Moved w (w.drewN n) p b := ⟨rfl, rfl, rfl, Nat.le_refl _, fun _ _ _ _ => rfl⟩

set_option maxRecDepth 100000 in
set_option maxHeartbeats 1000000 in
/-- It doesn't wait, and as many wait as may. -/
theorem inbBegin_quota (w : World) (p b most T : Nat) (U : List Nat) (f : Nat → Int) (n : Nat) (hn1 : 1 ≤ n) (hn2 : n ≤ 65535) (hU : n ∉ U) (hfull : most ≤ U.length) (h : InbAt w p b most T U f) :
    Calls Try.prog 25 #[.pointer (some ⟨p, 0, none⟩), .int .u32 n] w fun e w' => e = .returned (.tuple #[.bool false, .int .i64 12]) ∧ ∃ k, w' = w.drewN k := by
  have hv : f n = 0 := by
    have h1 := h.wait.pos n
    have h2 := (h.wait.bound n).1
    have : ¬ 0 < f n := fun e => hU (h1.1 e)
    omega
  have hn : n < 4294967296 := by omega
  have HV := Lib.hid hv
  have HN := Lib.hid hn
  have HP := Lib.hid h
  obtain ⟨⟨c0, c1⟩, _, _⟩ := two_m h.cells
  clear hU hv hn h
  go_enter Try.func25, Try.ntmps25
  go_wp2_with fail
  refine (inbTimes_calls _ p b most T U f n 0 HV.out HN.out HP.out).mono ?_
  rintro e w1 ⟨rfl, rfl⟩
  go_wp2_with fail
  go_quiet ((go_at_call 31; exact Calls.quiet_of_same (inbLen_quiet w p b most T U f HP.out _)))
  rename_i nq
  go_wp2
  go_ret2
  exact ⟨rfl, _, rfl⟩

set_option maxRecDepth 100000 in
set_option maxHeartbeats 1000000 in
/-- It doesn't wait, and may. -/
theorem inbBegin_new (w : World) (p b most T : Nat) (U : List Nat) (f : Nat → Int) (n : Nat) (hn1 : 1 ≤ n) (hn2 : n ≤ 65535) (hU : n ∉ U) (hroom : U.length < most) (h : InbAt w p b most T U f) :
    Calls Try.prog 25 #[.pointer (some ⟨p, 0, none⟩), .int .u32 n] w (InbR w p b most (T + 1) (ins n U) (upd f n 1) (.tuple #[.bool true, .int .i64 0])) := by
  have hv : f n = 0 := by
    have h1 := h.wait.pos n
    have h2 := (h.wait.bound n).1
    have : ¬ 0 < f n := fun e => hU (h1.1 e)
    omega
  have hn : n < 4294967296 := by omega
  have HW := Lib.hid (show (Lit.int .i64 1).wf = true by decide)
  have HV := Lib.hid hv
  have HN := Lib.hid hn
  have HP := Lib.hid h
  have hkey := key_u32 hn
  have hne := h.ne
  have hlen := h.wait.len
  obtain ⟨⟨c0, c1⟩, _, _⟩ := two_m h.cells
  obtain ⟨D, hown, hr, hlt, hhas, hsz, hat, hp, hT⟩ := h.wait
  have H0 := Lib.hid hU
  have H1 := Lib.hid hr
  have H2 := Lib.hid hlt
  have H3 := Lib.hid hhas
  have H4 := Lib.hid hsz
  have H5 := Lib.hid hat
  have H6 := Lib.hid hp
  have H7 := Lib.hid hT
  clear hU hv hn h hr hlt hhas hsz hat hp hT
  go_enter Try.func25, Try.ntmps25
  go_wp2_with fail
  refine (inbTimes_calls _ p b most T U f n 0 HV.out HN.out HP.out).mono ?_
  rintro e w1 ⟨rfl, rfl⟩
  go_wp2_with fail
  go_quiet ((go_at_call 31; exact Calls.quiet_of_same (inbLen_quiet w p b most T U f HP.out _)))
  rename_i nq
  have e1 : (w.drewN nq).cell? ⟨p, 1, none⟩ = some (.map (some b)) := c1
  have hl2 : (Instr.lookup 41 (.map (some b)) (.int .u32 (n : Int)) false).run Try.prog (w.drewN nq) = .ok (.int .i64 0) (w.drewN nq) := (WaitAt.keep HP.out.wait (w' := w.drewN nq) rfl).look HN.out HV.out
  have hown1 : (w.drewN nq).ownsMap Try.prog 22 (plainElem Try.prog 3) b U.length D := hown
  have HM : Hid (Moved w (w.drewN nq) p b) := Lib.hid (drew_moved _ _ _ _)
  have HP1 : Hid (InbAt (w.drewN nq) p b most T U f) := Lib.hid (HP.out.keep rfl rfl)
  clear hown HP c0 c1
  generalize w.drewN nq = w2 at *
  go_wp2_with (first
    | (at_mapUpdate; refine wpList_mapUpdate_in _ rfl _ _ _ 41 rfl 22 3 law_u32 Try.underlying41 _ b U.length D rfl hown1 hlen _ _ _ rfl rfl hkey _ [] (plainElem_int Try.underlying3 HW.out) ?_; intro w3 hown3 hturn3)
    | go_in)
  go_ret2
  have hmv : Moved w2 w3 p b := Moved.turned hturn3
  exact ⟨rfl, ⟨((Moved.turned (p := b) hturn3).block p (m_size HP1.out.cells) hne hne).trans HP1.out.cells, wait_new HN.out H0.out hown1 H1.out H2.out H3.out H4.out H5.out H6.out H7.out hown3⟩, HM.out.trans hmv⟩

set_option maxRecDepth 100000 in
theorem awake14_calls (w : World) : Calls Try.prog 24 #[] w fun e w' => e = .returned (.bool true) ∧ Below w.heap.size w w' := by
  go_enter Try.func24, Try.ntmps24
  go_wp2_with fail
  refine (inbNew_calls _ 1 1 rfl).mono ?_
  rintro e w1 ⟨p, b, rfl, h1, b1, hp, hb⟩
  have HB1 := Lib.hid b1
  clear b1
  go_wp2_with fail
  refine (inbBegin_new _ p b 1 0 [] _ 5 (by decide) (by decide) (by decide) (by decide) h1).mono ?_
  rintro e w2 ⟨rfl, h2, m2⟩
  have HB2 := Lib.hid (HB1.out.trans (m2.below hp hb HB1.out.size))
  clear m2 HB1 h1
  go_wp2_with fail
  refine (inbBegin_again _ p b 1 1 [5] _ 5 (by decide) (by decide) (by decide) (by decide) h2).mono ?_
  rintro e w3 ⟨rfl, h3, m3⟩
  have HB3 := Lib.hid (HB2.out.trans (m3.below hp hb HB2.out.size))
  clear m3 HB2 h2
  go_wp2_with fail
  refine (inbBegin_quota _ p b 1 2 [5] _ 6 (by decide) (by decide) (by decide) (by decide) h3).mono ?_
  rintro e w4 ⟨rfl, nq, rfl⟩
  have HB4 := Lib.hid (drew_below HB3.out nq)
  have h4 := h3.keep (w' := w3.drewN nq) rfl rfl
  clear HB3 h3
  go_wp2_with fail
  refine (inbEnd_calls _ p b 1 2 [5] _ 5 (by decide) h4).mono ?_
  rw [show decide (5 ∈ [5]) = true from rfl, show cut1 5 [5] = [] from rfl]
  rintro e w5 ⟨rfl, h5, m5⟩
  have HB5 := Lib.hid (HB4.out.trans (m5.below hp hb HB4.out.size))
  clear m5 HB4 h4
  go_wp2_with fail
  refine (inbBegin_new _ p b 1 2 [] _ 6 (by decide) (by decide) (by decide) (by decide) h5).mono ?_
  rintro e w6 ⟨rfl, h6, m6⟩
  have HB6 := Lib.hid (HB5.out.trans (m6.below hp hb HB5.out.size))
  clear m6 HB5 h5
  go_wp2_with fail
  refine (inbLen_calls _ p b 1 3 [6] _ h6).mono ?_
  rintro e w7 ⟨rfl, rfl⟩
  go_wp2
  go_ret
  exact ⟨rfl, HB6.out⟩

#print axioms awake14_calls
end Go.Proofs.Yticlenpgokajdaa
