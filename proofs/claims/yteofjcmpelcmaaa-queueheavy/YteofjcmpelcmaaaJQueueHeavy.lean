/-
  Whatever the number and the messages, a heavy message is dropped only when all that wait are heavy: the statement QueueHeavy of layer 16 is true.
  Its conditions: none beside those of the row itself.
-/
import Derived.Test.YteofjcmpelcmaaaJQue8
import Derived.ProofKit
import Derived.OpenShut
import Derived.ShutString
import Derived.ChangeOld
namespace Go.Proofs.Yteofjcmpelcmaaa.queueHeavy
open Go.ChangeShapes Go.WideShapes Go.ChangeAt Go.RowKit
open Go.ChangeMaps (open_string shut_string)
set_option linter.unusedVariables false

theorem own : ownKnob Try.prog.godebug = none := by kernel_rfl
theorem laidOut : laidOutB Try.prog = true := by kernel_rfl

set_option maxRecDepth 100000 in
set_option maxHeartbeats 4000000 in
theorem walk (a0 : Int) (w0 : (Lit.int .i64 a0).wf = true) (v1 : Value) (zs : List (Ms × Value)) (w : World) (hz : MsgsIn w v1 zs) :
    Calls Try.prog 9 #[.int .i64 a0, v1] w fun e w' => e = .returned (.bool true) ∧ Below w.heap.size w w' := by
  clear w0
  obtain ⟨A, cap, rfl, hzl, hcell⟩ := hz
  have HCELL := Lib.hid hcell
  have hlm : zs.length ≤ 9223372036854775807 := by unfold maxLen at hzl; omega
  clear hcell hzl
  by_cases hcond : a0 < 0 ∨ 20 < a0
  · rcases (show a0 < 0 ∨ (0 ≤ a0 ∧ 20 < a0) by omega) with h | ⟨h0, h⟩
    all_goals
      clear hcond
      go_enter Try.func9, Try.ntmps9
      go_wp2_with fail
      refine (awake16_calls _).mono ?_
      rintro e w2 ⟨rfl, b2⟩
      have HB2 := Lib.hid b2
      clear b2
      go_wp2_with fail
      refine (awake16_calls _).mono ?_
      rintro e w3 ⟨rfl, b3⟩
      have HB3 := Lib.hid (HB2.out.trans (b3.mono HB2.out.size))
      clear b3 HB2
      go_wp2
      go_ret
      exact ⟨rfl, HB3.out⟩
  · have h1 : 0 ≤ a0 := by omega
    have h2 : a0 ≤ 20 := by omega
    clear hcond
    go_enter Try.func9, Try.ntmps9
    go_wp2_with fail
    refine (awake16_calls _).mono ?_
    rintro e w2 ⟨rfl, b2⟩
    have HB2 := Lib.hid b2
    clear b2
    go_wp2_with fail
    refine (qNew_calls w2 a0).mono ?_
    rintro e w3 ⟨p, rfl, q3, hp3, b3⟩
    have hpw : w.heap.size ≤ p := Nat.le_trans HB2.out.size hp3
    have R3 := Lib.hid (show RunQ w p a0 [] p w3 from ⟨q3, by simpa using h1, hpw, hpw, Below.next HB2.out b3⟩)
    clear q3 hp3 b3 HB2
    go_wp2
    go_loopw [6] (fun i wr => ∃ (k : Nat) (X : List Ms) (b : Nat), k ≤ 40 ∧ i = .int .i64 k ∧ RunQ w p a0 X b wr) (fun i _ => 40 - (intOf i).toNat)
    case atStart => exact ⟨0, [], p, by omega, rfl, R3.out⟩
    case round =>
      obtain ⟨k, X, b, hk, rfl, hr⟩ := hrel
      have HR := Lib.hid hr
      clear hr
      by_cases hlt : k < zs.length ∧ k < 40
      · obtain ⟨l1, l2⟩ := hlt
        obtain ⟨⟨m, v⟩, hx⟩ : ∃ x, zs[k]? = some x := ⟨_, List.getElem?_eq_getElem l1⟩
        obtain ⟨hmin, bb, off, hA, hbl, hc⟩ := HCELL.out k _ hx
        subst hA
        dsimp only at hmin hc
        obtain ⟨Am, cm, hv, -⟩ := hmin.ps.at_
        subst hv
        have a0' := hc 0 (by omega)
        have a1 := hc 1 (by omega)
        have a2 := hc 2 (by omega)
        have a3 := hc 3 (by omega)
        have a4 := hc 4 (by omega)
        have a5 := hc 5 (by omega)
        have a6 := hc 6 (by omega)
        rw [Nat.add_zero] at a0'
        simp only [List.getElem?_cons_zero, List.getElem?_cons_succ] at a0' a1 a2 a3 a4 a5 a6
        have bel := HR.out.bel
        rw [← bel.cell (p := ⟨bb, _, none⟩) hbl] at a0' a1 a2 a3 a4 a5 a6
        have hin : MsIn wr m (.slice Am m.ps.length cm) := ⟨⟨hmin.ps.at_.keep (fun g _ hl => bel.block g hl) bel.size, hmin.ps.len, hmin.ps.num⟩, hmin.s0, hmin.s1, hmin.s2, hmin.t0, hmin.q0⟩
        have HIN := Lib.hid hin
        have hkl : (k : Int) < zs.length := by omega
        have hk40 : (k : Int) < 40 := by omega
        clear hx hmin hc bel hin
        generalize m.ps.length = nm at *
        go_wp2_with fail
        refine (few12_calls wr m _ HIN.out).mono ?_
        rintro e w4 ⟨v4, rfl, hm4, hf4, hb4⟩
        obtain ⟨A4, c4, rfl⟩ := hm4.ps.form
        have hr4 := HR.out.below hb4
        have hfr4 : ∀ g, (Value.slice A4 (fewM m).ps.length c4).ownBlock = some g → g ≠ p ∧ g ≠ b := fun g hg => by have := hf4 g hg; have h1 := HR.out.q.lt; omega
        generalize fewM m = f at *
        generalize hnf : f.ps.length = nf at *
        have hb5 := below_one w4 (.cells #[.string f.src, .int .i64 f.tick, .int .u8 f.q, .bool f.rt, .slice A4 nf c4, .string f.tp, .string f.pl] 50)
        have HR5 := Lib.hid (hr4.below hb5)
        have HM5 := Lib.hid (hm4.below hb5)
        have HFR := Lib.hid hfr4
        have hx5 := heap_alloc_new w4 (.cells #[.string f.src, .int .i64 f.tick, .int .u8 f.q, .bool f.rt, .slice A4 nf c4, .string f.tp, .string f.pl] 50)
        obtain ⟨d0, d1, d2, d3, d4, d5, d6, df⟩ := cells7 hx5
        clear hm4 hf4 hb4 hb5 hr4 hfr4 hx5 hnf a0' a1 a2 a3 a4 a5 a6 HIN
        go_wp2_with fail
        generalize w4.alloc (.cells #[.string f.src, .int .i64 f.tick, .int .u8 f.q, .bool f.rt, .slice A4 nf c4, .string f.tp, .string f.pl] 50) = w5 at *
        have hXl := HR5.out.len
        refine (qWeigh_calls w5 p b a0 X HR5.out.q (by omega)).mono ?_
        rintro e w6 ⟨rfl, rfl⟩
        have hlh := light_heavy X
        have hci := fun w => run_w_int w (heavyL X) (by omega)
        unfold wV32
        generalize floatOfInt .f32 (heavyL X) = fh at *
        generalize floatOfInt .f32 (lightL X) = fl at *
        go_wp2_with fail
        refine (qPush_calls w5 p b a0 X f _ HR5.out.q HM5.out HFR.out (by omega)).mono ?_
        intro e w7 h7
        obtain ⟨X', b', ok, xm, xv, rfl, hs⟩ := push_s h7 hXl
        obtain ⟨Ax, nx, cx, rfl⟩ := hs.xv
        have hr7 := HR5.out.push hs
        have hb8 := below_one w7 (.cells #[.string xm.src, .int .i64 xm.tick, .int .u8 xm.q, .bool xm.rt, .slice Ax nx cx, .string xm.tp, .string xm.pl] 50)
        have hx8 := heap_alloc_new w7 (.cells #[.string xm.src, .int .i64 xm.tick, .int .u8 xm.q, .bool xm.rt, .slice Ax nx cx, .string xm.tp, .string xm.pl] 50)
        have HR8 := Lib.hid (hr7.below hb8)
        have hcase : ok = false ∨ (ok = true ∧ decide (0 < xm.q) = false) ∨ (ok = true ∧ decide (0 < xm.q) = true ∧ decide ((heavyL X : Int) < a0) = false) := by
          cases ok with
          | false => exact .inl rfl
          | true =>
            by_cases hq : 0 < xm.q
            · exact .inr (.inr ⟨rfl, decide_eq_true hq, decide_eq_false (hs.drop rfl (by omega))⟩)
            · exact .inr (.inl ⟨rfl, decide_eq_false hq⟩)
        have hXl' := hr7.len
        have hlh' := light_heavy X'
        have hci' := fun w => run_w_int w (heavyL X') (by omega)
        have hcl' := fun w => run_w_int w (lightL X') (by omega)
        have hle := hs.heavy
        have hsum : IntKind.i64.wrap ((lightL X' : Int) + (heavyL X' : Int)) = (X'.length : Int) := by rw [IntKind.wrap_i64]; omega
        have hnl : decide (a0 < (X'.length : Int)) = false := decide_eq_false (by omega)
        have hnh : ¬ (heavyL X' < heavyL X) := by omega
        have HWV := Lib.hid (show wV32 (lightL X') (heavyL X') = .complex .f32 (floatOfInt .f32 (lightL X')) (floatOfInt .f32 (heavyL X')) from rfl)
        have HX4 := Lib.hid (show X'.length ≤ 64 by omega)
        clear d0 d1 d2 d3 d4 d5 d6 df h7 hs hr7 hb8 hci hlh hlh' hle HM5 HFR HR5 HR hXl
        obtain ⟨d0, d1, d2, d3, d4, d5, d6, df⟩ := cells7 hx8
        rcases hcase with h | ⟨h, h3⟩ | ⟨h, h3, h4⟩
        all_goals
          subst h
          go_wp2_with fail
          generalize w7.alloc (.cells #[.string xm.src, .int .i64 xm.tick, .int .u8 xm.q, .bool xm.rt, .slice Ax nx cx, .string xm.tp, .string xm.pl] 50) = w8 at *
          refine (qLen_calls w8 p b' a0 X' HR8.out.q).mono ?_
          rintro e w9 ⟨rfl, rfl⟩
          go_wp2_with fail
          refine (qWeigh_calls w8 p b' a0 X' HR8.out.q HX4.out).mono ?_
          rintro e w9 ⟨rfl, rfl⟩
          rw [HWV.out]
          generalize floatOfInt .f32 (heavyL X') = fh' at *
          generalize floatOfInt .f32 (lightL X') = fl' at *
          go_wp2_with fail
          refine (qLen_calls w8 p b' a0 X' HR8.out.q).mono ?_
          rintro e w9 ⟨rfl, rfl⟩
          go_wp2
          go_roundw
          case rel => exact ⟨k + 1, X', b', by omega, by go_num, HR8.out⟩
          case measure => simp [intOf]; omega
      · have HF := Lib.hid HR.out.bel
        by_cases hl : k < zs.length
        · have h40 : k = 40 := by omega
          subst h40
          go_wp2
          go_ret
          exact ⟨rfl, HF.out⟩
        · have hkl : ¬ ((k : Int) < zs.length) := by omega
          go_wp2
          go_ret
          exact ⟨rfl, HF.out⟩

set_option maxRecDepth 100000 in
theorem lifted (os : Os) (started : os.Started) (H : Type) (enc : TypeId × Value → H) :
    ReturnsInHanded {} Try.checked os 9 .any (Rows.queueHeavySpec.pre6 enc Try.prog Try.f9 Rows.queueHeavyRow.domain false) (Rows.queueHeavySpec.post enc Try.prog Try.f9 false true false false) := by
  refine returnsInHanded_of_change (C := Try.checked) own started (by kernel_rfl) Try.func9
    (ChangeSpec.witness6 (enc := enc) (C := Try.checked) false ⟨#[], #[.int .i64 0, .slice none 0 0], []⟩ 8 (by kernel_rfl) (by kernel_rfl) (by kernel_rfl) (by kernel_rfl)) ?_
  intro W base args ds gs before hval0 hW hcnd _
  have hval : ∀ (j : Nat) t v, Try.f9.params[j]? = some t → args[j]? = some v → Value.okWide Try.prog W .any base t v := hval0
  have hW' := hW
  obtain ⟨p, q, hA0, hV, rfl, hfz, hnd⟩ := hW
  have hA : DataW.TrodAll enc Try.prog W 0 (fun _ => true) true Try.f9.params.toList args.toList ds p := hA0
  rw [Try.params9] at hA hval
  obtain ⟨v0, vs0, d0, ds0, p0, q0, hargs, rfl, rfl, h0, r0⟩ := trodAll_cons hA
  obtain ⟨v1, vs1, d1, ds1, p1, q1, rfl, rfl, rfl, h1, r1⟩ := trodAll_cons r0
  obtain ⟨rfl, rfl, rfl⟩ := trodAll_nil r1
  obtain rfl : args = #[v0, v1] := by cases args; simp_all
  obtain ⟨rfl, rfl⟩ := trodVars_none hV
  obtain ⟨a0, rfl, rfl, rfl, w0⟩ := open_int Try.underlying3 (hval 0 3 v0 rfl rfl) h0
  have k1 := h1
  have lt1 : ∀ x ∈ p1, x.block < W.heap.size := by obtain ⟨m, hm⟩ := k1; exact DataW.trod_lt m _ _ _ hm
  obtain ⟨a1, w1⟩ := open_msgsIn (hval 1 87 v1 rfl rfl) h1
  clear hA0 hval0
  refine (walk a0 w0 v1 a1 W w1).mono fun e W' ⟨he, bel⟩ => ?_
  subst he
  exact ⟨_, rfl, _, _, _, [], _, [], hW', trodAll_mk1 (shut_bool Try.underlying4 _), (trodAll_cons_mk (shut_int Try.underlying3 w0) (trodAll_cons_mk (Below.trod laidOut (by kernel_rfl) (of_decide_eq_true (by kernel_rfl)) k1 bel lt1) trodAll_mk0)), rfl, bel.frame _, fun h => by cases h⟩

theorem over : Rows.queueHeavyRow.holds Try.pinned (OpenSpec.ofChange Rows.queueHeavySpec) :=
  OpenClaim.holds_of_wide 9 Try.f9 rfl rfl rfl rfl rfl rfl rfl ⟨rfl, rfl, rfl, rfl, rfl⟩ rfl rfl rfl rfl rfl (by kernel_rfl) Try.func9 (by kernel_rfl)
    (of_decide_eq_true (by kernel_rfl)) (by unfold Func.isWrapper; first | (rw [if_pos (by decide +kernel)]; kernel_rfl) | (rw [if_neg (by decide +kernel)]; exact ⟨rfl, rfl⟩))
    (fun os started H enc _ => lifted os started H enc)

end Go.Proofs.Yteofjcmpelcmaaa.queueHeavy
namespace Go.Proofs.Yteofjcmpelcmaaa
/-- The statement. -/
theorem queueHeavy_holds : Rows.QueueHeavySaid := queueHeavy.over
#print axioms queueHeavy_holds
end Go.Proofs.Yteofjcmpelcmaaa
