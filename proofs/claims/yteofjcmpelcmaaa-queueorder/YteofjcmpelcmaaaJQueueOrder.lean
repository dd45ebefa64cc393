/-
  Whatever the number and the messages, what waits is popped in the order in which it was pushed: the statement QueueOrder of layer 16 is true.
  Its conditions: none beside those of the row itself.
-/
import Derived.Test.YteofjcmpelcmaaaJQue10
import Derived.ProofKit
import Derived.OpenShut
import Derived.ShutString
import Derived.ChangeOld
namespace Go.Proofs.Yteofjcmpelcmaaa.queueOrder
open Go.ChangeShapes Go.WideShapes Go.ChangeAt Go.RowKit
open Go.ChangeMaps (open_string shut_string)
set_option linter.unusedVariables false

theorem own : ownKnob Try.prog.godebug = none := by kernel_rfl
theorem laidOut : laidOutB Try.prog = true := by kernel_rfl

set_option maxRecDepth 100000 in
set_option maxHeartbeats 4000000 in
theorem walk (a0 : Int) (w0 : (Lit.int .i64 a0).wf = true) (v1 : Value) (zs : List (Ms × Value)) (w : World) (hz : MsgsIn w v1 zs) :
    Calls Try.prog 10 #[.int .i64 a0, v1] w fun e w' => e = .returned (.bool true) ∧ Below w.heap.size w w' := by
  clear w0
  obtain ⟨A, cap, rfl, hzl, hcell⟩ := hz
  have HCELL := Lib.hid hcell
  have hlm : zs.length ≤ 9223372036854775807 := by unfold maxLen at hzl; omega
  clear hcell hzl
  by_cases hcond : a0 < 0 ∨ 20 < a0
  · rcases (show a0 < 0 ∨ (0 ≤ a0 ∧ 20 < a0) by omega) with h | ⟨h0, h⟩
    all_goals
      clear hcond
      go_enter Try.func10, Try.ntmps10
      go_wp2_with fail
      refine (awake16_calls _).mono ?_
      rintro e w2 ⟨rfl, b2⟩
      have HB2 := Lib.hid b2
      clear b2
      go_wp2_with fail
      refine (awake16_calls _).mono ?_
      rintro e w3 ⟨rfl, b3⟩
      have HB3 := Lib.hid (HB2.out.trans (b3.mono HB2.out.size))
      clear b3 HB2
      go_wp2
      go_ret
      exact ⟨rfl, HB3.out⟩
  · have h1 : 0 ≤ a0 := by omega
    have h2 : a0 ≤ 20 := by omega
    clear hcond
    go_enter Try.func10, Try.ntmps10
    go_wp2_with fail
    refine (awake16_calls _).mono ?_
    rintro e w2 ⟨rfl, b2⟩
    have HB2 := Lib.hid b2
    clear b2
    go_wp2_with fail
    refine (qNew_calls w2 a0).mono ?_
    rintro e w3 ⟨p, rfl, q3, hp3, b3⟩
    have hpw : w.heap.size ≤ p := Nat.le_trans HB2.out.size hp3
    have R3 := Lib.hid (show RunQ w p a0 [] p w3 from ⟨q3, by simpa using h1, hpw, hpw, Below.next HB2.out b3⟩)
    clear q3 hp3 b3 HB2
    go_wp2
    go_loopw [6] (fun i wr => ∃ (k : Nat) (X : List Ms) (b : Nat), k ≤ 40 ∧ i = .int .i64 k ∧ TickL X k ∧ RunQ w p a0 X b wr) (fun i _ => 40 - (intOf i).toNat)
    case atStart => exact ⟨0, [], p, by omega, rfl, ⟨List.Pairwise.nil, fun m hm => by cases hm⟩, R3.out⟩
    case round =>
      obtain ⟨k, X, b, hk, rfl, htk, hr⟩ := hrel
      have HTK := Lib.hid htk
      clear htk
      have HR := Lib.hid hr
      clear hr
      by_cases hlt : k < zs.length ∧ k < 40
      · obtain ⟨l1, l2⟩ := hlt
        obtain ⟨⟨m, v⟩, hx⟩ : ∃ x, zs[k]? = some x := ⟨_, List.getElem?_eq_getElem l1⟩
        obtain ⟨hmin, bb, off, hA, hbl, hc⟩ := HCELL.out k _ hx
        subst hA
        dsimp only at hmin hc
        obtain ⟨Am, cm, hv, -⟩ := hmin.ps.at_
        subst hv
        have a0' := hc 0 (by omega)
        have a1 := hc 1 (by omega)
        have a2 := hc 2 (by omega)
        have a3 := hc 3 (by omega)
        have a4 := hc 4 (by omega)
        have a5 := hc 5 (by omega)
        have a6 := hc 6 (by omega)
        rw [Nat.add_zero] at a0'
        simp only [List.getElem?_cons_zero, List.getElem?_cons_succ] at a0' a1 a2 a3 a4 a5 a6
        have bel := HR.out.bel
        rw [← bel.cell (p := ⟨bb, _, none⟩) hbl] at a0' a1 a2 a3 a4 a5 a6
        have hin : MsIn wr m (.slice Am m.ps.length cm) := ⟨⟨hmin.ps.at_.keep (fun g _ hl => bel.block g hl) bel.size, hmin.ps.len, hmin.ps.num⟩, hmin.s0, hmin.s1, hmin.s2, hmin.t0, hmin.q0⟩
        have HIN := Lib.hid hin
        have hkl : (k : Int) < zs.length := by omega
        have hk40 : (k : Int) < 40 := by omega
        clear hx hmin hc bel hin
        generalize m.ps.length = nm at *
        go_wp2_with fail
        refine (few12_calls wr m _ HIN.out).mono ?_
        rintro e w4 ⟨v4, rfl, hm4, hf4, hb4⟩
        obtain ⟨A4, c4, rfl⟩ := hm4.ps.form
        have hr4 := HR.out.below hb4
        generalize fewM m = f at *
        generalize hnf : f.ps.length = nf at *
        have HR6 := Lib.hid (hr4.below (below_one w4 (.cells #[.string f.src, .int .i64 k, .int .u8 f.q, .bool f.rt, .slice none 0 0, .string f.tp, .string f.pl] 50)))
        clear hm4 hf4 hb4 hr4 hnf a0' a1 a2 a3 a4 a5 a6 HIN HR
        go_wp2_with fail
        generalize w4.alloc (.cells #[.string f.src, .int .i64 k, .int .u8 f.q, .bool f.rt, .slice none 0 0, .string f.tp, .string f.pl] 50) = w6 at *
        have hXl := HR6.out.len
        refine (qPush_calls w6 p b a0 X ⟨f.src, k, f.q, f.rt, [], f.tp, f.pl⟩ (.slice none 0 0) HR6.out.q ⟨⟨none, 0, rfl, fun i x hx => by simp at hx⟩, by simp⟩ (no_block _ _) (by omega)).mono ?_
        intro e w7 h7
        obtain ⟨X', b', ok, xm, xv, rfl, hs⟩ := push_s h7 hXl
        have HR7 := Lib.hid (HR6.out.push hs)
        have HT7 := Lib.hid (HTK.out.push rfl hs.sub)
        obtain ⟨Ax, nx, cx, rfl⟩ := hs.xv
        clear h7 hs HR6 HTK
        go_wp2
        go_roundw
        case rel => exact ⟨k + 1, X', b', by omega, by go_num, HT7.out, HR7.out⟩
        case measure => simp [intOf]; omega
      · have hXl := HR.out.len
        have hexit : (k : Int) < zs.length ∧ k = 40 ∨ ¬ ((k : Int) < zs.length) := by omega
        rcases hexit with ⟨hl, rfl⟩ | hkl
        all_goals
          clear hlt
          go_wp2_with fail
          refine (qLen_calls wr p b a0 X HR.out.q).mono ?_
          rintro e w5 ⟨rfl, rfl⟩
          have HL0 := Lib.hid (show LeftL X (-1) from ⟨HTK.out.1, fun m hm => by have := HTK.out.2 m hm; omega⟩)
          go_wp2
          go_loopw [8, 10] (fun l i W => ∃ (j : Nat) (lv : Int) (Y : List Ms), i = .int .i64 j ∧ l = .int .i64 lv ∧ j + Y.length = X.length ∧ LeftL Y lv ∧ RunQ w p a0 Y b W) (fun _ i _ => X.length - (intOf i).toNat)
          case atStart => exact ⟨0, -1, X, rfl, rfl, by omega, HL0.out, HR.out⟩
          case round =>
            obtain ⟨j, lv, Y, rfl, rfl, hj, hlf, hr2⟩ := hrel
            have HR2 := Lib.hid hr2
            have HLF := Lib.hid hlf
            clear hr2 hlf
            have hYl := HR2.out.len
            by_cases hlt2 : j < X.length
            · have hlt2i : (j : Int) < X.length := by omega
              go_wp2_with fail
              refine (qPop_calls _ p b a0 Y HR2.out.q (by omega)).mono ?_
              intro e w7 h7
              rcases h7 with ⟨rfl, _⟩ | ⟨m, Y2, v, rfl, rfl, hm7, hq7, hmv7⟩
              · exact absurd hj (by simp; omega)
              obtain ⟨Ax, nx, rfl⟩ := hm7.ps.form
              have hb8 := below_one w7 (.cells #[.string m.src, .int .i64 m.tick, .int .u8 m.q, .bool m.rt, .slice Ax m.ps.length nx, .string m.tp, .string m.pl] 50)
              have hx8 := heap_alloc_new w7 (.cells #[.string m.src, .int .i64 m.tick, .int .u8 m.q, .bool m.rt, .slice Ax m.ps.length nx, .string m.tp, .string m.pl] 50)
              have HR8 := Lib.hid ((HR2.out.moved hq7 (by simp) hmv7).below hb8)
              have HL8 := Lib.hid HLF.out.next
              have hlo : ¬ (m.tick ≤ lv) := by have := HLF.out.lo m (by simp); omega
              have hj2 : j + 1 + Y2.length = X.length := by simp at hj; omega
              obtain ⟨d0, d1, d2, d3, d4, d5, d6, df⟩ := cells7 hx8
              clear hm7 hq7 hmv7 hb8 hx8 HR2 HLF hj hYl
              generalize m.ps.length = nm at *
              go_wp2
              go_roundw
              case rel => exact ⟨j + 1, m.tick, Y2, by go_num, rfl, hj2, HL8.out, HR8.out⟩
              case measure => simp [intOf]; omega
            · have hY : Y = [] := List.eq_nil_of_length_eq_zero (by omega)
              subst hY
              have hlt2i : ¬ ((j : Int) < X.length) := by omega
              go_wp2_with fail
              refine (qPop_calls _ p b a0 [] HR2.out.q (by simp)).mono ?_
              intro e w7 h7
              rcases h7 with ⟨_, rfl, hq7, hb7⟩ | ⟨m, Y2, v, h, _⟩
              rotate_left
              · cases h
              have hb8 := below_one w7 (.cells #[.string ⟨#[]⟩, .int .i64 0, .int .u8 0, .bool false, .slice none 0 0, .string ⟨#[]⟩, .string ⟨#[]⟩] 50)
              have HR8 := Lib.hid ((HR2.out.below hb7).below hb8)
              clear hq7 hb7 hb8 HR2
              go_wp2_with fail
              generalize w7.alloc (.cells #[.string ⟨#[]⟩, .int .i64 0, .int .u8 0, .bool false, .slice none 0 0, .string ⟨#[]⟩, .string ⟨#[]⟩] 50) = w8 at *
              refine (qLen_calls w8 p b a0 [] HR8.out.q).mono ?_
              rintro e w9 ⟨rfl, rfl⟩
              go_wp2_with fail
              refine (qWeigh_calls w8 p b a0 [] HR8.out.q (by simp)).mono ?_
              rintro e w9 ⟨rfl, rfl⟩
              have hw : wV32 (lightL []) (heavyL []) = .complex .f32 (floatOfInt .f32 ((0 : Nat) : Int)) (floatOfInt .f32 ((0 : Nat) : Int)) := rfl
              have ho := fl32_zero
              rw [hw]
              clear hw
              generalize floatOfInt .f32 ((0 : Nat) : Int) = z0 at *
              have HB := Lib.hid HR8.out.bel
              go_wp2
              go_ret
              exact ⟨rfl, HB.out⟩

set_option maxRecDepth 100000 in
theorem lifted (os : Os) (started : os.Started) (H : Type) (enc : TypeId × Value → H) :
    ReturnsInHanded {} Try.checked os 10 .any (Rows.queueOrderSpec.pre6 enc Try.prog Try.f10 Rows.queueOrderRow.domain false) (Rows.queueOrderSpec.post enc Try.prog Try.f10 false true false false) := by
  refine returnsInHanded_of_change (C := Try.checked) own started (by kernel_rfl) Try.func10
    (ChangeSpec.witness6 (enc := enc) (C := Try.checked) false ⟨#[], #[.int .i64 0, .slice none 0 0], []⟩ 8 (by kernel_rfl) (by kernel_rfl) (by kernel_rfl) (by kernel_rfl)) ?_
  intro W base args ds gs before hval0 hW hcnd _
  have hval : ∀ (j : Nat) t v, Try.f10.params[j]? = some t → args[j]? = some v → Value.okWide Try.prog W .any base t v := hval0
  have hW' := hW
  obtain ⟨p, q, hA0, hV, rfl, hfz, hnd⟩ := hW
  have hA : DataW.TrodAll enc Try.prog W 0 (fun _ => true) true Try.f10.params.toList args.toList ds p := hA0
  rw [Try.params10] at hA hval
  obtain ⟨v0, vs0, d0, ds0, p0, q0, hargs, rfl, rfl, h0, r0⟩ := trodAll_cons hA
  obtain ⟨v1, vs1, d1, ds1, p1, q1, rfl, rfl, rfl, h1, r1⟩ := trodAll_cons r0
  obtain ⟨rfl, rfl, rfl⟩ := trodAll_nil r1
  obtain rfl : args = #[v0, v1] := by cases args; simp_all
  obtain ⟨rfl, rfl⟩ := trodVars_none hV
  obtain ⟨a0, rfl, rfl, rfl, w0⟩ := open_int Try.underlying3 (hval 0 3 v0 rfl rfl) h0
  have k1 := h1
  have lt1 : ∀ x ∈ p1, x.block < W.heap.size := by obtain ⟨m, hm⟩ := k1; exact DataW.trod_lt m _ _ _ hm
  obtain ⟨a1, w1⟩ := open_msgsIn (hval 1 87 v1 rfl rfl) h1
  clear hA0 hval0
  refine (walk a0 w0 v1 a1 W w1).mono fun e W' ⟨he, bel⟩ => ?_
  subst he
  exact ⟨_, rfl, _, _, _, [], _, [], hW', trodAll_mk1 (shut_bool Try.underlying4 _), (trodAll_cons_mk (shut_int Try.underlying3 w0) (trodAll_cons_mk (Below.trod laidOut (by kernel_rfl) (of_decide_eq_true (by kernel_rfl)) k1 bel lt1) trodAll_mk0)), rfl, bel.frame _, fun h => by cases h⟩

theorem over : Rows.queueOrderRow.holds Try.pinned (OpenSpec.ofChange Rows.queueOrderSpec) :=
  OpenClaim.holds_of_wide 10 Try.f10 rfl rfl rfl rfl rfl rfl rfl ⟨rfl, rfl, rfl, rfl, rfl⟩ rfl rfl rfl rfl rfl (by kernel_rfl) Try.func10 (by kernel_rfl)
    (of_decide_eq_true (by kernel_rfl)) (by unfold Func.isWrapper; first | (rw [if_pos (by decide +kernel)]; kernel_rfl) | (rw [if_neg (by decide +kernel)]; exact ⟨rfl, rfl⟩))
    (fun os started H enc _ => lifted os started H enc)

end Go.Proofs.Yteofjcmpelcmaaa.queueOrder
namespace Go.Proofs.Yteofjcmpelcmaaa
/-- The statement. -/
theorem queueOrder_holds : Rows.QueueOrderSaid := queueOrder.over
#print axioms queueOrder_holds
end Go.Proofs.Yteofjcmpelcmaaa
