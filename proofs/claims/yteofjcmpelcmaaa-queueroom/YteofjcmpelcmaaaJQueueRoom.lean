/-
  While there is room nothing is dropped, and each message waits behind the others: the statement QueueRoom of layer 16 is true.
  Its conditions: none beside those of the row itself.
-/
import Derived.Test.YteofjcmpelcmaaaJQue11
import Derived.ProofKit
import Derived.Deep.RegionHeld3
import Derived.Deep.CutRange
import Derived.OpenShut
import Derived.ShutString
import Derived.ChangeOld
namespace Go.Proofs.Yteofjcmpelcmaaa.queueRoom
open Go.ChangeShapes Go.WideShapes Go.ChangeAt Go.RowKit
open Go.ChangeMaps (open_string shut_string)
set_option linter.unusedVariables false

theorem own : ownKnob Try.prog.godebug = none := by kernel_rfl
theorem laidOut : laidOutB Try.prog = true := by kernel_rfl

set_option maxRecDepth 100000 in
set_option maxHeartbeats 4000000 in
theorem walk (v1 : Value) (zs : List (Ms × Value)) (w : World) (hz : MsgsIn w v1 zs) :
    Calls Try.prog 12 #[v1] w fun e w' => e = .returned (.bool true) ∧ Below w.heap.size w w' := by
  obtain ⟨A, cap, rfl, hzl, hcell⟩ := hz
  have HCELL := Lib.hid hcell
  have hlm : zs.length ≤ 9223372036854775807 := by unfold maxLen at hzl; omega
  obtain ⟨n, hn⟩ : ∃ n : Nat, (if (20 : Int) < zs.length then 20 else (zs.length : Int)) = n := by
    by_cases h : (20 : Int) < zs.length
    · exact ⟨20, by rw [if_pos h]; rfl⟩
    · exact ⟨zs.length, by rw [if_neg h]⟩
  have hn1 : n ≤ 20 ∧ n ≤ zs.length := by split at hn <;> omega
  obtain ⟨hn20, hnz⟩ := hn1
  clear hcell hzl
  go_enter Try.func12, Try.ntmps12
  go_wp2_with fail
  refine (awake16_calls _).mono ?_
  rintro e w2 ⟨rfl, b2⟩
  have HB2 := Lib.hid b2
  clear b2
  go_wp2_with fail
  refine (qNew_calls w2 n).mono ?_
  rintro e w3 ⟨p, rfl, q3, hp3, b3⟩
  have hpw : w.heap.size ≤ p := Nat.le_trans HB2.out.size hp3
  have R3 := Lib.hid (show RunQ w p n [] p w3 from ⟨q3, by simp, hpw, hpw, Below.next HB2.out b3⟩)
  clear q3 hp3 b3 HB2 hn
  go_wp2
  go_loopw [5] (fun i wr => ∃ (k : Nat) (X : List Ms) (b : Nat), k ≤ n ∧ i = .int .i64 k ∧ X.length = k ∧ RunQ w p n X b wr) (fun i _ => n - (intOf i).toNat)
  case atStart => exact ⟨0, [], p, by omega, rfl, rfl, R3.out⟩
  case round =>
    obtain ⟨k, X, b, hk, rfl, hXk, hr⟩ := hrel
    have HR := Lib.hid hr
    clear hr
    by_cases hlt : k < n
    · obtain ⟨⟨m, v⟩, hx⟩ : ∃ x, zs[k]? = some x := ⟨_, List.getElem?_eq_getElem (by omega)⟩
      obtain ⟨hmin, bb, off, hA, hbl, hc⟩ := HCELL.out k _ hx
      subst hA
      dsimp only at hmin hc
      obtain ⟨Am, cm, hv, -⟩ := hmin.ps.at_
      subst hv
      have a0' := hc 0 (by omega)
      have a1 := hc 1 (by omega)
      have a2 := hc 2 (by omega)
      have a3 := hc 3 (by omega)
      have a4 := hc 4 (by omega)
      have a5 := hc 5 (by omega)
      have a6 := hc 6 (by omega)
      rw [Nat.add_zero] at a0'
      simp only [List.getElem?_cons_zero, List.getElem?_cons_succ] at a0' a1 a2 a3 a4 a5 a6
      have bel := HR.out.bel
      rw [← bel.cell (p := ⟨bb, _, none⟩) hbl] at a0' a1 a2 a3 a4 a5 a6
      have hin : MsIn wr m (.slice Am m.ps.length cm) := ⟨⟨hmin.ps.at_.keep (fun g _ hl => bel.block g hl) bel.size, hmin.ps.len, hmin.ps.num⟩, hmin.s0, hmin.s1, hmin.s2, hmin.t0, hmin.q0⟩
      have HIN := Lib.hid hin
      have hkl : (k : Int) < zs.length := by omega
      have hkn : (k : Int) < n := by omega
      clear hx hmin hc bel hin
      generalize m.ps.length = nm at *
      go_wp2_with fail
      refine (few12_calls wr m _ HIN.out).mono ?_
      rintro e w4 ⟨v4, rfl, hm4, hf4, hb4⟩
      obtain ⟨A4, c4, rfl⟩ := hm4.ps.form
      have hr4 := HR.out.below hb4
      have hfr4 : ∀ g, (Value.slice A4 (fewM m).ps.length c4).ownBlock = some g → g ≠ p ∧ g ≠ b := fun g hg => by have := hf4 g hg; have h1 := HR.out.q.lt; omega
      generalize fewM m = f at *
      generalize hnf : f.ps.length = nf at *
      have hb5 := below_one w4 (.cells #[.string f.src, .int .i64 f.tick, .int .u8 f.q, .bool f.rt, .slice A4 nf c4, .string f.tp, .string f.pl] 50)
      have HR5 := Lib.hid (hr4.below hb5)
      have HM5 := Lib.hid (hm4.below hb5)
      have HFR := Lib.hid hfr4
      have hx5 := heap_alloc_new w4 (.cells #[.string f.src, .int .i64 f.tick, .int .u8 f.q, .bool f.rt, .slice A4 nf c4, .string f.tp, .string f.pl] 50)
      have HX5 := Lib.hid hx5
      have hl4 := hr4.q.lt
      obtain ⟨d0, d1, d2, d3, d4, d5, d6, df⟩ := cells7 hx5
      clear hm4 hf4 hb4 hb5 hr4 hfr4 hx5 a0' a1 a2 a3 a4 a5 a6 HIN HR
      have HNF := Lib.hid hnf
      clear hnf
      go_wp2_with fail
      generalize w4.alloc (.cells #[.string f.src, .int .i64 f.tick, .int .u8 f.q, .bool f.rt, .slice A4 nf c4, .string f.tp, .string f.pl] 50) = w5 at *
      have hXl := HR5.out.len
      refine (qPush_calls w5 p b n X f _ HR5.out.q HM5.out HFR.out (by omega)).mono ?_
      intro e w7 h7
      obtain ⟨X', b', ok, xm, xv, rfl, hs⟩ := push_s h7 hXl
      obtain ⟨Ax, nx, cx, rfl⟩ := hs.xv
      obtain ⟨rfl, rfl⟩ := hs.room (by omega)
      have hr7 := HR5.out.push hs
      have hx7 := (hs.mv.block _ (lt_of_block HX5.out) (fun e => by omega)).trans HX5.out
      have hm7 := HM5.out.keep (fun g hg hl => hs.mv.block g hl (fun e => by have := HFR.out g hg; omega)) hs.mv.size
      have hb8 := below_one w7 (.cells #[.string xm.src, .int .i64 xm.tick, .int .u8 xm.q, .bool xm.rt, .slice Ax nx cx, .string xm.tp, .string xm.pl] 50)
      have HR8 := Lib.hid (hr7.below hb8)
      have HX8 := Lib.hid ((hb8.block _ (lt_of_block hx7)).trans hx7)
      have HM8 := Lib.hid (hm7.below hb8)
      have hXl' : (X ++ [f]).length = k + 1 := by simp; omega
      have HXL := Lib.hid hXl'
      clear h7 hs hr7 hx7 hm7 hb8 HM5 HFR HR5 HX5 d0 d1 d2 d3 d4 d5 d6 df
      go_wp2_with fail
      generalize w7.alloc (.cells #[.string xm.src, .int .i64 xm.tick, .int .u8 xm.q, .bool xm.rt, .slice Ax nx cx, .string xm.tp, .string xm.pl] 50) = w8 at *
      refine (qLen_calls w8 p b' n _ HR8.out.q).mono ?_
      rintro e w9 ⟨rfl, rfl⟩
      rw [HXL.out]
      have hadd : IntKind.i64.wrap ((k : Int) + 1) = ((k + 1 : Nat) : Int) := by rw [IntKind.wrap_i64]; omega
      go_wp2_with fail
      refine (qList_calls w8 p b' n _ HR8.out.q (by omega)).mono ?_
      rintro e w9 ⟨AL, bL, oL, cL, L, rfl, hLX, hLM, hb9⟩
      obtain ⟨L1, L2, rfl, hL1, hL2⟩ := List.map_eq_append_iff.1 hLX
      obtain ⟨⟨f', u⟩, L3, rfl, hf', hL3⟩ := List.map_eq_cons_iff.1 hL2
      obtain rfl : L3 = [] := by simpa using hL3
      dsimp only at hf'
      subst hf'
      have hl1 : L1.length = k := by have := congrArg List.length hL1; simp at this; omega
      have hu := hLM.each (f', u) (by simp)
      dsimp only at hu
      obtain ⟨Au, cu, rfl⟩ := hu.ps.form
      obtain ⟨hAL, hrow⟩ := row_at hLM.row
      subst hAL
      rw [hl1] at hrow
      have hx9 := (hb9.block _ (lt_of_block HX8.out)).trans HX8.out
      have hm9 := HM8.out.below hb9
      have HR9 := Lib.hid (HR8.out.below hb9)
      have hbLl := hLM.lt
      have HU := Lib.hid (show MsAt w9.drew f' (.slice Au f'.ps.length cu) from hu.below ((Below.refl _ _).drew))
      have HM9 := Lib.hid (show MsAt w9.drew f' (.slice A4 nf c4) from hm9.below ((Below.refl _ _).drew))
      have a0 := hrow 0 (by omega)
      have a1 := hrow 1 (by omega)
      have a2 := hrow 2 (by omega)
      have a3 := hrow 3 (by omega)
      have a4 := hrow 4 (by omega)
      have a5 := hrow 5 (by omega)
      have a6 := hrow 6 (by omega)
      rw [Nat.add_zero] at a0
      simp only [List.getElem?_cons_zero, List.getElem?_cons_succ] at a0 a1 a2 a3 a4 a5 a6
      obtain ⟨d0, d1, d2, d3, d4, d5, d6, df⟩ := cells7 hx9
      have HX9 := Lib.hid (show w9.drew.heap[w4.heap.size]? = _ from hx9)
      have hps := Lib.hid hu.len
      rw [HXL.out]
      have hkl1 : (k : Int) < (k : Int) + 1 := by omega
      clear hLX hL2 hL3 hLM hu hrow hx9 hm9 hb9 hXl' hXk
      rw [HNF.out] at *
      have HROW := Lib.hid (show ∀ (V : World), Below w9.drew.heap.size w9.drew V → (V.cell? ⟨bL, oL + k * 7, none⟩ = some (.string f'.src) ∧ V.cell? ⟨bL, oL + k * 7 + 1, none⟩ = some (.int .i64 f'.tick) ∧ V.cell? ⟨bL, oL + k * 7 + 2, none⟩ = some (.int .u8 f'.q) ∧ V.cell? ⟨bL, oL + k * 7 + 3, none⟩ = some (.bool f'.rt) ∧ V.cell? ⟨bL, oL + k * 7 + 4, none⟩ = some (.slice Au nf cu) ∧ V.cell? ⟨bL, oL + k * 7 + 5, none⟩ = some (.string f'.tp) ∧ V.cell? ⟨bL, oL + k * 7 + 6, none⟩ = some (.string f'.pl)) from fun V hV =>
        ⟨(hV.cell (p := ⟨bL, _, none⟩) hbLl).trans a0, (hV.cell (p := ⟨bL, _, none⟩) hbLl).trans a1, (hV.cell (p := ⟨bL, _, none⟩) hbLl).trans a2, (hV.cell (p := ⟨bL, _, none⟩) hbLl).trans a3, (hV.cell (p := ⟨bL, _, none⟩) hbLl).trans a4, (hV.cell (p := ⟨bL, _, none⟩) hbLl).trans a5, (hV.cell (p := ⟨bL, _, none⟩) hbLl).trans a6⟩)
      go_wp2_with fail
      go_region_law (first
        | (go_simp; go_at_call 32; (with_reducible refine (told12_calls w9.drew f' (.slice Au nf cu) HU.out).mono ?_); rintro e V1 ⟨ta, tn, tc, rfl, hta, hb1⟩; have TA := Lib.hid hta; have B1 := Lib.hid hb1; have MB1 := Lib.hid (HM9.out.below hb1); obtain ⟨e0, e1, e2, e3, e4, e5, e6, ef⟩ := cells7 ((hb1.block _ (lt_of_block HX9.out)).trans HX9.out); clear hta hb1)
        | (go_simp; go_at_call 32; (with_reducible refine (told12_calls w9.drew f' (.slice A4 nf c4) HM9.out).mono ?_); rintro e V1 ⟨ta, tn, tc, rfl, hta, hb1⟩; have TB := Lib.hid hta; have B1 := Lib.hid hb1; have MA1 := Lib.hid (HU.out.below hb1); obtain ⟨e0, e1, e2, e3, e4, e5, e6⟩ := HROW.out V1 hb1; clear hta hb1)
        | (go_simp; go_at_call 32; (with_reducible refine (told12_calls V1 f' (.slice A4 nf c4) MB1.out).mono ?_); rintro e V2 ⟨ua, un, uc, rfl, hta, hb2⟩; have TB := Lib.hid hta; have TA2 := Lib.hid (TA.out.below hb2); have B2 := Lib.hid (Below.next B1.out hb2); clear hta hb2)
        | (go_simp; go_at_call 32; (with_reducible refine (told12_calls V1 f' (.slice Au nf cu) MA1.out).mono ?_); rintro e V2 ⟨ua, un, uc, rfl, hta, hb2⟩; have TA2 := Lib.hid hta; have TB := Lib.hid (TB.out.below hb2); have B2 := Lib.hid (Below.next B1.out hb2); clear hta hb2)
        | (go_simp; go_at_call 33; refine (same12_calls V2 f' _ _ TA2.out TB.out HU.out.len).mono ?_; rintro e V3 ⟨rfl, hb3⟩; have B3 := Lib.hid (Below.next B2.out hb3); clear hb3))
      all_goals
        have HR10 := Lib.hid (HR9.out.below (Below.trans ((Below.refl _ _).drew) B3.out))
        clear e0 e1 e2 e3 e4 e5 e6 a0 a1 a2 a3 a4 a5 a6 d0 d1 d2 d3 d4 d5 d6 df
        go_wp2
        go_roundw
        case rel => exact ⟨k + 1, X ++ [f'], b', by omega, by go_num, HXL.out, HR10.out⟩
        case measure => simp [intOf]; omega
    · obtain rfl : k = n := by omega
      have hXl := HR.out.len
      have hkk : ¬ ((k : Int) < k) := by omega
      go_wp2_with fail
      refine (qPush_calls wr p b k X ⟨⟨#[]⟩, 0, 0, false, [], ⟨#[]⟩, ⟨#[]⟩⟩ (.slice none 0 0) HR.out.q ⟨⟨none, 0, rfl, fun i x hx => by simp at hx⟩, by simp⟩ (no_block _ _) (by omega)).mono ?_
      intro e w7 h7
      obtain ⟨X', b', ok, xm, xv, rfl, hs⟩ := push_s h7 hXl
      obtain ⟨Ax, nx, cx, rfl⟩ := hs.xv
      obtain ⟨rfl, hl7⟩ := hs.full (by omega)
      have hr7 := HR.out.push hs
      have hb8 := below_one w7 (.cells #[.string xm.src, .int .i64 xm.tick, .int .u8 xm.q, .bool xm.rt, .slice Ax nx cx, .string xm.tp, .string xm.pl] 50)
      have HR8 := Lib.hid (hr7.below hb8)
      have HL7 := Lib.hid (show X'.length = k by omega)
      clear h7 hs hr7 hb8
      go_wp2_with fail
      generalize w7.alloc (.cells #[.string xm.src, .int .i64 xm.tick, .int .u8 xm.q, .bool xm.rt, .slice Ax nx cx, .string xm.tp, .string xm.pl] 50) = w8 at *
      refine (qLen_calls w8 p b' k _ HR8.out.q).mono ?_
      rintro e w9 ⟨rfl, rfl⟩
      rw [HL7.out]
      have HB := Lib.hid HR8.out.bel
      go_wp2
      go_ret
      exact ⟨rfl, HB.out⟩

set_option maxRecDepth 100000 in
theorem lifted (os : Os) (started : os.Started) (H : Type) (enc : TypeId × Value → H) :
    ReturnsInHanded {} Try.checked os 12 .any (Rows.queueRoomSpec.pre6 enc Try.prog Try.f12 Rows.queueRoomRow.domain false) (Rows.queueRoomSpec.post enc Try.prog Try.f12 false true false false) := by
  refine returnsInHanded_of_change (C := Try.checked) own started (by kernel_rfl) Try.func12
    (ChangeSpec.witness6 (enc := enc) (C := Try.checked) false ⟨#[], #[.slice none 0 0], []⟩ 8 (by kernel_rfl) (by kernel_rfl) (by kernel_rfl) (by kernel_rfl)) ?_
  intro W base args ds gs before hval0 hW hcnd _
  have hval : ∀ (j : Nat) t v, Try.f12.params[j]? = some t → args[j]? = some v → Value.okWide Try.prog W .any base t v := hval0
  have hW' := hW
  obtain ⟨p, q, hA0, hV, rfl, hfz, hnd⟩ := hW
  have hA : DataW.TrodAll enc Try.prog W 0 (fun _ => true) true Try.f12.params.toList args.toList ds p := hA0
  rw [Try.params12] at hA hval
  obtain ⟨v0, vs0, d0, ds0, p0, q0, hargs, rfl, rfl, h0, r0⟩ := trodAll_cons hA
  obtain ⟨rfl, rfl, rfl⟩ := trodAll_nil r0
  obtain rfl : args = #[v0] := by cases args; simp_all
  obtain ⟨rfl, rfl⟩ := trodVars_none hV
  have k0 := h0
  have lt0 : ∀ x ∈ p0, x.block < W.heap.size := by obtain ⟨m, hm⟩ := k0; exact DataW.trod_lt m _ _ _ hm
  obtain ⟨a0, w0⟩ := open_msgsIn (hval 0 87 v0 rfl rfl) h0
  clear hA0 hval0
  refine (walk v0 a0 W w0).mono fun e W' ⟨he, bel⟩ => ?_
  subst he
  exact ⟨_, rfl, _, _, _, [], _, [], hW', trodAll_mk1 (shut_bool Try.underlying4 _), (trodAll_cons_mk (Below.trod laidOut (by kernel_rfl) (of_decide_eq_true (by kernel_rfl)) k0 bel lt0) trodAll_mk0), rfl, bel.frame _, fun h => by cases h⟩

theorem over : Rows.queueRoomRow.holds Try.pinned (OpenSpec.ofChange Rows.queueRoomSpec) :=
  OpenClaim.holds_of_wide 12 Try.f12 rfl rfl rfl rfl rfl rfl rfl ⟨rfl, rfl, rfl, rfl, rfl⟩ rfl rfl rfl rfl rfl (by kernel_rfl) Try.func12 (by kernel_rfl)
    (of_decide_eq_true (by kernel_rfl)) (by unfold Func.isWrapper; first | (rw [if_pos (by decide +kernel)]; kernel_rfl) | (rw [if_neg (by decide +kernel)]; exact ⟨rfl, rfl⟩))
    (fun os started H enc _ => lifted os started H enc)

end Go.Proofs.Yteofjcmpelcmaaa.queueRoom
namespace Go.Proofs.Yteofjcmpelcmaaa
/-- The statement. -/
theorem queueRoom_holds : Rows.QueueRoomSaid := queueRoom.over
#print axioms queueRoom_holds
end Go.Proofs.Yteofjcmpelcmaaa
