/-
  Any identifier, any order of comings and ends, any others: each is new at most once until it is released.
  Its conditions: none beside those of the row itself.
-/
import Derived.Test.YticlenpgokajdaaJInb3
import Derived.ProofKit
import Derived.OpenShut
import Derived.ShutString
import Derived.ChangeOld
namespace Go.Proofs.Yticlenpgokajdaa.inboundOnce
open Go.ChangeShapes Go.WideShapes Go.ChangeAt Go.RowKit
open Go.ChangeMaps (open_string shut_string)
set_option linter.unusedVariables false

theorem own : ownKnob Try.prog.godebug = none := by kernel_rfl
theorem laidOut : laidOutB Try.prog = true := by kernel_rfl

/-- What Begin of another identifier leaves. -/
def OtherR (w : World) (p b most T n : Nat) (U : List Nat) (e : Ending) (w' : World) : Prop :=
  ∃ v U' f', e = .returned v ∧ InbAt w' p b most (T + 1) U' f' ∧ decide (n ∈ U') = decide (n ∈ U) ∧ U'.length ≤ U.length + 1 ∧ Moved w w' p b

theorem begin_other (w : World) (p b most T : Nat) (U : List Nat) (f : Nat → Int) (x n : Nat) (hne : x ≠ n) (hT : T < 1000000) (h : InbAt w p b most T U f) :
    Calls Try.prog 25 #[.pointer (some ⟨p, 0, none⟩), .int .u32 x] w (OtherR w p b most T n U) := by
  by_cases h1 : x < 1 ∨ 65535 < x
  · refine (inbBegin_none w p x h1).mono ?_
    rintro e w' ⟨rfl, rfl⟩
    exact ⟨_, U, f, rfl, h.more, rfl, by omega, Moved.refl _ _ _⟩
  · by_cases h2 : x ∈ U
    · refine (inbBegin_again w p b most T U f x (by omega) (by omega) h2 hT h).mono ?_
      rintro e w' ⟨rfl, h', m'⟩
      exact ⟨_, U, _, rfl, h', rfl, by omega, m'⟩
    · by_cases h3 : most ≤ U.length
      · refine (inbBegin_quota w p b most T U f x (by omega) (by omega) h2 h3 h).mono ?_
        rintro e w' ⟨rfl, k, rfl⟩
        exact ⟨_, U, f, rfl, h.more.keep rfl rfl, rfl, by omega, drew_moved _ _ _ _⟩
      · refine (inbBegin_new w p b most T U f x (by omega) (by omega) h2 (by omega) h).mono ?_
        rintro e w' ⟨rfl, h', m'⟩
        refine ⟨_, ins x U, _, rfl, h', ?_, by rw [length_ins]; exact Nat.le_refl _, m'⟩
        simp [mem_ins, Ne.symm hne]

def CutR (w : World) (p b T n : Nat) (U : List Nat) (wx : World) : Prop :=
  ∃ U' f', InbAt wx p b 1000 (T + 1) U' f' ∧ decide (n ∈ U') = decide (n ∈ U) ∧ U'.length ≤ T + 1 ∧ Below w.heap.size w wx

set_option maxRecDepth 100000 in
set_option maxHeartbeats 4000000 in
theorem walk (a0 : Int) (w0 : (Lit.int .u32 a0).wf = true) (v1 : Value) (bs : List Bool) (v2 : Value) (zs : List Nat) (w : World) (hbz : BoolsIn w v1 bs) (hz : U32sIn w v2 zs) :
    Calls Try.prog 9 #[.int .u32 a0, v1, v2] w fun e w' => e = .returned (.bool true) ∧ Below w.heap.size w w' := by
  have b0 := bounds_u32 w0
  clear w0
  obtain ⟨x, rfl⟩ := Int.eq_ofNat_of_zero_le b0.1
  obtain ⟨n, hn⟩ : ∃ n : Nat, x % 65535 + 1 = n := ⟨_, rfl⟩
  have hn1 : 1 ≤ n := by omega
  have hn2 : n ≤ 65535 := by omega
  have hr0 : 0 ≤ (x : Int) % 65535 := by omega
  have hr1 : (x : Int) % 65535 ≤ 65534 := by omega
  have hr : 1 + (x : Int) % 65535 = (n : Int) := by omega
  have HN := Lib.hid (show n < 4294967296 by omega)
  clear b0 hn
  obtain ⟨A, cap, rfl, hzl, hcell⟩ := hbz
  have HCB := Lib.hid hcell
  have hlb : bs.length ≤ 9223372036854775807 := by unfold maxLen at hzl; omega
  clear hcell hzl
  obtain ⟨A2, cap2, rfl, hzl, hcell⟩ := hz
  have HCZ := Lib.hid hcell
  have hlz : zs.length ≤ 9223372036854775807 := by unfold maxLen at hzl; omega
  clear hcell hzl
  go_enter Try.func9, Try.ntmps9
  go_wp2_with fail
  refine (awake14_calls _).mono ?_
  rintro e w2 ⟨rfl, b2⟩
  have HB2 := Lib.hid b2
  clear b2
  go_wp2_with fail
  refine (inbNew_calls _ 1000 1000 rfl).mono ?_
  rintro e w3 ⟨p, b, rfl, q3, b3, hp, hb⟩
  have HB3 := Lib.hid (HB2.out.trans (b3.mono HB2.out.size))
  have hp0 : w.heap.size ≤ p := Nat.le_trans HB2.out.size hp
  have hb0 : w.heap.size ≤ b := Nat.le_trans HB2.out.size hb
  have Q3 := Lib.hid q3
  clear b3 HB2 q3 hp hb
  go_wp2_with fail
  go_loopw [8, 9] (fun ws i wr => ∃ (k T : Nat) (U : List Nat) (f : Nat → Int), k ≤ bs.length ∧ k ≤ 40 ∧ ws = .bool (decide (n ∈ U)) ∧ i = .int .i64 k ∧ InbAt wr p b 1000 T U f ∧ T ≤ 2 * k ∧ U.length ≤ T ∧ Below w.heap.size w wr) (fun _ i _ => 40 - (intOf i).toNat)
  case atStart => exact ⟨0, 0, [], _, Nat.zero_le _, Nat.zero_le _, rfl, rfl, Q3.out, Nat.zero_le _, Nat.zero_le _, HB3.out⟩
  case round =>
    clear Q3 HB3
    obtain ⟨k, T, U, f, hk, hk4, rfl, rfl, q, hT, hUT, bw⟩ := hrel
    have HB := Lib.hid bw
    have HQ := Lib.hid q
    clear bw q
    by_cases hlt : k < bs.length ∧ k < 40
    · obtain ⟨hlt, hl4⟩ := hlt
      obtain ⟨ab, ao, rfl, habl, hc0⟩ := HCB.out k hlt
      have HC0 := Lib.hid hc0
      have HCell : ∀ wr : World, Below w.heap.size w wr → wr.cell? ⟨ab, ao + k, none⟩ = some (.bool (bs.getD k false)) := fun wr hb => (hb.cell (p := ⟨ab, ao + k, none⟩) habl).trans hc0
      have HCE := Lib.hid HCell
      clear hc0 HCell HCB
      generalize bs.getD k false = en at *
      obtain ⟨wb, hwb⟩ : ∃ wb, decide (n ∈ U) = wb := ⟨_, rfl⟩
      have HU := Lib.hid hwb
      rw [hwb]
      clear hwb
      have HT := Lib.hid hT
      have HUT := Lib.hid hUT
      have hT2 : T < 1000000 := by omega
      have HT2 := Lib.hid hT2
      clear hT hUT hT2
      cases en
      · have hc := HCE.out wr HB.out
        cases wb
        all_goals
          by_cases hoth : k < zs.length
          · obtain ⟨zb, zo, rfl, hzbl, hd0, hy⟩ := HCZ.out k hoth
            have hd : wr.cell? ⟨zb, zo + k, none⟩ = some (.int .u32 (zs.getD k 0 : Nat)) := (HB.out.cell (p := ⟨zb, zo + k, none⟩) hzbl).trans hd0
            clear hd0 hy
            generalize zs.getD k 0 = y at *
            by_cases hyn : y = n
            · obtain rfl : n = y := hyn.symm
              have HX := Lib.hid (show CutR w p b T n U wr from ⟨U, f, HQ.out.more, rfl, Nat.le_succ_of_le HUT.out, HB.out⟩)
              clear HB HQ hyn
              obtain ⟨U9, f9, q9, hdec9, hU9, b9⟩ := HX.out
              have hdd := hdec9.trans HU.out
              have HQ9 := Lib.hid q9
              have HB9 := Lib.hid b9
              clear q9 hdec9 b9 HX
              first
              | (have hin : n ∈ U9 := of_decide_eq_true hdd
                 have HI := Lib.hid hin
                 clear hdd hin
                 go_wp2_with fail
                 with_reducible refine (inbBegin_again _ p b 1000 (T + 1) U9 f9 n hn1 hn2 HI.out (by have := HT2.out; have := HT.out; omega) HQ9.out).mono ?_
                 rintro e w6 ⟨rfl, q6, m6⟩
                 have HB6 := Lib.hid (HB9.out.trans (m6.below hp0 hb0 HB9.out.size))
                 have HQ6 := Lib.hid q6
                 clear q6 m6 HB9 HQ9
                 go_wp2
                 go_roundw
                 case rel => exact ⟨k + 1, T + 1 + 1, U9, _, by omega, by omega, by rw [decide_eq_true HI.out], by go_num, HQ6.out, by have := HT.out; omega, by omega, HB6.out⟩
                 case measure => simp [intOf]; omega)
              | (have hin : n ∉ U9 := of_decide_eq_false hdd
                 have HI := Lib.hid hin
                 clear hdd hin
                 go_wp2_with fail
                 with_reducible refine (inbBegin_new _ p b 1000 (T + 1) U9 f9 n hn1 hn2 HI.out (by have := HT.out; omega) HQ9.out).mono ?_
                 rintro e w6 ⟨rfl, q6, m6⟩
                 have HB6 := Lib.hid (HB9.out.trans (m6.below hp0 hb0 HB9.out.size))
                 have HQ6 := Lib.hid q6
                 clear q6 m6 HB9 HQ9
                 go_wp2
                 go_roundw
                 case rel => exact ⟨k + 1, T + 1 + 1, ins n U9, _, by omega, by omega, by rw [decide_eq_true ((mem_ins n n U9).2 (.inl rfl))], by go_num, HQ6.out, by have := HT.out; omega, by rw [length_ins]; omega, HB6.out⟩
                 case measure => simp [intOf]; omega)
            · have HYN := Lib.hid hyn
              have hyb : ((y : Int) != (n : Int)) = true := by simp; omega
              clear hyn
              go_wp2_with fail
              with_reducible refine (begin_other _ p b 1000 T U f y n HYN.out HT2.out HQ.out).mono ?_
              rintro e w4 ⟨v, U', f', rfl, q', hdec, hU', m'⟩
              have hbb := HB.out.trans (m'.below hp0 hb0 HB.out.size)
              have HX := Lib.hid (show CutR w p b T n U w4 from ⟨U', f', q', hdec, by have := HUT.out; omega, hbb⟩)
              have hc := HCE.out w4 hbb
              clear HB HQ q' hdec hU' m' hbb hd
              obtain ⟨U9, f9, q9, hdec9, hU9, b9⟩ := HX.out
              have hdd := hdec9.trans HU.out
              have HQ9 := Lib.hid q9
              have HB9 := Lib.hid b9
              clear q9 hdec9 b9 HX
              first
              | (have hin : n ∈ U9 := of_decide_eq_true hdd
                 have HI := Lib.hid hin
                 clear hdd hin
                 go_wp2_with fail
                 with_reducible refine (inbBegin_again _ p b 1000 (T + 1) U9 f9 n hn1 hn2 HI.out (by have := HT2.out; have := HT.out; omega) HQ9.out).mono ?_
                 rintro e w6 ⟨rfl, q6, m6⟩
                 have HB6 := Lib.hid (HB9.out.trans (m6.below hp0 hb0 HB9.out.size))
                 have HQ6 := Lib.hid q6
                 clear q6 m6 HB9 HQ9
                 go_wp2
                 go_roundw
                 case rel => exact ⟨k + 1, T + 1 + 1, U9, _, by omega, by omega, by rw [decide_eq_true HI.out], by go_num, HQ6.out, by have := HT.out; omega, by omega, HB6.out⟩
                 case measure => simp [intOf]; omega)
              | (have hin : n ∉ U9 := of_decide_eq_false hdd
                 have HI := Lib.hid hin
                 clear hdd hin
                 go_wp2_with fail
                 with_reducible refine (inbBegin_new _ p b 1000 (T + 1) U9 f9 n hn1 hn2 HI.out (by have := HT.out; omega) HQ9.out).mono ?_
                 rintro e w6 ⟨rfl, q6, m6⟩
                 have HB6 := Lib.hid (HB9.out.trans (m6.below hp0 hb0 HB9.out.size))
                 have HQ6 := Lib.hid q6
                 clear q6 m6 HB9 HQ9
                 go_wp2
                 go_roundw
                 case rel => exact ⟨k + 1, T + 1 + 1, ins n U9, _, by omega, by omega, by rw [decide_eq_true ((mem_ins n n U9).2 (.inl rfl))], by go_num, HQ6.out, by have := HT.out; omega, by rw [length_ins]; omega, HB6.out⟩
                 case measure => simp [intOf]; omega)
          · have HX := Lib.hid (show CutR w p b T n U wr from ⟨U, f, HQ.out.more, rfl, Nat.le_succ_of_le HUT.out, HB.out⟩)
            clear HB HQ
            obtain ⟨U9, f9, q9, hdec9, hU9, b9⟩ := HX.out
            have hdd := hdec9.trans HU.out
            have HQ9 := Lib.hid q9
            have HB9 := Lib.hid b9
            clear q9 hdec9 b9 HX
            first
            | (have hin : n ∈ U9 := of_decide_eq_true hdd
               have HI := Lib.hid hin
               clear hdd hin
               go_wp2_with fail
               with_reducible refine (inbBegin_again _ p b 1000 (T + 1) U9 f9 n hn1 hn2 HI.out (by have := HT2.out; have := HT.out; omega) HQ9.out).mono ?_
               rintro e w6 ⟨rfl, q6, m6⟩
               have HB6 := Lib.hid (HB9.out.trans (m6.below hp0 hb0 HB9.out.size))
               have HQ6 := Lib.hid q6
               clear q6 m6 HB9 HQ9
               go_wp2
               go_roundw
               case rel => exact ⟨k + 1, T + 1 + 1, U9, _, by omega, by omega, by rw [decide_eq_true HI.out], by go_num, HQ6.out, by have := HT.out; omega, by omega, HB6.out⟩
               case measure => simp [intOf]; omega)
            | (have hin : n ∉ U9 := of_decide_eq_false hdd
               have HI := Lib.hid hin
               clear hdd hin
               go_wp2_with fail
               with_reducible refine (inbBegin_new _ p b 1000 (T + 1) U9 f9 n hn1 hn2 HI.out (by have := HT.out; omega) HQ9.out).mono ?_
               rintro e w6 ⟨rfl, q6, m6⟩
               have HB6 := Lib.hid (HB9.out.trans (m6.below hp0 hb0 HB9.out.size))
               have HQ6 := Lib.hid q6
               clear q6 m6 HB9 HQ9
               go_wp2
               go_roundw
               case rel => exact ⟨k + 1, T + 1 + 1, ins n U9, _, by omega, by omega, by rw [decide_eq_true ((mem_ins n n U9).2 (.inl rfl))], by go_num, HQ6.out, by have := HT.out; omega, by rw [length_ins]; omega, HB6.out⟩
               case measure => simp [intOf]; omega)
      · have hc := HCE.out wr HB.out
        cases wb
        all_goals
          by_cases hoth : k < zs.length
          · obtain ⟨zb, zo, rfl, hzbl, hd0, hy⟩ := HCZ.out k hoth
            have hd : wr.cell? ⟨zb, zo + k, none⟩ = some (.int .u32 (zs.getD k 0 : Nat)) := (HB.out.cell (p := ⟨zb, zo + k, none⟩) hzbl).trans hd0
            clear hd0 hy
            generalize zs.getD k 0 = y at *
            by_cases hyn : y = n
            · obtain rfl : n = y := hyn.symm
              have HX := Lib.hid (show CutR w p b T n U wr from ⟨U, f, HQ.out.more, rfl, Nat.le_succ_of_le HUT.out, HB.out⟩)
              clear HB HQ hyn
              obtain ⟨U9, f9, q9, hdec9, hU9, b9⟩ := HX.out
              have hdd := hdec9.trans HU.out
              have HD9 := Lib.hid hdd
              have HQ9 := Lib.hid q9
              have HB9 := Lib.hid b9
              clear q9 hdec9 b9 HX hdd
              go_wp2_with fail
              with_reducible refine (inbEnd_calls _ p b 1000 (T + 1) U9 f9 n HN.out HQ9.out).mono ?_
              rw [HD9.out]
              rintro e w6 ⟨rfl, q6, m6⟩
              have HB6 := Lib.hid (HB9.out.trans (m6.below hp0 hb0 HB9.out.size))
              have HQ6 := Lib.hid q6
              have hcl : (cut1 n U9).length ≤ U9.length := List.length_filter_le _ _
              have HCL := Lib.hid hcl
              clear q6 m6 HB9 HQ9 hcl
              go_wp2
              go_roundw
              case rel => exact ⟨k + 1, T + 1, cut1 n U9, _, by omega, by omega, by rw [decide_eq_false (fun h => ((mem_cut1 n n U9).1 h).2 rfl)], by go_num, HQ6.out, by have := HT.out; omega, by have := HCL.out; omega, HB6.out⟩
              case measure => simp [intOf]; omega
            · have HYN := Lib.hid hyn
              have hyb : ((y : Int) != (n : Int)) = true := by simp; omega
              clear hyn
              go_wp2_with fail
              with_reducible refine (begin_other _ p b 1000 T U f y n HYN.out HT2.out HQ.out).mono ?_
              rintro e w4 ⟨v, U', f', rfl, q', hdec, hU', m'⟩
              have hbb := HB.out.trans (m'.below hp0 hb0 HB.out.size)
              have HX := Lib.hid (show CutR w p b T n U w4 from ⟨U', f', q', hdec, by have := HUT.out; omega, hbb⟩)
              have hc := HCE.out w4 hbb
              clear HB HQ q' hdec hU' m' hbb hd
              obtain ⟨U9, f9, q9, hdec9, hU9, b9⟩ := HX.out
              have hdd := hdec9.trans HU.out
              have HD9 := Lib.hid hdd
              have HQ9 := Lib.hid q9
              have HB9 := Lib.hid b9
              clear q9 hdec9 b9 HX hdd
              go_wp2_with fail
              with_reducible refine (inbEnd_calls _ p b 1000 (T + 1) U9 f9 n HN.out HQ9.out).mono ?_
              rw [HD9.out]
              rintro e w6 ⟨rfl, q6, m6⟩
              have HB6 := Lib.hid (HB9.out.trans (m6.below hp0 hb0 HB9.out.size))
              have HQ6 := Lib.hid q6
              have hcl : (cut1 n U9).length ≤ U9.length := List.length_filter_le _ _
              have HCL := Lib.hid hcl
              clear q6 m6 HB9 HQ9 hcl
              go_wp2
              go_roundw
              case rel => exact ⟨k + 1, T + 1, cut1 n U9, _, by omega, by omega, by rw [decide_eq_false (fun h => ((mem_cut1 n n U9).1 h).2 rfl)], by go_num, HQ6.out, by have := HT.out; omega, by have := HCL.out; omega, HB6.out⟩
              case measure => simp [intOf]; omega
          · have HX := Lib.hid (show CutR w p b T n U wr from ⟨U, f, HQ.out.more, rfl, Nat.le_succ_of_le HUT.out, HB.out⟩)
            clear HB HQ
            obtain ⟨U9, f9, q9, hdec9, hU9, b9⟩ := HX.out
            have hdd := hdec9.trans HU.out
            have HD9 := Lib.hid hdd
            have HQ9 := Lib.hid q9
            have HB9 := Lib.hid b9
            clear q9 hdec9 b9 HX hdd
            go_wp2_with fail
            with_reducible refine (inbEnd_calls _ p b 1000 (T + 1) U9 f9 n HN.out HQ9.out).mono ?_
            rw [HD9.out]
            rintro e w6 ⟨rfl, q6, m6⟩
            have HB6 := Lib.hid (HB9.out.trans (m6.below hp0 hb0 HB9.out.size))
            have HQ6 := Lib.hid q6
            have hcl : (cut1 n U9).length ≤ U9.length := List.length_filter_le _ _
            have HCL := Lib.hid hcl
            clear q6 m6 HB9 HQ9 hcl
            go_wp2
            go_roundw
            case rel => exact ⟨k + 1, T + 1, cut1 n U9, _, by omega, by omega, by rw [decide_eq_false (fun h => ((mem_cut1 n n U9).1 h).2 rfl)], by go_num, HQ6.out, by have := HT.out; omega, by have := HCL.out; omega, HB6.out⟩
            case measure => simp [intOf]; omega
    · have hor : k = bs.length ∨ (k < bs.length ∧ 40 ≤ k) := by omega
      obtain ⟨v, hv⟩ : ∃ v, f n = v := ⟨_, rfl⟩
      have hpos := HQ.out.wait.pos n
      rw [hv] at hpos
      have hbd : decide (0 < v) = decide (n ∈ U) := by
        by_cases e : n ∈ U
        · simp [e, hpos.2 e]
        · have : ¬ 0 < v := fun h => e (hpos.1 h)
          simp [e, this]
      obtain ⟨wb, hwb⟩ : ∃ wb, decide (n ∈ U) = wb := ⟨_, rfl⟩
      rw [hwb] at hbd
      rw [hwb]
      have HV := Lib.hid hv
      clear hlt hv hpos hwb
      cases wb
      all_goals
        rcases hor with h | ⟨h, h6⟩
        · subst h
          go_wp2_with fail
          with_reducible refine (inbTimes_calls _ p b 1000 T U f n v HV.out HN.out HQ.out).mono ?_
          rintro e w4 ⟨rfl, rfl⟩
          go_wp2
          go_ret
          exact ⟨rfl, HB.out⟩
        · go_wp2_with fail
          with_reducible refine (inbTimes_calls _ p b 1000 T U f n v HV.out HN.out HQ.out).mono ?_
          rintro e w4 ⟨rfl, rfl⟩
          go_wp2
          go_ret
          exact ⟨rfl, HB.out⟩

set_option maxRecDepth 100000 in
theorem lifted (os : Os) (started : os.Started) (H : Type) (enc : TypeId × Value → H) :
    ReturnsInHanded {} Try.checked os 9 .any (Rows.inboundOnceSpec.pre6 enc Try.prog Try.f9 Rows.inboundOnceRow.domain false) (Rows.inboundOnceSpec.post enc Try.prog Try.f9 false true false false) := by
  refine returnsInHanded_of_change (C := Try.checked) own started (by kernel_rfl) Try.func9
    (ChangeSpec.witness6 (enc := enc) (C := Try.checked) false ⟨#[], #[.int .u32 0, .slice none 0 0, .slice none 0 0], []⟩ 8 (by kernel_rfl) (by kernel_rfl) (by kernel_rfl) (by kernel_rfl)) ?_
  intro W base args ds gs before hval0 hW hcnd _
  have hval : ∀ (j : Nat) t v, Try.f9.params[j]? = some t → args[j]? = some v → Value.okWide Try.prog W .any base t v := hval0
  have hW' := hW
  obtain ⟨p, q, hA0, hV, rfl, hfz, hnd⟩ := hW
  have hA : DataW.TrodAll enc Try.prog W 0 (fun _ => true) true Try.f9.params.toList args.toList ds p := hA0
  rw [Try.params9] at hA hval
  obtain ⟨v0, vs0, d0, ds0, p0, q0, hargs, rfl, rfl, h0, r0⟩ := trodAll_cons hA
  obtain ⟨v1, vs1, d1, ds1, p1, q1, rfl, rfl, rfl, h1, r1⟩ := trodAll_cons r0
  obtain ⟨v2, vs2, d2, ds2, p2, q2, rfl, rfl, rfl, h2, r2⟩ := trodAll_cons r1
  obtain ⟨rfl, rfl, rfl⟩ := trodAll_nil r2
  obtain rfl : args = #[v0, v1, v2] := by cases args; simp_all
  obtain ⟨rfl, rfl⟩ := trodVars_none hV
  obtain ⟨a0, rfl, rfl, rfl, w0⟩ := open_int Try.underlying22 (hval 0 22 v0 rfl rfl) h0
  have k1 := h1
  have lt1 : ∀ x ∈ p1, x.block < W.heap.size := by obtain ⟨m, hm⟩ := k1; exact DataW.trod_lt m _ _ _ hm
  obtain ⟨a1, w1⟩ := open_boolsIn (hval 1 64 v1 rfl rfl) h1
  have k2 := h2
  have lt2 : ∀ x ∈ p2, x.block < W.heap.size := by obtain ⟨m, hm⟩ := k2; exact DataW.trod_lt m _ _ _ hm
  obtain ⟨a2, w2⟩ := open_u32sIn (hval 2 58 v2 rfl rfl) h2
  clear hA0 hval0
  refine (walk a0 w0 v1 a1 v2 a2 W w1 w2).mono fun e W' ⟨he, bel⟩ => ?_
  subst he
  exact ⟨_, rfl, _, _, _, [], _, [], hW', trodAll_mk1 (shut_bool Try.underlying4 _), (trodAll_cons_mk (shut_int Try.underlying22 w0) (trodAll_cons_mk (Below.trod laidOut (by kernel_rfl) (of_decide_eq_true (by kernel_rfl)) k1 bel lt1) (trodAll_cons_mk (Below.trod laidOut (by kernel_rfl) (of_decide_eq_true (by kernel_rfl)) k2 bel lt2) trodAll_mk0))), rfl, bel.frame _, fun h => by cases h⟩

theorem over : Rows.inboundOnceRow.holds Try.pinned (OpenSpec.ofChange Rows.inboundOnceSpec) :=
  OpenClaim.holds_of_wide 9 Try.f9 rfl rfl rfl rfl rfl rfl rfl ⟨rfl, rfl, rfl, rfl, rfl⟩ rfl rfl rfl rfl rfl (by kernel_rfl) Try.func9 (by kernel_rfl)
    (of_decide_eq_true (by kernel_rfl)) (by unfold Func.isWrapper; first | (rw [if_pos (by decide +kernel)]; kernel_rfl) | (rw [if_neg (by decide +kernel)]; exact ⟨rfl, rfl⟩))
    (fun os started H enc _ => lifted os started H enc)

end Go.Proofs.Yticlenpgokajdaa.inboundOnce
namespace Go.Proofs.Yticlenpgokajdaa
/-- The statement. -/
theorem inboundOnce_holds : Rows.InboundOnceSaid := inboundOnce.over
#print axioms inboundOnce_holds
end Go.Proofs.Yticlenpgokajdaa
