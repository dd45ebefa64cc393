/-
  Any number of those that may wait, any list: no more wait than may, and those that do may come again.
  Its conditions: none beside those of the row itself.
-/
import Derived.Test.YticlenpgokajdaaJInb3
import Derived.ProofKit
import Derived.OpenShut
import Derived.ShutString
import Derived.ChangeOld
namespace Go.Proofs.Yticlenpgokajdaa.inboundQuota
open Go.ChangeShapes Go.WideShapes Go.ChangeAt Go.RowKit
open Go.ChangeMaps (open_string shut_string)
set_option linter.unusedVariables false

theorem own : ownKnob Try.prog.godebug = none := by kernel_rfl
theorem laidOut : laidOutB Try.prog = true := by kernel_rfl

set_option maxRecDepth 100000 in
set_option maxHeartbeats 4000000 in
theorem walk (a0 : Int) (w0 : (Lit.int .i64 a0).wf = true) (v1 : Value) (zs : List Nat) (w : World) (hz : U32sIn w v1 zs) :
    Calls Try.prog 10 #[.int .i64 a0, v1] w fun e w' => e = .returned (.bool true) ∧ Below w.heap.size w w' := by
  clear w0
  obtain ⟨A, cap, rfl, hzl, hcell⟩ := hz
  have HCELL := Lib.hid hcell
  have hlm : zs.length ≤ 9223372036854775807 := by unfold maxLen at hzl; omega
  clear hcell hzl
  by_cases hcond : a0 < 0 ∨ 50 < a0
  · rcases (show a0 < 0 ∨ (0 ≤ a0 ∧ 50 < a0) by omega) with h | ⟨h0, h⟩
    all_goals
      clear hcond
      go_enter Try.func10, Try.ntmps10
      go_wp2_with fail
      refine (awake14_calls _).mono ?_
      rintro e w2 ⟨rfl, b2⟩
      have HB2 := Lib.hid b2
      clear b2
      go_wp2_with fail
      refine (awake14_calls _).mono ?_
      rintro e w3 ⟨rfl, b3⟩
      have HB3 := Lib.hid (HB2.out.trans (b3.mono HB2.out.size))
      clear b3 HB2
      go_wp2
      go_ret
      exact ⟨rfl, HB3.out⟩
  · have h1 : 0 ≤ a0 := by omega
    have h2 : a0 ≤ 50 := by omega
    clear hcond
    obtain ⟨m, rfl⟩ := Int.eq_ofNat_of_zero_le h1
    have hk : max (m : Int) 0 = (m : Int) := by omega
    have HK := Lib.hid hk
    clear hk h1
    go_enter Try.func10, Try.ntmps10
    go_wp2_with fail
    refine (awake14_calls _).mono ?_
    rintro e w2 ⟨rfl, b2⟩
    have HB2 := Lib.hid b2
    clear b2
    go_wp2_with fail
    refine (inbNew_calls _ m m HK.out).mono ?_
    rintro e w3 ⟨p, b, rfl, q3, b3, hp, hb⟩
    have HB3 := Lib.hid (HB2.out.trans (b3.mono HB2.out.size))
    have hp0 : w.heap.size ≤ p := Nat.le_trans HB2.out.size hp
    have hb0 : w.heap.size ≤ b := Nat.le_trans HB2.out.size hb
    have Q3 := Lib.hid q3
    clear b3 HB2 q3 hp hb
    go_wp2_with fail
    go_loopw [6] (fun i wr => ∃ (k : Nat) (U : List Nat) (f : Nat → Int), k ≤ zs.length ∧ k ≤ 60 ∧ i = .int .i64 k ∧ InbAt wr p b m k U f ∧ U.length ≤ m ∧ Below w.heap.size w wr) (fun i _ => 60 - (intOf i).toNat)
    case atStart => exact ⟨0, [], _, Nat.zero_le _, Nat.zero_le _, rfl, Q3.out, Nat.zero_le _, HB3.out⟩
    case round =>
      clear Q3 HB3
      obtain ⟨k, U, f, hk, hk6, rfl, q, hUm, bw⟩ := hrel
      have HB := Lib.hid bw
      have HQ := Lib.hid q
      clear bw q
      by_cases hlt : k < zs.length ∧ k < 60
      · obtain ⟨hlt, hl6⟩ := hlt
        obtain ⟨ab, ao, rfl, habl, hc0, hx⟩ := HCELL.out k hlt
        have hc : wr.cell? ⟨ab, ao + k, none⟩ = some (.int .u32 (zs.getD k 0 : Nat)) := (HB.out.cell (p := ⟨ab, ao + k, none⟩) habl).trans hc0
        clear hc0
        generalize zs.getD k 0 = x at *
        obtain ⟨d, hd⟩ : ∃ d : Nat, x % 65535 + 1 = d := ⟨_, rfl⟩
        have hd1 : 1 ≤ d := by omega
        have hd2 : d ≤ 65535 := by omega
        have hr0 : 0 ≤ (x : Int) % 65535 := by omega
        have hr1 : (x : Int) % 65535 ≤ 65534 := by omega
        have hr : 1 + (x : Int) % 65535 = (d : Int) := by omega
        have HN := Lib.hid (show d < 4294967296 by omega)
        obtain ⟨v, hv⟩ : ∃ v, f d = v := ⟨_, rfl⟩
        have hpos := HQ.out.wait.pos d
        have hbd := HQ.out.wait.bound d
        rw [hv] at hpos hbd
        have HV := Lib.hid hv
        clear hd hv hx
        by_cases hU : d ∈ U
        · have hv0 : 0 < v := hpos.2 hU
          have HU := Lib.hid hU
          clear hU hpos hbd
          by_cases hfu : U.length = m
          all_goals
            first | (have hfb : ((U.length : Int) == (m : Int)) = true := by simp; omega) | (have hfb : ((U.length : Int) == (m : Int)) = false := by simp; omega)
            clear hfu
            go_wp2_with fail
            with_reducible refine (inbTimes_calls _ p b m k U f d v HV.out HN.out HQ.out).mono ?_
            rintro e w4 ⟨rfl, rfl⟩
            go_wp2_with fail
            with_reducible refine (inbLen_calls _ p b m k U f HQ.out).mono ?_
            rintro e w5 ⟨rfl, rfl⟩
            go_wp2_with fail
            with_reducible refine (inbBegin_again _ p b m k U f d hd1 hd2 HU.out (by omega) HQ.out).mono ?_
            rintro e w6 ⟨rfl, q6, m6⟩
            have HB6 := Lib.hid (HB.out.trans (m6.below hp0 hb0 HB.out.size))
            have HQ6 := Lib.hid q6
            clear HB HQ q6 m6 hc
            go_wp2_with fail
            with_reducible refine (inbLen_calls _ p b m (k + 1) U _ HQ6.out).mono ?_
            rintro e w7 ⟨rfl, rfl⟩
            go_wp2
            go_roundw
            case rel => exact ⟨k + 1, U, _, by omega, by omega, by go_num, HQ6.out, hUm, HB6.out⟩
            case measure => simp [intOf]; omega
        · have hv0 : v ≤ 0 := by
            have : ¬ 0 < v := fun e => hU (hpos.1 e)
            omega
          have HU := Lib.hid hU
          clear hU hpos hbd
          by_cases hfu : m ≤ U.length
          · have hfb : ((U.length : Int) == (m : Int)) = true := by simp; omega
            go_wp2_with fail
            with_reducible refine (inbTimes_calls _ p b m k U f d v HV.out HN.out HQ.out).mono ?_
            rintro e w4 ⟨rfl, rfl⟩
            go_wp2_with fail
            with_reducible refine (inbLen_calls _ p b m k U f HQ.out).mono ?_
            rintro e w5 ⟨rfl, rfl⟩
            go_wp2_with fail
            with_reducible refine (inbBegin_quota _ p b m k U f d hd1 hd2 HU.out hfu HQ.out).mono ?_
            rintro e w6 ⟨rfl, nq, rfl⟩
            have HB6 := Lib.hid (drew_below HB.out nq)
            have HQ6 := Lib.hid (HQ.out.keep (w' := wr.drewN nq) rfl rfl)
            clear HB HQ hc
            go_wp2_with fail
            with_reducible refine (inbLen_calls _ p b m k U f HQ6.out).mono ?_
            rintro e w7 ⟨rfl, rfl⟩
            go_wp2
            go_roundw
            case rel => exact ⟨k + 1, U, f, by omega, by omega, by go_num, HQ6.out.more, hUm, HB6.out⟩
            case measure => simp [intOf]; omega
          · have hfb : ((U.length : Int) == (m : Int)) = false := by simp; omega
            have hroom : U.length < m := by omega
            have hli := length_ins d U
            have HLI := Lib.hid hli
            clear hfu hli
            go_wp2_with fail
            with_reducible refine (inbTimes_calls _ p b m k U f d v HV.out HN.out HQ.out).mono ?_
            rintro e w4 ⟨rfl, rfl⟩
            go_wp2_with fail
            with_reducible refine (inbLen_calls _ p b m k U f HQ.out).mono ?_
            rintro e w5 ⟨rfl, rfl⟩
            go_wp2_with fail
            with_reducible refine (inbBegin_new _ p b m k U f d hd1 hd2 HU.out hroom HQ.out).mono ?_
            rintro e w6 ⟨rfl, q6, m6⟩
            have HB6 := Lib.hid (HB.out.trans (m6.below hp0 hb0 HB.out.size))
            have HQ6 := Lib.hid q6
            clear HB HQ q6 m6 hc
            go_wp2_with fail
            with_reducible refine (inbLen_calls _ p b m (k + 1) (ins d U) _ HQ6.out).mono ?_
            rintro e w7 ⟨rfl, rfl⟩
            have hle : (ins d U).length ≤ m := by rw [HLI.out]; omega
            go_wp2
            go_roundw
            case rel => exact ⟨k + 1, ins d U, _, by omega, by omega, by go_num, HQ6.out, hle, HB6.out⟩
            case measure => simp [intOf]; omega
      · have hor : k = zs.length ∨ (k < zs.length ∧ 60 ≤ k) := by omega
        clear hlt
        rcases hor with h | ⟨h, h6⟩
        · subst h
          go_wp2
          go_ret
          exact ⟨rfl, HB.out⟩
        · go_wp2
          go_ret
          exact ⟨rfl, HB.out⟩

set_option maxRecDepth 100000 in
theorem lifted (os : Os) (started : os.Started) (H : Type) (enc : TypeId × Value → H) :
    ReturnsInHanded {} Try.checked os 10 .any (Rows.inboundQuotaSpec.pre6 enc Try.prog Try.f10 Rows.inboundQuotaRow.domain false) (Rows.inboundQuotaSpec.post enc Try.prog Try.f10 false true false false) := by
  refine returnsInHanded_of_change (C := Try.checked) own started (by kernel_rfl) Try.func10
    (ChangeSpec.witness6 (enc := enc) (C := Try.checked) false ⟨#[], #[.int .i64 0, .slice none 0 0], []⟩ 8 (by kernel_rfl) (by kernel_rfl) (by kernel_rfl) (by kernel_rfl)) ?_
  intro W base args ds gs before hval0 hW hcnd _
  have hval : ∀ (j : Nat) t v, Try.f10.params[j]? = some t → args[j]? = some v → Value.okWide Try.prog W .any base t v := hval0
  have hW' := hW
  obtain ⟨p, q, hA0, hV, rfl, hfz, hnd⟩ := hW
  have hA : DataW.TrodAll enc Try.prog W 0 (fun _ => true) true Try.f10.params.toList args.toList ds p := hA0
  rw [Try.params10] at hA hval
  obtain ⟨v0, vs0, d0, ds0, p0, q0, hargs, rfl, rfl, h0, r0⟩ := trodAll_cons hA
  obtain ⟨v1, vs1, d1, ds1, p1, q1, rfl, rfl, rfl, h1, r1⟩ := trodAll_cons r0
  obtain ⟨rfl, rfl, rfl⟩ := trodAll_nil r1
  obtain rfl : args = #[v0, v1] := by cases args; simp_all
  obtain ⟨rfl, rfl⟩ := trodVars_none hV
  obtain ⟨a0, rfl, rfl, rfl, w0⟩ := open_int Try.underlying3 (hval 0 3 v0 rfl rfl) h0
  have k1 := h1
  have lt1 : ∀ x ∈ p1, x.block < W.heap.size := by obtain ⟨m, hm⟩ := k1; exact DataW.trod_lt m _ _ _ hm
  obtain ⟨a1, w1⟩ := open_u32sIn (hval 1 58 v1 rfl rfl) h1
  clear hA0 hval0
  refine (walk a0 w0 v1 a1 W w1).mono fun e W' ⟨he, bel⟩ => ?_
  subst he
  exact ⟨_, rfl, _, _, _, [], _, [], hW', trodAll_mk1 (shut_bool Try.underlying4 _), (trodAll_cons_mk (shut_int Try.underlying3 w0) (trodAll_cons_mk (Below.trod laidOut (by kernel_rfl) (of_decide_eq_true (by kernel_rfl)) k1 bel lt1) trodAll_mk0)), rfl, bel.frame _, fun h => by cases h⟩

theorem over : Rows.inboundQuotaRow.holds Try.pinned (OpenSpec.ofChange Rows.inboundQuotaSpec) :=
  OpenClaim.holds_of_wide 10 Try.f10 rfl rfl rfl rfl rfl rfl rfl ⟨rfl, rfl, rfl, rfl, rfl⟩ rfl rfl rfl rfl rfl (by kernel_rfl) Try.func10 (by kernel_rfl)
    (of_decide_eq_true (by kernel_rfl)) (by unfold Func.isWrapper; first | (rw [if_pos (by decide +kernel)]; kernel_rfl) | (rw [if_neg (by decide +kernel)]; exact ⟨rfl, rfl⟩))
    (fun os started H enc _ => lifted os started H enc)

end Go.Proofs.Yticlenpgokajdaa.inboundQuota
namespace Go.Proofs.Yticlenpgokajdaa
/-- The statement. -/
theorem inboundQuota_holds : Rows.InboundQuotaSaid := inboundQuota.over
#print axioms inboundQuota_holds
end Go.Proofs.Yticlenpgokajdaa
