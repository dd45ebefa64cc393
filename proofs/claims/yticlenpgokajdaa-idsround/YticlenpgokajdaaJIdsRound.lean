/-
  Any greatest identifier and any number of calls: identifiers that are freed at once come round in their order.
  Its conditions: none beside those of the row itself.
-/
import Derived.Test.YticlenpgokajdaaJIds2
import Derived.ProofKit
import Derived.OpenShut
import Derived.ShutString
import Derived.ChangeOld
namespace Go.Proofs.Yticlenpgokajdaa.idsRound
open Go.ChangeShapes Go.WideShapes Go.ChangeAt Go.RowKit
open Go.ChangeMaps (open_string shut_string)
set_option linter.unusedVariables false

theorem own : ownKnob Try.prog.godebug = none := by kernel_rfl

/-- The last identifier behind k rounds. -/
def lastR (m k : Nat) : Nat := if k = 0 then 0 else (k - 1) % m + 1
theorem lastR_step (m k : Nat) : lastR m k % m + 1 = lastR m (k + 1) := by
  cases k with
  | zero => simp [lastR]
  | succ k => simp [lastR]

set_option maxRecDepth 100000 in
set_option maxHeartbeats 2000000 in
theorem walk (a0 : Int) (w0 : (Lit.int .u32 a0).wf = true) (a1 : Int) (w1 : (Lit.int .i64 a1).wf = true) (w : World) :
    Calls Try.prog 5 #[.int .u32 a0, .int .i64 a1] w fun e w' => e = .returned (.bool true) ∧ Below w.heap.size w w' := by
  have b0 := bounds_u32 w0
  clear w0
  obtain ⟨m, rfl⟩ := Int.eq_ofNat_of_zero_le b0.1
  have hm : m < 4294967296 := by omega
  have HM := Lib.hid hm
  clear b0 hm
  by_cases hcond : m < 1 ∨ 300 < m ∨ a1 < 0 ∨ 700 < a1
  · rcases (show m < 1 ∨ (1 ≤ m ∧ 300 < m) ∨ (1 ≤ m ∧ m ≤ 300 ∧ a1 < 0) ∨ (1 ≤ m ∧ m ≤ 300 ∧ 0 ≤ a1 ∧ 700 < a1) by omega) with h | ⟨h0, h⟩ | ⟨h0, h1, h⟩ | ⟨h0, h1, h2, h⟩
    all_goals
      clear hcond
      go_enter Try.func5, Try.ntmps5
      go_wp2_with fail
      refine (awake13_calls _).mono ?_
      rintro e w2 ⟨rfl, b2⟩
      have HB2 := Lib.hid b2
      clear b2
      go_wp2_with fail
      refine (awake13_calls _).mono ?_
      rintro e w3 ⟨rfl, b3⟩
      have HB3 := Lib.hid (HB2.out.trans (b3.mono HB2.out.size))
      clear b3 HB2
      go_wp2
      go_ret
      exact ⟨rfl, HB3.out⟩
  · have h1 : 1 ≤ m := by omega
    have h2 : m ≤ 300 := by omega
    have h3 : 0 ≤ a1 := by omega
    have h4 : a1 ≤ 700 := by omega
    clear hcond
    obtain ⟨n, rfl⟩ := Int.eq_ofNat_of_zero_le h3
    have hk : min (max m 1) 65535 = m := by omega
    have HK := Lib.hid hk
    clear hk h3
    go_enter Try.func5, Try.ntmps5
    go_wp2_with fail
    refine (awake13_calls _).mono ?_
    rintro e w2 ⟨rfl, b2⟩
    have HB2 := Lib.hid b2
    clear b2
    go_wp2_with fail
    refine (idsNew_calls _ m m HM.out HK.out).mono ?_
    rintro e w3 ⟨p, b, rfl, q3, b3, hp, hb⟩
    have HB3 := Lib.hid (HB2.out.trans (b3.mono HB2.out.size))
    have hp0 : w.heap.size ≤ p := Nat.le_trans HB2.out.size hp
    have hb0 : w.heap.size ≤ b := Nat.le_trans HB2.out.size hb
    have Q3 := Lib.hid q3
    clear b3 HB2 q3 hp hb
    go_wp2_with fail
    go_loopw [6] (fun i wr => ∃ k : Nat, k ≤ n ∧ i = .int .i64 k ∧ PoolAt wr p b m (lastR m k) [] ∧ Below w.heap.size w wr) (fun i _ => n - (intOf i).toNat)
    case atStart => exact ⟨0, Nat.zero_le _, rfl, Q3.out, HB3.out⟩
    case round =>
      clear Q3 HB3
      obtain ⟨k, hk, rfl, q, bw⟩ := hrel
      have HB := Lib.hid bw
      have HQ := Lib.hid q
      clear bw q
      by_cases hlt : k < n
      · obtain ⟨d, hd⟩ : ∃ d, lastR m (k + 1) = d := ⟨_, rfl⟩
        have hst := lastR_step m k
        rw [hd] at hst
        have hd2 : d < 4294967296 := by have := Nat.mod_lt (lastR m k) (show 0 < m by omega); omega
        have hd3 : d ≤ 300 := by have := Nat.mod_lt (lastR m k) (show 0 < m by omega); omega
        have he : (d : Int) = (k : Int) % (m : Int) + 1 := by
          rw [← hd]
          unfold lastR
          rw [if_neg (by omega), Nat.add_sub_cancel]
          omega
        have hr : (k : Int) % (m : Int) = (d : Int) - 1 := by omega
        have hd1 : 1 ≤ d := by omega
        have HD := Lib.hid hd
        have HD2 := Lib.hid hd2
        have HS := Lib.hid hst
        clear hd hst he hd2
        go_wp2_with fail
        refine (idsNext_one _ p b m (lastR m k) [] d HQ.out h1 HS.out (by simp)).mono ?_
        rintro e w4 ⟨rfl, q4, m4⟩
        have HB4 := Lib.hid (HB.out.trans (m4.below hp0 hb0 HB.out.size))
        have HQ4 := Lib.hid q4
        clear HB HQ q4 m4
        go_wp2_with fail
        with_reducible refine (idsFree_calls _ p b m d [d] d HD2.out HQ4.out).mono ?_
        rw [show freeE [d] d = 0 by simp [freeE], show cut1 d [d] = [] by simp [cut1]]
        rintro e w5 ⟨rfl, q5, m5⟩
        have HB5 := Lib.hid (HB4.out.trans (m5.below hp0 hb0 HB4.out.size))
        have HQ5 := Lib.hid q5
        clear HB4 HQ4 q5 m5
        go_wp2_with fail
        refine (idsLen_calls _ p b m d [] HQ5.out).mono ?_
        rintro e w6 ⟨rfl, rfl⟩
        go_wp2
        go_roundw
        case rel => exact ⟨k + 1, by omega, by go_num, by rw [HD.out]; exact HQ5.out, HB5.out⟩
        case measure => simp [intOf]; omega
      · go_wp2
        go_ret
        exact ⟨rfl, HB.out⟩

set_option maxRecDepth 100000 in
theorem lifted (os : Os) (started : os.Started) (H : Type) (enc : TypeId × Value → H) :
    ReturnsInHanded {} Try.checked os 5 .any (Rows.idsRoundSpec.pre6 enc Try.prog Try.f5 Rows.idsRoundRow.domain false) (Rows.idsRoundSpec.post enc Try.prog Try.f5 false true false false) := by
  refine returnsInHanded_of_change (C := Try.checked) own started (by kernel_rfl) Try.func5
    (ChangeSpec.witness6 (enc := enc) (C := Try.checked) false ⟨#[], #[.int .u32 0, .int .i64 0], []⟩ 8 (by kernel_rfl) (by kernel_rfl) (by kernel_rfl) (by kernel_rfl)) ?_
  intro W base args ds gs before hval0 hW hcnd _
  have hval : ∀ (j : Nat) t v, Try.f5.params[j]? = some t → args[j]? = some v → Value.okWide Try.prog W .any base t v := hval0
  have hW' := hW
  obtain ⟨p, q, hA0, hV, rfl, hfz, hnd⟩ := hW
  have hA : DataW.TrodAll enc Try.prog W 0 (fun _ => true) true Try.f5.params.toList args.toList ds p := hA0
  rw [Try.params5] at hA hval
  obtain ⟨v0, vs0, d0, ds0, p0, q0, hargs, rfl, rfl, h0, r0⟩ := trodAll_cons hA
  obtain ⟨v1, vs1, d1, ds1, p1, q1, rfl, rfl, rfl, h1, r1⟩ := trodAll_cons r0
  obtain ⟨rfl, rfl, rfl⟩ := trodAll_nil r1
  obtain rfl : args = #[v0, v1] := by cases args; simp_all
  obtain ⟨rfl, rfl⟩ := trodVars_none hV
  obtain ⟨a0, rfl, rfl, rfl, w0⟩ := open_int Try.underlying22 (hval 0 22 v0 rfl rfl) h0
  obtain ⟨a1, rfl, rfl, rfl, w1⟩ := open_int Try.underlying3 (hval 1 3 v1 rfl rfl) h1
  clear hA0 hval0
  refine (walk a0 w0 a1 w1 W ).mono fun e W' ⟨he, bel⟩ => ?_
  subst he
  exact ⟨_, rfl, _, _, _, [], _, [], hW', trodAll_mk1 (shut_bool Try.underlying4 _), (trodAll_cons_mk (shut_int Try.underlying22 w0) (trodAll_cons_mk (shut_int Try.underlying3 w1) trodAll_mk0)), rfl, bel.frame _, fun h => by cases h⟩

theorem over : Rows.idsRoundRow.holds Try.pinned (OpenSpec.ofChange Rows.idsRoundSpec) :=
  OpenClaim.holds_of_wide 5 Try.f5 rfl rfl rfl rfl rfl rfl rfl ⟨rfl, rfl, rfl, rfl, rfl⟩ rfl rfl rfl rfl rfl (by kernel_rfl) Try.func5 (by kernel_rfl)
    (of_decide_eq_true (by kernel_rfl)) (by unfold Func.isWrapper; first | (rw [if_pos (by decide +kernel)]; kernel_rfl) | (rw [if_neg (by decide +kernel)]; exact ⟨rfl, rfl⟩))
    (fun os started H enc _ => lifted os started H enc)

end Go.Proofs.Yticlenpgokajdaa.idsRound
namespace Go.Proofs.Yticlenpgokajdaa
/-- The statement. -/
theorem idsRound_holds : Rows.IdsRoundSaid := idsRound.over
#print axioms idsRound_holds
end Go.Proofs.Yticlenpgokajdaa
