/-
  Any greatest identifier, any hole, any number of calls ahead: a pool in which all but one are in use gives that one.
  Its conditions: none beside those of the row itself.
-/
import Derived.Test.YticlenpgokajdaaJIds3
import Derived.ProofKit
import Derived.OpenShut
import Derived.ShutString
import Derived.ChangeOld
namespace Go.Proofs.Yticlenpgokajdaa.idsHole
open Go.ChangeShapes Go.WideShapes Go.ChangeAt Go.RowKit
open Go.ChangeMaps (open_string shut_string)
set_option linter.unusedVariables false

theorem own : ownKnob Try.prog.godebug = none := by kernel_rfl

set_option maxRecDepth 100000 in
set_option maxHeartbeats 4000000 in
theorem walk (a0 : Int) (w0 : (Lit.int .u32 a0).wf = true) (a1 : Int) (w1 : (Lit.int .u32 a1).wf = true) (a2 : Int) (w2 : (Lit.int .i64 a2).wf = true) (w : World) :
    Calls Try.prog 7 #[.int .u32 a0, .int .u32 a1, .int .i64 a2] w fun e w' => e = .returned (.bool true) ∧ Below w.heap.size w w' := by
  have b0 := bounds_u32 w0
  have b1 := bounds_u32 w1
  clear w0 w1 w2
  obtain ⟨m, rfl⟩ := Int.eq_ofNat_of_zero_le b0.1
  obtain ⟨n, rfl⟩ := Int.eq_ofNat_of_zero_le b1.1
  have hm : m < 4294967296 := by omega
  have HM := Lib.hid hm
  clear b0 b1 hm
  by_cases hcond : m < 1 ∨ 200 < m
  · rcases (show m < 1 ∨ (1 ≤ m ∧ 200 < m) by omega) with h | ⟨h0, h⟩
    all_goals
      clear hcond
      go_enter Try.func7, Try.ntmps7
      go_wp2_with fail
      refine (awake13_calls _).mono ?_
      rintro e w2 ⟨rfl, b2⟩
      have HB2 := Lib.hid b2
      clear b2
      go_wp2_with fail
      refine (awake13_calls _).mono ?_
      rintro e w3 ⟨rfl, b3⟩
      have HB3 := Lib.hid (HB2.out.trans (b3.mono HB2.out.size))
      clear b3 HB2
      go_wp2
      go_ret
      exact ⟨rfl, HB3.out⟩
  · have h1 : 1 ≤ m := by omega
    have h2 : m ≤ 200 := by omega
    clear hcond
    have hk : min (max m 1) 65535 = m := by omega
    have HK := Lib.hid hk
    clear hk
    obtain ⟨hol, hh⟩ : ∃ hol : Nat, n % m + 1 = hol := ⟨_, rfl⟩
    have hlt := Nat.mod_lt n (show 0 < m by omega)
    have hh1 : 1 ≤ hol := by omega
    have hh2 : hol ≤ m := by omega
    have hr0 : 0 ≤ (n : Int) % (m : Int) := by omega
    have hr1 : (n : Int) % (m : Int) ≤ 200 := by omega
    have hr : 1 + (n : Int) % (m : Int) = (hol : Int) := by omega
    have hcs : ∃ c : Nat, (a2 < 0 ∧ c ≤ 0) ∨ (a2 = (c : Int) ∧ c ≤ 20) ∨ (20 < a2 ∧ c ≤ 20 ∧ 20 ≤ c) := by
      by_cases g1 : a2 < 0
      · exact ⟨0, .inl ⟨g1, Nat.le_refl _⟩⟩
      · by_cases g2 : 20 < a2
        · exact ⟨20, .inr (.inr ⟨g2, Nat.le_refl _, Nat.le_refl _⟩)⟩
        · exact ⟨a2.toNat, .inr (.inl ⟨by omega, by omega⟩)⟩
    have HL0 := Lib.hid (show ([] : List Nat).length < m from h1)
    clear hh hlt
    obtain ⟨c, hcs⟩ := hcs
    rcases hcs with ⟨g1, g2⟩ | ⟨rfl, g2⟩ | ⟨g1, g2, g3⟩
    all_goals
      go_enter Try.func7, Try.ntmps7
      go_wp2_with fail
      refine (awake13_calls _).mono ?_
      rintro e w2 ⟨rfl, b2⟩
      have HB2 := Lib.hid b2
      clear b2
      go_wp2_with fail
      refine (idsNew_calls _ m m HM.out HK.out).mono ?_
      rintro e w3 ⟨p, b, rfl, q3, b3, hp, hb⟩
      have HB3 := Lib.hid (HB2.out.trans (b3.mono HB2.out.size))
      have hp0 : w.heap.size ≤ p := Nat.le_trans HB2.out.size hp
      have hb0 : w.heap.size ≤ b := Nat.le_trans HB2.out.size hb
      have Q3 := Lib.hid q3
      clear b3 HB2 q3 hp hb
      go_wp2_with fail
      go_loopw [8] (fun i wr => ∃ k l : Nat, k ≤ c ∧ i = .int .i64 k ∧ PoolAt wr p b m l [] ∧ Below w.heap.size w wr) (fun i _ => c - (intOf i).toNat)
      case atStart => exact ⟨0, 0, Nat.zero_le _, rfl, Q3.out, HB3.out⟩
      case round =>
        clear Q3 HB3
        obtain ⟨k, l, hk, rfl, q, bw⟩ := hrel
        have HB := Lib.hid bw
        have HQ := Lib.hid q
        clear bw q
        by_cases hlt : k < c
        · (try (exfalso; omega))
          all_goals
            try (have hk9 : k < 20 := by omega)
            obtain ⟨d, hd⟩ : ∃ d, l % m + 1 = d := ⟨_, rfl⟩
            have hd2 : d < 4294967296 := by have := Nat.mod_lt l (show 0 < m by omega); omega
            have HD := Lib.hid hd
            have HD2 := Lib.hid hd2
            clear hd hd2
            go_wp2_with fail
            with_reducible refine (idsNext_one _ p b m l [] d HQ.out HL0.out HD.out (by simp)).mono ?_
            rintro e w4 ⟨rfl, q4, m4⟩
            have HB4 := Lib.hid (HB.out.trans (m4.below hp0 hb0 HB.out.size))
            have HQ4 := Lib.hid q4
            clear HB HQ q4 m4
            go_wp2_with fail
            with_reducible refine (idsFree_calls _ p b m d [d] d HD2.out HQ4.out).mono ?_
            rw [show cut1 d [d] = [] by simp [cut1]]
            rintro e w5 ⟨rfl, q5, m5⟩
            have HB5 := Lib.hid (HB4.out.trans (m5.below hp0 hb0 HB4.out.size))
            have HQ5 := Lib.hid q5
            clear HB4 HQ4 q5 m5
            go_wp2
            go_roundw
            case rel => exact ⟨k + 1, d, by omega, by go_num, HQ5.out, HB5.out⟩
            case measure => simp [intOf]; omega
        · try (have hk9 : 20 ≤ k := by omega)
          go_wp2_with fail
          go_loopw [11] (fun i wr => ∃ j l : Nat, 1 ≤ j ∧ j ≤ m + 1 ∧ i = .int .u32 j ∧ PoolAt wr p b m l (upTo hol j) ∧ Below w.heap.size w wr) (fun i _ => m + 1 - (intOf i).toNat)
          case atStart => exact ⟨1, l, Nat.le_refl _, by omega, rfl, by rw [upTo_one]; exact HQ.out, HB.out⟩
          case round =>
            clear HQ HB
            obtain ⟨j, l, hj1, hj2, rfl, q, bw⟩ := hrel
            have HB := Lib.hid bw
            have HQ := Lib.hid q
            clear bw q
            by_cases hlt : j ≤ m
            · have hj3 : j ≤ 200 := by omega
              by_cases he : j = hol
              · subst he
                go_wp2
                go_roundw
                case rel => exact ⟨j + 1, l, by omega, by omega, by go_num, by rw [upTo_pass]; exact HQ.out, HB.out⟩
                case measure => simp [intOf]; omega
              · have hE : takeE m (upTo hol j) j = 0 := by
                  unfold takeE
                  rw [if_neg (by omega), if_neg (fun hm => by have := (mem_upTo hol j j).1 hm; omega)]
                have hU : takeU m (upTo hol j) j = upTo hol (j + 1) := by
                  unfold takeU
                  rw [if_neg (fun e => e.elim (fun e => by omega) (fun hm => by have := (mem_upTo hol j j).1 hm; omega)), upTo_go hol j hj1 he]
                have HE := Lib.hid hE
                have HU := Lib.hid hU
                have hne : ((j : Int) != (hol : Int)) = true := by simp; omega
                have HJ := Lib.hid (show j < 4294967296 by omega)
                clear hE hU
                go_wp2_with fail
                with_reducible refine (idsTake_calls _ p b m l (upTo hol j) j HJ.out HQ.out).mono ?_
                rw [HE.out, HU.out]
                rintro e w4 ⟨rfl, q4, m4⟩
                have HB4 := Lib.hid (HB.out.trans (m4.below hp0 hb0 HB.out.size))
                have HQ4 := Lib.hid q4
                clear HB HQ q4 m4
                go_wp2
                go_roundw
                case rel => exact ⟨j + 1, l, by omega, by omega, by go_num, HQ4.out, HB4.out⟩
                case measure => simp [intOf]; omega
            · obtain rfl : j = m + 1 := by omega
              have hlen := upTo_length hol m hh1
              rw [if_pos hh2] at hlen
              have HL := Lib.hid hlen
              clear hlen
              go_wp2_with fail
              with_reducible refine (idsNext_hole _ p b m l (upTo hol (m + 1)) hol HQ.out (by have := HL.out; omega) (fun x hx1 hx2 hx3 => (mem_upTo _ _ _).2 ⟨hx1, by omega, hx3⟩)).mono ?_
              rintro e w4 ⟨rfl, q4, m4⟩
              have HB4 := Lib.hid (HB.out.trans (m4.below hp0 hb0 HB.out.size))
              have HQ4 := Lib.hid q4
              clear HB HQ q4 m4
              go_wp2_with fail
              with_reducible refine (idsNext_full _ p b m hol (ins hol (upTo hol (m + 1))) HQ4.out (by rw [length_ins]; have := HL.out; omega)).mono ?_
              rintro e w5 ⟨rfl, nn, rfl⟩
              go_wp2
              go_ret
              exact ⟨rfl, drew_below HB4.out _⟩

set_option maxRecDepth 100000 in
theorem lifted (os : Os) (started : os.Started) (H : Type) (enc : TypeId × Value → H) :
    ReturnsInHanded {} Try.checked os 7 .any (Rows.idsHoleSpec.pre6 enc Try.prog Try.f7 Rows.idsHoleRow.domain false) (Rows.idsHoleSpec.post enc Try.prog Try.f7 false true false false) := by
  refine returnsInHanded_of_change (C := Try.checked) own started (by kernel_rfl) Try.func7
    (ChangeSpec.witness6 (enc := enc) (C := Try.checked) false ⟨#[], #[.int .u32 0, .int .u32 0, .int .i64 0], []⟩ 8 (by kernel_rfl) (by kernel_rfl) (by kernel_rfl) (by kernel_rfl)) ?_
  intro W base args ds gs before hval0 hW hcnd _
  have hval : ∀ (j : Nat) t v, Try.f7.params[j]? = some t → args[j]? = some v → Value.okWide Try.prog W .any base t v := hval0
  have hW' := hW
  obtain ⟨p, q, hA0, hV, rfl, hfz, hnd⟩ := hW
  have hA : DataW.TrodAll enc Try.prog W 0 (fun _ => true) true Try.f7.params.toList args.toList ds p := hA0
  rw [Try.params7] at hA hval
  obtain ⟨v0, vs0, d0, ds0, p0, q0, hargs, rfl, rfl, h0, r0⟩ := trodAll_cons hA
  obtain ⟨v1, vs1, d1, ds1, p1, q1, rfl, rfl, rfl, h1, r1⟩ := trodAll_cons r0
  obtain ⟨v2, vs2, d2, ds2, p2, q2, rfl, rfl, rfl, h2, r2⟩ := trodAll_cons r1
  obtain ⟨rfl, rfl, rfl⟩ := trodAll_nil r2
  obtain rfl : args = #[v0, v1, v2] := by cases args; simp_all
  obtain ⟨rfl, rfl⟩ := trodVars_none hV
  obtain ⟨a0, rfl, rfl, rfl, w0⟩ := open_int Try.underlying22 (hval 0 22 v0 rfl rfl) h0
  obtain ⟨a1, rfl, rfl, rfl, w1⟩ := open_int Try.underlying22 (hval 1 22 v1 rfl rfl) h1
  obtain ⟨a2, rfl, rfl, rfl, w2⟩ := open_int Try.underlying3 (hval 2 3 v2 rfl rfl) h2
  clear hA0 hval0
  refine (walk a0 w0 a1 w1 a2 w2 W ).mono fun e W' ⟨he, bel⟩ => ?_
  subst he
  exact ⟨_, rfl, _, _, _, [], _, [], hW', trodAll_mk1 (shut_bool Try.underlying4 _), (trodAll_cons_mk (shut_int Try.underlying22 w0) (trodAll_cons_mk (shut_int Try.underlying22 w1) (trodAll_cons_mk (shut_int Try.underlying3 w2) trodAll_mk0))), rfl, bel.frame _, fun h => by cases h⟩

theorem over : Rows.idsHoleRow.holds Try.pinned (OpenSpec.ofChange Rows.idsHoleSpec) :=
  OpenClaim.holds_of_wide 7 Try.f7 rfl rfl rfl rfl rfl rfl rfl ⟨rfl, rfl, rfl, rfl, rfl⟩ rfl rfl rfl rfl rfl (by kernel_rfl) Try.func7 (by kernel_rfl)
    (of_decide_eq_true (by kernel_rfl)) (by unfold Func.isWrapper; first | (rw [if_pos (by decide +kernel)]; kernel_rfl) | (rw [if_neg (by decide +kernel)]; exact ⟨rfl, rfl⟩))
    (fun os started H enc _ => lifted os started H enc)

end Go.Proofs.Yticlenpgokajdaa.idsHole
namespace Go.Proofs.Yticlenpgokajdaa
/-- The statement. -/
theorem idsHole_holds : Rows.IdsHoleSaid := idsHole.over
#print axioms idsHole_holds
end Go.Proofs.Yticlenpgokajdaa
