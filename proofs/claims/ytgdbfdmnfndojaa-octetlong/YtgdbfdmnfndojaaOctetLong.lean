/-
  Statement OctetLong: for every two numbers, a lesser one has no more bytes as a variable byte integer, none has more than four, and unlike ones are spelt unlike.
  Its conditions: none beside those of the row itself.
-/
import Derived.Test.YtgdbfdmnfndojaaL1a
import Derived.ProofKit
import Derived.OpenShut
import Derived.ShutString
import Derived.ChangeOld
namespace Go.Proofs.Ytgdbfdmnfndojaa.octetLong
open Go.ChangeShapes Go.WideShapes Go.ChangeAt Go.RowKit
open Go.ChangeMaps (open_string shut_string)
set_option linter.unusedVariables false

theorem own : ownKnob Try.prog.godebug = none := by kernel_rfl

theorem varb_mono : ∀ (k a b : Nat), a ≤ b → (varb k a).length ≤ (varb k b).length
  | 0, a, b, _ => by simp [varb]
  | k + 1, a, b, h => by
    by_cases hb : b < 128
    · rw [varb_small _ a (by omega), varb_small _ b hb]; simp
    · rw [varb_step k b hb]
      by_cases ha : a < 128
      · rw [varb_small _ a ha]; simp
      · rw [varb_step k a ha]
        have := varb_mono k (a / 128) (b / 128) (Nat.div_le_div_right h)
        simpa using this

theorem ofNat_inj {a b : Nat} (ha : a < 256) (hb : b < 256) (h : UInt8.ofNat a = UInt8.ofNat b) : a = b := by
  have := congrArg UInt8.toNat h
  rwa [UInt8.toNat_ofNat', UInt8.toNat_ofNat', Nat.mod_eq_of_lt (by omega), Nat.mod_eq_of_lt (by omega)] at this

theorem varb_inj : ∀ (k a b : Nat), a < 128 ^ (k + 1) → b < 128 ^ (k + 1) → varb k a = varb k b → a = b
  | 0, a, b, ha, hb, h => by
    simp at ha hb
    rw [varb_small 0 a ha, varb_small 0 b hb] at h
    injection h with h
    exact ofNat_inj (by omega) (by omega) h
  | k + 1, a, b, ha, hb, h => by
    rw [Nat.pow_succ] at ha hb
    by_cases h1 : a < 128
    · rw [varb_small _ a h1] at h
      by_cases h2 : b < 128
      · rw [varb_small _ b h2] at h
        injection h with h
        exact ofNat_inj (by omega) (by omega) h
      · rw [varb_step k b h2] at h
        injection h with h _
        have := ofNat_inj (by omega) (by omega) h
        omega
    · rw [varb_step k a h1] at h
      by_cases h2 : b < 128
      · rw [varb_small _ b h2] at h
        injection h with h _
        have := ofNat_inj (by omega) (by omega) h
        omega
      · rw [varb_step k b h2] at h
        injection h with hh ht
        have e1 := ofNat_inj (by omega) (by omega) hh
        have e2 := varb_inj k (a / 128) (b / 128) (Nat.div_lt_of_lt_mul (by omega)) (Nat.div_lt_of_lt_mul (by omega)) ht
        omega

theorem str_list (l : List UInt8) : (str l).toList = l := by rw [ByteArray.toList_eq]; simp [str]
theorem str_size (l : List UInt8) : (str l).size = l.length := by simp [str, ByteArray.size]

set_option maxHeartbeats 1000000 in
theorem walk (a0 : Int) (w0 : (Lit.int .u32 a0).wf = true) (a1 : Int) (w1 : (Lit.int .u32 a1).wf = true) (w : World) :
    Calls Try.prog 7 #[.int .u32 a0, .int .u32 a1] w fun e w' => e = .returned (.bool true) ∧ Below w.heap.size w w' := by
  have b0 := bounds_u32 w0
  have b1 := bounds_u32 w1
  clear w0 w1
  obtain ⟨A, hA⟩ : ∃ A, (if (268435455 : Int) < a0 then 268435455 else a0) = A := ⟨_, rfl⟩
  obtain ⟨B, hB⟩ : ∃ B, (if (268435455 : Int) < a1 then 268435455 else a1) = B := ⟨_, rfl⟩
  have bA : 0 ≤ A ∧ A ≤ 268435455 := by omega
  have bB : 0 ≤ B ∧ B ≤ 268435455 := by omega
  obtain ⟨M, hM⟩ : ∃ M, (if B < A then B else A) = M := ⟨_, rfl⟩
  obtain ⟨N, hN⟩ : ∃ N, (if A < B then B else A) = N := ⟨_, rfl⟩
  have bM : 0 ≤ M ∧ M ≤ 268435455 := by omega
  have bN : 0 ≤ N ∧ N ≤ 268435455 := by omega
  have HMN := Lib.hid (show M ≤ N ∧ (M = N ↔ A = B) by omega)
  clear b0 b1 bA bB
  go_enter Try.func7, Try.ntmps7
  go_wp2_with fail
  refine (awake_calls _).mono ?_
  rintro e w2 ⟨rfl, hb⟩
  have o1 : OutAt ((w2.alloc (.cells #[.slice none 0 0] 26)).alloc (.cells #[.slice none 0 0] 26)) w2.heap.size none [] := (OutAt.new w2).alloc _
  have o2 : OutAt ((w2.alloc (.cells #[.slice none 0 0] 26)).alloc (.cells #[.slice none 0 0] 26)) (w2.heap.size + 1) none [] := by
    have := OutAt.new (w2.alloc (.cells #[.slice none 0 0] 26))
    simpa using this
  have hsz := hb.size
  have g2 := (hb.alloc hb.size (.cells #[.slice none 0 0] 26)).alloc (by simp; omega) (.cells #[.slice none 0 0] 26)
  clear hb
  go_wp2_with fail
  refine (var_calls _ w2.heap.size none [] M bM.1 bM.2 o1 (by simp)).mono ?_
  rintro e w3 ⟨rfl, r3, h3, s3⟩
  have o3 : OutAt w3 (w2.heap.size + 1) none [] := o2.keep (s3.block _ (by simp) (by omega) (by simp)) (fun g hg => by cases hg)
  have g3 := g2.trans (s3.below (by simp; omega) hsz (fun g hg => by cases hg))
  have hsz3 : w2.heap.size + 1 < w3.heap.size := o3.lt
  clear s3 o1 o2 g2
  go_wp2_with fail
  refine (text_calls _ _ r3 _ h3).mono ?_
  rintro e w4 ⟨rfl, rfl⟩
  go_wp2_with fail
  refine (var_calls _ (w2.heap.size + 1) none [] N bN.1 bN.2 o3 (by simp)).mono ?_
  rintro e w5 ⟨rfl, r5, h5, s5⟩
  have G5 := Lib.hid (g3.trans (s5.below (by omega) (by omega) (fun g hg => by cases hg)))
  clear s5 o3 g3 h3
  go_wp2_with fail
  refine (text_calls _ _ r5 _ h5).mono ?_
  rintro e w6 ⟨rfl, rfl⟩
  clear h5
  rw [List.nil_append]
  have k1 : (str (varb 3 M.toNat)).size ≤ (str (varb 3 N.toNat)).size := by
    rw [str_size, str_size]; exact varb_mono 3 _ _ (by have := HMN.out.1; omega)
  have k2 : (str (varb 3 N.toNat)).size ≤ 4 := by rw [str_size]; exact varb_len 3 _
  have k3 : ((str (varb 3 M.toNat)).toList == (str (varb 3 N.toNat)).toList) = (A == B) := by
    rw [str_list, str_list, Bool.eq_iff_iff, beq_iff_eq, beq_iff_eq]
    refine ⟨fun h => HMN.out.2.1 ?_, fun h => ?_⟩
    · have := varb_inj 3 M.toNat N.toNat (by omega) (by omega) h
      omega
    · rw [HMN.out.2.2 h]
  generalize str (varb 3 M.toNat) = S at *
  generalize str (varb 3 N.toNat) = T at *
  clear hA hB hM hN bM bN HMN
  by_cases hab : (A == B) = true
  · rw [hab] at k3
    go_wp2
    go_ret
    exact ⟨rfl, G5.out⟩
  · have hab : (A == B) = false := by simpa using hab
    rw [hab] at k3
    go_wp2
    go_ret
    exact ⟨rfl, G5.out⟩

set_option maxRecDepth 100000 in
theorem lifted (os : Os) (started : os.Started) (H : Type) (enc : TypeId × Value → H) :
    ReturnsInHanded {} Try.checked os 7 .any (Rows.octetLongSpec.pre6 enc Try.prog Try.f7 Rows.octetLongRow.domain false) (Rows.octetLongSpec.post enc Try.prog Try.f7 false true false false) := by
  refine returnsInHanded_of_change (C := Try.checked) own started (by kernel_rfl) Try.func7
    (ChangeSpec.witness6 (enc := enc) (C := Try.checked) false ⟨#[], #[.int .u32 0, .int .u32 0], []⟩ 8 (by kernel_rfl) (by kernel_rfl) (by kernel_rfl) (by kernel_rfl)) ?_
  intro W base args ds gs before hval0 hW hcnd _
  have hval : ∀ (j : Nat) t v, Try.f7.params[j]? = some t → args[j]? = some v → Value.okWide Try.prog W .any base t v := hval0
  have hW' := hW
  obtain ⟨p, q, hA0, hV, rfl, hfz, hnd⟩ := hW
  have hA : DataW.TrodAll enc Try.prog W 0 (fun _ => true) true Try.f7.params.toList args.toList ds p := hA0
  rw [Try.params7] at hA hval
  obtain ⟨v0, vs0, d0, ds0, p0, q0, hargs, rfl, rfl, h0, r0⟩ := trodAll_cons hA
  obtain ⟨v1, vs1, d1, ds1, p1, q1, rfl, rfl, rfl, h1, r1⟩ := trodAll_cons r0
  obtain ⟨rfl, rfl, rfl⟩ := trodAll_nil r1
  obtain rfl : args = #[v0, v1] := by cases args; simp_all
  obtain ⟨rfl, rfl⟩ := trodVars_none hV
  obtain ⟨a0, rfl, rfl, rfl, w0⟩ := open_int Try.underlying29 (hval 0 29 v0 rfl rfl) h0
  obtain ⟨a1, rfl, rfl, rfl, w1⟩ := open_int Try.underlying29 (hval 1 29 v1 rfl rfl) h1
  clear hA0 hval0
  refine (walk a0 w0 a1 w1 W).mono fun e W' ⟨he, bel⟩ => ?_
  subst he
  exact ⟨_, rfl, _, _, _, [], _, [], hW', trodAll_mk1 (shut_bool Try.underlying4 _), (trodAll_cons_mk (shut_int Try.underlying29 w0) (trodAll_cons_mk (shut_int Try.underlying29 w1) trodAll_mk0)), rfl, bel.frame _, fun h => by cases h⟩

theorem over : Rows.octetLongRow.holds Try.pinned (OpenSpec.ofChange Rows.octetLongSpec) :=
  OpenClaim.holds_of_wide 7 Try.f7 rfl rfl rfl rfl rfl rfl rfl ⟨rfl, rfl, rfl, rfl, rfl⟩ rfl rfl rfl rfl rfl (by kernel_rfl) Try.func7 (by kernel_rfl)
    (of_decide_eq_true (by kernel_rfl)) (by unfold Func.isWrapper; first | (rw [if_pos (by decide +kernel)]; kernel_rfl) | (rw [if_neg (by decide +kernel)]; exact ⟨rfl, rfl⟩))
    (fun os started H enc _ => lifted os started H enc)

end Go.Proofs.Ytgdbfdmnfndojaa.octetLong
namespace Go.Proofs.Ytgdbfdmnfndojaa
/-- The statement. -/
theorem octetLong_holds : Rows.OctetLongSaid := octetLong.over
#print axioms octetLong_holds
end Go.Proofs.Ytgdbfdmnfndojaa
