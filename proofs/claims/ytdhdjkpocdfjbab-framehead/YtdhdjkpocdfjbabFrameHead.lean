/-
  Of any first byte: a packet without a body is taken just if it may be (switchboardlaw05.FrameHead answers true for every input).
  Its conditions: none beside those of the row itself.
-/
import Derived.Test.YtdhdjkpocdfjbabFr6
import Derived.ProofKit
import Derived.OpenShut
import Derived.ShutString
import Derived.ChangeOld
namespace Go.Proofs.Ytdhdjkpocdfjbab.frameHead
open Go.ChangeShapes Go.WideShapes Go.ChangeAt Go.RowKit
open Go.ChangeMaps (open_string shut_string)
set_option linter.unusedVariables false

theorem own : ownKnob Try.prog.godebug = none := by kernel_rfl

theorem head_bad (c : UInt8) (h : chkB ((c.toNat / 16 : Nat) : Int) ((c.toNat % 16 : Nat) : Int) = false) : nextF 10 [c, 0] = ((0, 0, []), 2) := next_bad h
theorem head_ok (c : UInt8) (h : chkB ((c.toNat / 16 : Nat) : Int) ((c.toNat % 16 : Nat) : Int) = true) : nextF 10 [c, 0] = ((c.toNat / 16, c.toNat % 16, []), 0) := by
  have hv : varT 3 0 0 (str [0]) 0 = (0, str [], 0) := by decide +kernel
  rw [next_ok h hv (by decide) (by simp [varb])]
  rfl

set_option maxRecDepth 100000 in
set_option maxHeartbeats 1000000 in
theorem walk (a0 : Int) (w0 : (Lit.int .u8 a0).wf = true) (w : World) :
    Calls Try.prog 3 #[.int .u8 a0] w fun e w' => e = .returned (.bool true) ∧ Below w.heap.size w w' := by
  have hr0 : IntKind.u8.min ≤ a0 ∧ a0 ≤ IntKind.u8.max := by simpa [Lit.wf] using w0
  rw [show IntKind.u8.min = 0 by decide, show IntKind.u8.max = 255 by decide] at hr0
  have hr : 0 ≤ a0 ∧ a0 < 256 := by omega
  clear hr0
  obtain ⟨h0, h1⟩ := hr
  obtain ⟨C, rfl⟩ := Int.eq_ofNat_of_zero_le h0
  have hC : C < 256 := by omega
  clear w0 h0 h1
  have hcn : (UInt8.ofNat C).toNat = C := by rw [UInt8.toNat_ofNat']; omega
  have hcd : ((C / 16 : Nat) : Int) = (C : Int) / 16 := by omega
  have hcm : ((C % 16 : Nat) : Int) = (C : Int) % 16 := by omega
  have hbad := head_bad (UInt8.ofNat C)
  have hok := head_ok (UInt8.ofNat C)
  rw [hcn, hcd, hcm] at hbad hok
  have hr5 := r5B_chk ((C : Int) / 16) ((C : Int) % 16) (by omega) (by omega)
  have HBAD := Lib.hid hbad
  have HOK := Lib.hid hok
  have HR5 := Lib.hid hr5
  have HCD := Lib.hid hcd
  have HCM := Lib.hid hcm
  clear hbad hok hcn hcd hcm hr5
  generalize hk : chkB ((C : Int) / 16) ((C : Int) % 16) = K at *
  clear hk
  go_enter Try.func3, Try.ntmps3
  go_wp2_with fail
  refine (awake5_calls _).mono ?_
  rintro e w1 ⟨rfl, b1⟩
  have HB1 := Lib.hid b1
  clear b1
  go_wp2_with fail
  refine (new_calls _ 10).mono ?_
  rintro e w2 ⟨rfl, rfl⟩
  have h1 := RdAt.new w1 10
  have B1 := Lib.hid (HB1.out.alloc HB1.out.size (.cells #[.int .i64 10, .slice none 0 0, .int .i64 0] 38))
  have hq := HB1.out.size
  clear HB1
  generalize w1.heap.size = q at *
  generalize w1.alloc (.cells #[.int .i64 10, .slice none 0 0, .int .i64 0] 38) = W1 at *
  have hlt1 := h1.lt
  have hcv := conv2 W1 (C : Int) 0
  rw [Int.toNat_natCast, show UInt8.ofNat (0 : Int).toNat = 0 from rfl] at hcv
  go_wp2_with fail
  clear hcv
  have h1' := h1.below (below_one W1 (.cells #[.int .u8 C, .int .u8 0] 5))
  have B1' := Lib.hid (B1.out.alloc (by omega) (.cells #[.int .u8 C, .int .u8 0] 5))
  have hlt1' := h1'.lt
  refine (feed_ok _ q none 10 [] _ h1' (by rw [str_size]; simp)).mono ?_
  rintro e w3 ⟨rfl, r3, h3, s3⟩
  rw [List.nil_append, str_data] at h3
  have B3 := Lib.hid (B1'.out.trans (s3.below (by omega) (by omega) (fun g hg => by cases hg)))
  have hr3 := Lib.hid (s3.row_ge (B := q) (by omega) (fun g hg => by cases hg))
  clear h1 h1' s3 B1 B1'
  have hlt3 := h3.lt
  cases K
  · have hn := HBAD.out rfl
    go_wp2_with fail
    refine (next_calls _ q r3 10 [UInt8.ofNat C, 0] _ _ hn (by simp) h3).mono ?_
    rintro e w4 ⟨rfl, r4, h4, s4⟩
    have B4 := Lib.hid (B3.out.trans (s4.below (by omega) hq (fun g hg => Nat.le_trans hq (hr3.out g hg))))
    have hlt4 := h4.lt
    clear h3 h4 s4 B3 hr3 hn
    go_wp2_with fail
    refine (r5check_calls _ _ _ (by omega) (by omega)).mono ?_
    rw [HR5.out]
    rintro e w5 ⟨rfl, rfl⟩
    have B5 := Lib.hid (B4.out.alloc (by omega) (.cells #[.int .i64 0, .int .i64 0, .string (str [])] 28))
    clear B4
    go_wp2
    go_ret
    exact ⟨rfl, B5.out⟩
  · have hn := HOK.out rfl
    go_wp2_with fail
    refine (next_calls _ q r3 10 [UInt8.ofNat C, 0] _ _ hn (by simp) h3).mono ?_
    rintro e w4 ⟨rfl, r4, h4, s4⟩
    have h4' : RdAt w4 q r4 10 [] 0 := h4
    have B4 := Lib.hid (B3.out.trans (s4.below (by omega) hq (fun g hg => Nat.le_trans hq (hr3.out g hg))))
    have hlt4 := h4.lt
    dsimp only
    rw [HCD.out, HCM.out, show str [] = ⟨#[]⟩ from rfl]
    clear h3 h4 s4 B3 hr3 hn
    go_wp2_with fail
    refine (r5check_calls _ _ _ (by omega) (by omega)).mono ?_
    rw [HR5.out]
    rintro e w5 ⟨rfl, rfl⟩
    have h5 := h4'.below (below_one w4 (.cells #[.int .i64 ((C : Int) / 16), .int .i64 ((C : Int) % 16), .string ⟨#[]⟩] 28))
    have B5 := Lib.hid (B4.out.alloc (by omega) (.cells #[.int .i64 ((C : Int) / 16), .int .i64 ((C : Int) % 16), .string ⟨#[]⟩] 28))
    clear B4 h4'
    go_wp2_with fail
    refine (waits_calls _ q r4 10 [] 0 h5).mono ?_
    rintro e w6 ⟨rfl, rfl⟩
    clear h5
    go_wp2
    go_ret
    exact ⟨rfl, B5.out⟩

set_option maxRecDepth 100000 in
theorem lifted (os : Os) (started : os.Started) (H : Type) (enc : TypeId × Value → H) :
    ReturnsInHanded {} Try.checked os 3 .any (Rows.frameHeadSpec.pre6 enc Try.prog Try.f3 Rows.frameHeadRow.domain false) (Rows.frameHeadSpec.post enc Try.prog Try.f3 false true false false) := by
  refine returnsInHanded_of_change (C := Try.checked) own started (by kernel_rfl) Try.func3
    (ChangeSpec.witness6 (enc := enc) (C := Try.checked) false ⟨#[], #[.int .u8 0], []⟩ 8 (by kernel_rfl) (by kernel_rfl) (by kernel_rfl) (by kernel_rfl)) ?_
  intro W base args ds gs before hval0 hW hcnd _
  have hval : ∀ (j : Nat) t v, Try.f3.params[j]? = some t → args[j]? = some v → Value.okWide Try.prog W .any base t v := hval0
  have hW' := hW
  obtain ⟨p, q, hA0, hV, rfl, hfz, hnd⟩ := hW
  have hA : DataW.TrodAll enc Try.prog W 0 (fun _ => true) true Try.f3.params.toList args.toList ds p := hA0
  rw [Try.params3] at hA hval
  obtain ⟨v0, vs0, d0, ds0, p0, q0, hargs, rfl, rfl, h0, r0⟩ := trodAll_cons hA
  obtain ⟨rfl, rfl, rfl⟩ := trodAll_nil r0
  obtain rfl : args = #[v0] := by cases args; simp_all
  obtain ⟨rfl, rfl⟩ := trodVars_none hV
  obtain ⟨a0, rfl, rfl, rfl, w0⟩ := open_int Try.underlying5 (hval 0 5 v0 rfl rfl) h0
  clear hA0 hval0
  refine (walk a0 w0 W ).mono fun e W' ⟨he, bel⟩ => ?_
  subst he
  exact ⟨_, rfl, _, _, _, [], _, [], hW', trodAll_mk1 (shut_bool Try.underlying4 _), (trodAll_cons_mk (shut_int Try.underlying5 w0) trodAll_mk0), rfl, bel.frame _, fun h => by cases h⟩

theorem over : Rows.frameHeadRow.holds Try.pinned (OpenSpec.ofChange Rows.frameHeadSpec) :=
  OpenClaim.holds_of_wide 3 Try.f3 rfl rfl rfl rfl rfl rfl rfl ⟨rfl, rfl, rfl, rfl, rfl⟩ rfl rfl rfl rfl rfl (by kernel_rfl) Try.func3 (by kernel_rfl)
    (of_decide_eq_true (by kernel_rfl)) (by unfold Func.isWrapper; first | (rw [if_pos (by decide +kernel)]; kernel_rfl) | (rw [if_neg (by decide +kernel)]; exact ⟨rfl, rfl⟩))
    (fun os started H enc _ => lifted os started H enc)

end Go.Proofs.Ytdhdjkpocdfjbab.frameHead
namespace Go.Proofs.Ytdhdjkpocdfjbab
/-- The statement. -/
theorem frameHead_holds : Rows.FrameHeadSaid := frameHead.over
#print axioms frameHead_holds
end Go.Proofs.Ytdhdjkpocdfjbab
