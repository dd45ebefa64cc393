/-
  A publish that is read is written as it was (switchboardlaw07.PublishOne answers true for every input).
  Its conditions: none beside those of the row itself (the two tables of unicode/utf8 start as the library's text lays them: the card ties them).
-/
import Derived.Test.YtdbocpkeafcmaaaDoorCards
import Derived.Test.YtdbocpkeafcmaaaDoorTie
import Derived.Test.YtdbocpkeafcmaaaDoorJPublishOnew
import Derived.Test.YtdbocpkeafcmaaaDoorJPublishOnef
import Derived.Test.YtdbocpkeafcmaaaDoorJFr0
import Derived.Test.YtdbocpkeafcmaaaDoorJPub6
import Derived.ProofKit
import Derived.OpenShut
import Derived.ShutString
import Derived.ChangeOld
import Derived.Deep.DeepHandedRow
import Derived.Deep.DeepWitnessRowRef
import Derived.Lib.LaidU8T
import Derived.Lib.LaidTab
import Derived.Lib.LaidIn
namespace Go.Proofs.YtdbocpkeafcmaaaDoor.publishOne
open Go.ChangeShapes Go.WideShapes Go.ChangeAt Go.RowKit Go.Lib
open Go.ChangeMaps (open_string shut_string)
set_option linter.unusedVariables false

theorem flags_back : ∀ k : Fin 16, pflags (fQua (k.val : Int)) (fDup (k.val : Int)) (fRet (k.val : Int)) = (k.val : Int) ∧ 0 ≤ fQua (k.val : Int) ∧ fQua (k.val : Int) ≤ 3 := by decide +kernel

set_option maxRecDepth 100000 in
set_option maxHeartbeats 4000000 in
theorem walk1 (a0 : Int) (a1 : ByteArray) (w1 : a1.size ≤ maxLen) (w : World) (hT : Tabs w) (s : ByteArray) (hs : a1.extract 0 200 = s) (f : Int) (hf : bits .and .i64 a0 15 = f) (C : Pb) (E : Int)
    (hP : ∀ w, Tabs w → Calls Tryd.prog 51 #[.int .i64 f, .string s] w (PubR w C E)) (h1 : E = 0 → str (pubL C) = s ∧ C.ok ∧ pflags C.q C.dup C.ret = f) :
    Calls Tryd.prog 12 #[.int .i64 a0, .string a1] w fun e w' => e = .returned (.bool true) ∧ Below w.heap.size w w' := by
  have HT := Lib.hid hT
  have HS := Lib.hid hs
  have HP := Lib.hid hP
  have HH1 := Lib.hid h1
  clear hT hs hP h1
  go_enter Tryd.func12, Tryd.ntmps12
  go_wp2_with fail
  refine (cut_calls _ a1 200 w1).mono ?_
  rw [HS.out]
  rintro e w2 ⟨rfl, rfl⟩
  go_wp2_with fail
  refine (awake7_calls _ HT.out).mono ?_
  rintro e w2 ⟨rfl, b2⟩
  go_wp2_with fail
  refine (check_calls _ 3 f).mono ?_
  cases hc : chkB 3 f
  · rw [if_neg (by simp)]
    rintro e w3 ⟨rfl, rfl⟩
    go_wp2_with fail
    refine (awake7_calls _ (HT.out.below b2)).mono ?_
    rintro e w3 ⟨rfl, b3⟩
    have B3 := Lib.hid (Below.next b2 b3)
    clear b2 b3
    go_wp2
    go_ret
    exact ⟨rfl, B3.out⟩
  · rw [if_pos rfl]
    rintro e w3 ⟨rfl, rfl⟩
    have B2 := Lib.hid b2
    clear b2 hc
    go_wp2_with fail
    refine (HP.out _ (HT.out.below B2.out)).mono ?_
    rintro e w4 ⟨v, rfl, o4, b4⟩
    have PV := Lib.hid o4.props
    have B4 := Lib.hid (Below.next B2.out b4)
    obtain ⟨va, vc, rfl⟩ := o4.form
    clear o4 b4 HP B2
    obtain ⟨dup, ret, q, i, ps, tp, pl⟩ := C
    unfold pbV pbC
    dsimp only at *
    have hbx := heap_alloc_new w4 (.cells #[.bool dup, .bool ret, .int .u8 q, .int .u32 i, .slice va ps.length vc, .string tp, .string pl] 86)
    have b5 := below_one w4 (.cells #[.bool dup, .bool ret, .int .u8 q, .int .u32 i, .slice va ps.length vc, .string tp, .string pl] 86)
    have PV5 := Lib.hid (PV.out.below b5)
    have B5 := Lib.hid (Below.next B4.out b5)
    have HBX := Lib.hid hbx
    clear PV b5 hbx
    by_cases e1 : E = 0
    · subst e1
      obtain ⟨q1, q2, q3⟩ := HH1.out rfl
      have Q1 := Lib.hid q1
      have Q3 := Lib.hid q3
      clear q1 q3 HH1
      go_wp2_with fail
      generalize w4.alloc (.cells #[.bool dup, .bool ret, .int .u8 q, .int .u32 i, .slice va ps.length vc, .string tp, .string pl] 86) = W5 at *
      generalize w4.heap.size = k5 at *
      refine (pflags_calls _ ⟨dup, ret, q, i, ps, tp, pl⟩ (.slice va ps.length vc) q2.q0 q2.q1).mono ?_
      rw [Q3.out]
      rintro e w6 ⟨rfl, b6⟩
      have C6 := Lib.hid ((b6.block k5 (lt_of_block HBX.out)).trans HBX.out)
      have PV6 := Lib.hid (PV5.out.below b6)
      have B6 := Lib.hid (Below.next B5.out b6)
      obtain ⟨d0, d1, d2, d3, d4, d5, d6, df⟩ := cells7 C6.out
      clear b6 PV5 B5 HBX C6 B4
      go_wp2_with fail
      refine (pubtext_calls _ ⟨dup, ret, q, i, ps, tp, pl⟩ va ps.length vc q2 PV6.out).mono ?_
      rw [Q1.out]
      rintro e w7 ⟨rfl, b7⟩
      have B7 := Lib.hid (Below.next B6.out b7)
      clear b7 PV6 B6 d0 d1 d2 d3 d4 d5 d6 df
      go_wp2
      go_ret
      exact ⟨rfl, B7.out⟩
    · have e1b : (E != 0) = true := by simpa using e1
      clear HH1 PV5 HBX B4
      go_wp2
      go_ret
      exact ⟨rfl, B5.out⟩

theorem walk (a0 : Int) (w0 : (Lit.int .i64 a0).wf = true) (a1 : ByteArray) (w1 : a1.size ≤ maxLen) (w : World) (hT : Tabs w) :
    Calls Tryd.prog 12 #[.int .i64 a0, .string a1] w fun e w' => e = .returned (.bool true) ∧ Below w.heap.size w w' := by
  have hz : (a1.extract 0 200).size ≤ 200 := by simp; omega
  have hf := i64_and15 a0
  have hr := flags_back ⟨(a0 % 16).toNat, by omega⟩
  have hcast : (((a0 % 16).toNat : Nat) : Int) = a0 % 16 := by omega
  dsimp only at hr
  rw [hcast] at hr
  obtain ⟨tp, n, ps, pl, E, s1, x1, s2, x2, s3, x3, s4, x4, hof⟩ := pub_of (a1.extract 0 200) (fQua (a0 % 16))
  refine walk1 a0 a1 w1 w hT _ rfl _ hf _ E (fun w hw => pub_calls w _ _ hw hr.2.1 hr.2.2 hof _ rfl) ?_
  intro he
  subst he
  rw [if_pos rfl]
  obtain ⟨h1, h2⟩ := pub_inv hof (fDup (a0 % 16)) (fRet (a0 % 16)) (by omega) hr.2.1 hr.2.2
  exact ⟨h1.symm, h2, hr.1⟩

set_option maxRecDepth 100000 in
set_option maxHeartbeats 2000000 in
theorem lifted (os : Os) (started : os.Started) (H : Type) (enc : TypeId × Value → H) (F : Stop.Interp) :
    ReturnsInHanded {} Tryd.checked os 12 .any ((OpenSpec.ofChange Rows.publishOneSpec).preRow enc Tryd.prog Tryd.f12 Rows.publishOneRow.domain false Rows.publishOneRow.laid) (((OpenSpec.ofChange Rows.publishOneSpec).at F).post enc Tryd.prog Tryd.f12 false true false false) := by
  obtain ⟨places, hx⟩ := reads os enc
  refine returnsInHanded_of_row (C := Tryd.checked) (s := OpenSpec.ofChange Rows.publishOneSpec) own started (by kernel_rfl) Tryd.func12
    (witness_row_at (enc := enc) (C := Tryd.checked) false (laidWorld os) #[.int .i64 0, .string ByteArray.empty] rfl (by kernel_rfl) (by kernel_rfl) (by kernel_rfl)
      (OpenSpec.preRow_of_cond 8 hx (by kernel_rfl) (fun k hk => by cases hk) (by kernel_rfl) (laid_met os))) ?_
  intro W base args ds gs before hval0 hW _ _ _ hL _ _
  have hval : ∀ (j : Nat) t v, Tryd.f12.params[j]? = some t → args[j]? = some v → Value.okWide Tryd.prog W .any base t v := hval0
  have hW' := hW
  obtain ⟨p, q, hA0, hV, rfl, hfz, hnd⟩ := hW
  have hA : DataW.TrodAll enc Tryd.prog W 0 (fun _ => true) true Tryd.f12.params.toList args.toList ds p := hA0
  rw [Tryd.params12] at hA hval
  obtain ⟨v0, vs0, d0, ds0, p0, q0, hargs, rfl, rfl, h0, r0⟩ := trodAll_cons hA
  obtain ⟨v1, vs1, d1, ds1, p1, q1, rfl, rfl, rfl, h1, r1⟩ := trodAll_cons r0
  obtain ⟨rfl, rfl, rfl⟩ := trodAll_nil r1
  obtain rfl : args = #[v0, v1] := by cases args; simp_all
  obtain ⟨rfl, rfl⟩ := trodVars_none hV
  obtain ⟨a0, rfl, rfl, rfl, w0⟩ := open_int Tryd.underlying3 (hval 0 3 v0 rfl rfl) h0
  obtain ⟨a1, rfl, rfl, rfl, w1⟩ := open_string Tryd.underlying9 (hval 1 9 v1 rfl rfl) h1
  clear hA0 hval0
  have hT : Tabs W := utf8Tabs_of_readsT (U8Types.of196 Tryd.lays196) ⟨by kernel_rfl, by kernel_rfl, by kernel_rfl, by kernel_rfl, by kernel_rfl, by kernel_rfl, by kernel_rfl⟩ (first_eq ▸ Lib.laidMet.reads hL (.tail _ (.head _))) (accept_eq ▸ Lib.laidMet.reads hL (.head _))
  refine (walk a0 w0 a1 w1 W  hT).mono fun e W' ⟨he, bel⟩ => ?_
  subst he
  exact ⟨_, rfl, _, _, _, [], _, [], hW', trodAll_mk1 (shut_bool Tryd.underlying4 _), (trodAll_cons_mk (shut_int Tryd.underlying3 w0) (trodAll_cons_mk (shut_string Tryd.underlying9 w1) trodAll_mk0)), rfl, bel.frame _, fun h => by cases h⟩

theorem said : Rows.PublishOneSaid :=
  OpenClaim.holds_of_cond 12 Tryd.f12 rfl rfl rfl rfl rfl rfl rfl ⟨rfl, rfl, rfl, rfl, rfl⟩ rfl rfl rfl rfl rfl (by kernel_rfl) Tryd.func12 closed
    (of_decide_eq_true (by kernel_rfl)) (by unfold Func.isWrapper; first | (rw [if_pos (by decide +kernel)]; kernel_rfl) | (rw [if_neg (by decide +kernel)]; exact ⟨rfl, rfl⟩))
    (fun os started H enc _ F => by rw [OpenClaim.pre_eq_preRow]; exact lifted os started H enc F)

theorem plain (f : FuncId) (fn : Func) (hf : Tryd.pinned.checked.prog.funcNamed Tryd.f12.name = some f) (hfn : Tryd.pinned.checked.prog.funcs[f]? = some fn) :
    false = Tryd.pinned.checked.prog.looks [] ∧ ∀ (j : Nat) t, fn.params[j]? = some t → Tryd.pinned.checked.prog.wantsStandIn t = false := by
  obtain rfl : f = 12 := Option.some.inj ((show Tryd.prog.funcNamed Tryd.f12.name = some 12 by kernel_rfl).symm.trans hf) |>.symm
  obtain rfl : fn = Tryd.f12 := (Option.some.inj (Tryd.func12.symm.trans hfn)).symm
  refine ⟨fac_looks, fun j t ht => ?_⟩
  rw [Tryd.params12] at ht
  have hm : t = 3 ∨ t = 9 := by simpa using Array.mem_of_getElem? ht
  rcases hm with rfl | rfl
  · exact (show Tryd.prog.wantsStandIn 3 = false by kernel_rfl)
  · exact (show Tryd.prog.wantsStandIn 9 = false by kernel_rfl)

end Go.Proofs.YtdbocpkeafcmaaaDoor.publishOne
namespace Go.Proofs.YtdbocpkeafcmaaaDoor
/-- The statement. -/
theorem publishOne_holds : Rows.PublishOneCardSaid :=
  Claim7.holds_tied_plain_at .later [] _ _ _ _ publishOne.said (fun _ h => by cases h) publishOne.wft (fun _ h => by cases h) publishOne_row_tie rfl ⟨rfl, rfl⟩ fac_main rfl publishOne.plain publishOne.goes
#print axioms publishOne_holds
end Go.Proofs.YtdbocpkeafcmaaaDoor
