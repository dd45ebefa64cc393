/-
  A topic's name is a filter that it alone meets.
  Its conditions: none beside those of the row itself (the two tables of unicode/utf8 start as the library's text lays them: the card ties them).
-/
import Derived.Test.YtehnpnlbfcajaaaDoorCards
import Derived.Test.YtehnpnlbfcajaaaDoorTie
import Derived.Test.YtehnpnlbfcajaaaDoorJTopicPlainw
import Derived.Test.YtehnpnlbfcajaaaDoorJTopicPlainf
import Derived.Test.YtehnpnlbfcajaaaDoorJTop6
import Derived.ProofKit
import Derived.OpenShut
import Derived.ShutString
import Derived.ChangeOld
import Derived.Deep.DeepHandedRow
import Derived.Deep.DeepWitnessRowRef
import Derived.Lib.LaidU8T
import Derived.Lib.LaidTab
import Derived.Lib.LaidIn
namespace Go.Proofs.YtehnpnlbfcajaaaDoor.topicPlain
open Go.ChangeShapes Go.WideShapes Go.ChangeAt Go.RowKit Go.Lib
open Go.ChangeMaps (open_string shut_string)
set_option linter.unusedVariables false

theorem name_parts {l : List UInt8} (h : nameB l = true) : mayB l = true ∧ hasS l = false := by
  unfold nameB at h
  rw [Bool.and_eq_true] at h
  exact ⟨h.1, by simpa using h.2⟩
theorem name_filter {l : List UInt8} (h : nameB l = true) : filtB l = true := by
  unfold filtB
  rw [(name_parts h).1, filtR_plain _ (fun x hx => hasS_lev l x (name_parts h).2 hx)]
  rfl
theorem head_mem (l : List UInt8) : (lev l).headD [] ∈ lev l := by rw [lev_cons l]; exact .head _
theorem sgn_plain {x : List UInt8} (h : hasS x = false) : sgnL x = false := by
  unfold sgnL
  cases e : (x == [43] || x == [35]) with
  | false => rfl
  | true =>
    rw [Bool.or_eq_true] at e
    rcases e with e | e
    · rw [eq_of_beq e] at h; exact absurd h (by decide)
    · rw [eq_of_beq e] at h; exact absurd h (by decide)
theorem name_match {a : List UInt8} (b : List UInt8) (h : nameB a = true) : matchB a b = decide (a = b) := by
  unfold matchB
  rw [sgn_plain (hasS_lev a _ (name_parts h).2 (head_mem a)), Bool.and_false, Bool.not_false, Bool.true_and, meet_plain _ _ (fun x hx => hasS_lev a x (name_parts h).2 hx)]
  by_cases e : a = b
  · subst e; simp
  · rw [decide_eq_false e]
    exact beq_false_of_ne fun k => e (lev_inj k)

theorem walk (a0 : ByteArray) (w0 : a0.size ≤ maxLen) (a1 : ByteArray) (w1 : a1.size ≤ maxLen) (w : World) (hT : T10 w) :
    Calls Tryd.prog 5 #[.string a0, .string a1] w fun e w' => e = .returned (.bool true) ∧ Below w.heap.size w w' := by
  have HT := Lib.hid hT
  clear hT
  go_enter Tryd.func5, Tryd.ntmps5
  go_wp2_with fail
  refine (cut_calls _ a0 80 w0).mono ?_
  rintro e v3 ⟨rfl, rfl⟩
  have hs4 : (a0.extract 0 80).size ≤ 80 := by simp; omega
  generalize a0.extract 0 80 = s at *
  go_wp2_with fail
  refine (cut_calls _ a1 80 w1).mono ?_
  rintro e v3 ⟨rfl, rfl⟩
  have hs5 : (a1.extract 0 80).size ≤ 80 := by simp; omega
  generalize a1.extract 0 80 = t at *
  clear w0 w1
  obtain ⟨la, rfl⟩ : ∃ l, s = str l := ⟨_, ba_str s⟩
  obtain ⟨lb, rfl⟩ : ∃ l, t = str l := ⟨_, ba_str t⟩
  rw [str_size] at hs4 hs5
  have ha := Lib.hid hs4
  have hb := Lib.hid hs5
  clear hs4 hs5
  go_wp2_with fail
  refine (awake10_calls _ HT.out).mono ?_
  rintro e v1 ⟨rfl, b1⟩
  go_wp2_with fail
  refine (name_calls _ la (by have := ha.out; omega) (HT.out.below b1)).mono ?_
  cases hA : nameB la with
  | false =>
    rintro e v2 ⟨rfl, b⟩
    have b2 := b1.trans (b.mono b1.size)
    clear b b1
    go_wp2_with fail
    refine (awake10_calls _ (HT.out.below b2)).mono ?_
    rintro e v3 ⟨rfl, b⟩
    have b3 := Lib.hid (b2.trans (b.mono b2.size))
    clear b b2
    go_wp2
    go_ret
    exact ⟨rfl, b3.out⟩
  | true =>
    rintro e v2 ⟨rfl, b⟩
    have b2 := b1.trans (b.mono b1.size)
    clear b b1
    go_wp2_with fail
    refine (name_calls _ lb (by have := hb.out; omega) (HT.out.below b2)).mono ?_
    cases hB : nameB lb with
    | false =>
      rintro e v3 ⟨rfl, b⟩
      have b3 := b2.trans (b.mono b2.size)
      clear b b2
      go_wp2_with fail
      refine (awake10_calls _ (HT.out.below b3)).mono ?_
      rintro e v4 ⟨rfl, b⟩
      have b4 := Lib.hid (b3.trans (b.mono b3.size))
      clear b b3
      go_wp2
      go_ret
      exact ⟨rfl, b4.out⟩
    | true =>
      rintro e v3 ⟨rfl, b⟩
      have b3 := b2.trans (b.mono b2.size)
      clear b b2
      have f1 := name_filter hA
      have m1 := name_match la hA
      have m2 := name_match lb hA
      clear hA hB
      have c1 := fun v h => filter_calls v la (by have := ha.out; omega) h
      have c2 := fun v h => match_calls v la la (by have := ha.out; omega) (by have := ha.out; omega) h
      have c3 := fun v h => match_calls v la lb (by have := ha.out; omega) (by have := hb.out; omega) h
      rw [f1] at c1
      rw [m1, decide_eq_true rfl] at c2
      rw [m2] at c3
      clear f1 m1 m2
      have e1 : (str la).toList = la := str_list la
      have e2 : (str lb).toList = lb := str_list lb
      go_wp2_with fail
      refine (c1 _ (HT.out.below b3)).mono ?_
      rintro e v4 ⟨rfl, b⟩
      have b4 := b3.trans (b.mono b3.size)
      clear b b3
      go_wp2_with fail
      refine (c2 _ (HT.out.below b4)).mono ?_
      rintro e v5 ⟨rfl, b⟩
      have b5 := b4.trans (b.mono b4.size)
      clear b b4
      go_wp2_with fail
      refine (c3 _ (HT.out.below b5)).mono ?_
      by_cases hab : la = lb
      · subst hab
        rw [decide_eq_true rfl]
        rintro e v6 ⟨rfl, b⟩
        have b6 := Lib.hid (b5.trans (b.mono b5.size))
        clear b b5 c1 c2 c3
        go_wp2
        go_ret
        exact ⟨by simp, b6.out⟩
      · rw [decide_eq_false hab]
        have e3 : (decide ((str la).toList = (str lb).toList)) = false := by rw [e1, e2]; exact decide_eq_false hab
        rintro e v6 ⟨rfl, b⟩
        have b6 := Lib.hid (b5.trans (b.mono b5.size))
        clear b b5 c1 c2 c3
        go_wp2
        go_ret
        exact ⟨by simp [hab], b6.out⟩

set_option maxRecDepth 100000 in
set_option maxHeartbeats 2000000 in
theorem lifted (os : Os) (started : os.Started) (H : Type) (enc : TypeId × Value → H) (F : Stop.Interp) :
    ReturnsInHanded {} Tryd.checked os 5 .any ((OpenSpec.ofChange Rows.topicPlainSpec).preRow enc Tryd.prog Tryd.f5 Rows.topicPlainRow.domain false Rows.topicPlainRow.laid) (((OpenSpec.ofChange Rows.topicPlainSpec).at F).post enc Tryd.prog Tryd.f5 false true false false) := by
  obtain ⟨places, hx⟩ := reads os enc
  refine returnsInHanded_of_row (C := Tryd.checked) (s := OpenSpec.ofChange Rows.topicPlainSpec) own started (by kernel_rfl) Tryd.func5
    (witness_row_at (enc := enc) (C := Tryd.checked) false (laidWorld os) #[.string ByteArray.empty, .string ByteArray.empty] rfl (by kernel_rfl) (by kernel_rfl) (by kernel_rfl)
      (OpenSpec.preRow_of_cond 8 hx (by kernel_rfl) (fun k hk => by cases hk) (by kernel_rfl) (laid_met os))) ?_
  intro W base args ds gs before hval0 hW _ _ _ hL hShp _
  have hval : ∀ (j : Nat) t v, Tryd.f5.params[j]? = some t → args[j]? = some v → Value.okWide Tryd.prog W .any base t v := hval0
  have hW' := hW
  obtain ⟨p, q, hA0, hV, rfl, hfz, hnd⟩ := hW
  have hA : DataW.TrodAll enc Tryd.prog W 0 (fun _ => true) true Tryd.f5.params.toList args.toList ds p := hA0
  rw [Tryd.params5] at hA hval
  obtain ⟨v0, vs0, d0, ds0, p0, q0, hargs, rfl, rfl, h0, r0⟩ := trodAll_cons hA
  obtain ⟨v1, vs1, d1, ds1, p1, q1, rfl, rfl, rfl, h1, r1⟩ := trodAll_cons r0
  obtain ⟨rfl, rfl, rfl⟩ := trodAll_nil r1
  obtain rfl : args = #[v0, v1] := by cases args; simp_all
  obtain ⟨rfl, rfl⟩ := trodVars_none hV
  obtain ⟨a0, rfl, rfl, rfl, w0⟩ := open_string Tryd.underlying9 (hval 0 9 v0 rfl rfl) h0
  obtain ⟨a1, rfl, rfl, rfl, w1⟩ := open_string Tryd.underlying9 (hval 1 9 v1 rfl rfl) h1
  clear hA0 hval0
  have hT : Tabs W := utf8Tabs_of_readsT (U8Types.of196 Tryd.lays196) ⟨by kernel_rfl, by kernel_rfl, by kernel_rfl, by kernel_rfl, by kernel_rfl, by kernel_rfl, by kernel_rfl⟩ (first_eq ▸ Lib.laidMet.reads hL (.tail _ (.head _))) (accept_eq ▸ Lib.laidMet.reads hL (.head _))
  have hT10 : T10 W := ⟨hT, Tryd.laysM145.s1_3 W hShp⟩
  refine (walk a0 w0 a1 w1 W  hT10).mono fun e W' ⟨he, bel⟩ => ?_
  subst he
  exact ⟨_, rfl, _, _, _, [], _, [], hW', trodAll_mk1 (shut_bool Tryd.underlying4 _), (trodAll_cons_mk (shut_string Tryd.underlying9 w0) (trodAll_cons_mk (shut_string Tryd.underlying9 w1) trodAll_mk0)), rfl, bel.frame _, fun h => by cases h⟩

theorem said : Rows.TopicPlainSaid :=
  OpenClaim.holds_of_cond 5 Tryd.f5 rfl rfl rfl rfl rfl rfl rfl ⟨rfl, rfl, rfl, rfl, rfl⟩ rfl rfl rfl rfl rfl (by kernel_rfl) Tryd.func5 closed
    (of_decide_eq_true (by kernel_rfl)) (by unfold Func.isWrapper; first | (rw [if_pos (by decide +kernel)]; kernel_rfl) | (rw [if_neg (by decide +kernel)]; exact ⟨rfl, rfl⟩))
    (fun os started H enc _ F => by rw [OpenClaim.pre_eq_preRow]; exact lifted os started H enc F)

theorem plain (f : FuncId) (fn : Func) (hf : Tryd.pinned.checked.prog.funcNamed Tryd.f5.name = some f) (hfn : Tryd.pinned.checked.prog.funcs[f]? = some fn) :
    false = Tryd.pinned.checked.prog.looks [] ∧ ∀ (j : Nat) t, fn.params[j]? = some t → Tryd.pinned.checked.prog.wantsStandIn t = false := by
  obtain rfl : f = 5 := Option.some.inj ((show Tryd.prog.funcNamed Tryd.f5.name = some 5 by kernel_rfl).symm.trans hf) |>.symm
  obtain rfl : fn = Tryd.f5 := (Option.some.inj (Tryd.func5.symm.trans hfn)).symm
  refine ⟨fac_looks, fun j t ht => ?_⟩
  rw [Tryd.params5] at ht
  have hm : t = 9 := by simpa using Array.mem_of_getElem? ht
  subst hm
  exact (show Tryd.prog.wantsStandIn 9 = false by kernel_rfl)

end Go.Proofs.YtehnpnlbfcajaaaDoor.topicPlain
namespace Go.Proofs.YtehnpnlbfcajaaaDoor
/-- The statement. -/
theorem topicPlain_holds : Rows.TopicPlainCardSaid :=
  Claim7.holds_tied_plain_at .later [] _ _ _ _ topicPlain.said (fun _ h => by cases h) topicPlain.wft (fun _ h => by cases h) topicPlain_row_tie rfl ⟨rfl, rfl⟩ fac_main rfl topicPlain.plain topicPlain.goes
#print axioms topicPlain_holds
end Go.Proofs.YtehnpnlbfcajaaaDoor
