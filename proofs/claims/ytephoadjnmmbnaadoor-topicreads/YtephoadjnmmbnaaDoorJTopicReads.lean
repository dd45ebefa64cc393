/-
  Of any text of at most 120 bytes the levels, whether it is a name or a filter, and the parts of a shared filter are as the document's.
  Its conditions: none beside those of the row itself (the two tables of unicode/utf8 start as the library's text lays them: the card ties them).
-/
import Derived.Test.YtephoadjnmmbnaaDoorCards
import Derived.Test.YtephoadjnmmbnaaDoorTie
import Derived.Test.YtephoadjnmmbnaaDoorJTopicReadsw
import Derived.Test.YtephoadjnmmbnaaDoorJTopicReadsf
import Derived.Test.YtephoadjnmmbnaaDoorJRt2
import Derived.ProofKit
import Derived.OpenShut
import Derived.ShutString
import Derived.ChangeOld
import Derived.Deep.DeepHandedRow
import Derived.Deep.DeepWitnessRowRef
import Derived.Lib.LaidU8T
import Derived.Lib.LaidTab
import Derived.Lib.LaidIn
namespace Go.Proofs.YtephoadjnmmbnaaDoor.topicReads
open Go.ChangeShapes Go.WideShapes Go.ChangeAt Go.RowKit Go.Lib
open Go.ChangeMaps (open_string shut_string)
set_option linter.unusedVariables false

set_option maxRecDepth 100000 in
set_option maxHeartbeats 2000000 in
theorem walk1 (a0 : ByteArray) (w0 : a0.size ≤ maxLen) (w : World) (HT : Hid (T10 w)) (s : List UInt8) (hs : a0.extract 0 120 = str s) (hz : s.length ≤ 120) (G F : List UInt8) (b N M H : Bool) (ls : List (List UInt8)) (hls : ls.length ≤ 100000)
    (cs : ∀ w, T10 w → Calls Tryd.prog 14 #[.string (str s)] w fun e w' => e = .returned (.tuple #[.string (str G), .string (str F), .bool b]) ∧ Below w.heap.size w w')
    (cs2 : ∀ w, Calls Tryd.prog 15 #[.string (str s)] w fun e w' => e = .returned (.tuple #[.string (str G), .string (str F), .bool b]) ∧ Below w.heap.size w w')
    (cl : ∀ w, T10 w → Calls Tryd.prog 18 #[.string (str s)] w fun e w' => e = .returned (.slice (some ⟨w.heap.size, 0, none⟩) ls.length ls.length) ∧ LevAt w' w.heap.size ls ∧ Below w.heap.size w w' ∧ w.heap.size < w'.heap.size)
    (cl2 : ∀ w, Calls Tryd.prog 19 #[.string (str s)] w fun e w' => ∃ g cap, e = .returned (.slice (some ⟨g, 0, none⟩) ls.length cap) ∧ LevAt w' g ls ∧ w.heap.size ≤ g ∧ g < w'.heap.size ∧ Below w.heap.size w w')
    (cn : ∀ w, T10 w → Calls Tryd.prog 20 #[.string (str s)] w fun e w' => e = .returned (.bool N) ∧ Below w.heap.size w w')
    (cn2 : ∀ w, Calls Tryd.prog 21 #[.string (str s)] w fun e w' => e = .returned (.bool N) ∧ Below w.heap.size w w')
    (cf : ∀ w, T10 w → Calls Tryd.prog 22 #[.string (str s)] w fun e w' => e = .returned (.bool M) ∧ Below w.heap.size w w')
    (cf2 : ∀ w, Calls Tryd.prog 23 #[.string (str s)] w fun e w' => e = .returned (.bool M) ∧ Below w.heap.size w w')
    (ch : ∀ w, Calls Tryd.prog 24 #[.string (str s)] w fun e w' => e = .returned (.bool H) ∧ w' = w)
    (hH : (s = [] ∧ H = false) ∨ (∃ c r, s = c :: r ∧ ((c.toNat = 36 ∧ H = true) ∨ (c.toNat ≠ 36 ∧ H = false)))) :
    Calls Tryd.prog 3 #[.string a0] w fun e w' => e = .returned (.bool true) ∧ Below w.heap.size w w' := by
  have CS := Lib.hid cs
  have CS2 := Lib.hid cs2
  have CL := Lib.hid cl
  have CL2 := Lib.hid cl2
  have CN := Lib.hid cn
  have CN2 := Lib.hid cn2
  have CF := Lib.hid cf
  have CF2 := Lib.hid cf2
  have CH := Lib.hid ch
  have HH := Lib.hid hH
  have e1 : (str G).toList = G := str_list G
  have e2 : (str F).toList = F := str_list F
  clear cs cs2 cl cl2 cn cn2 cf cf2 ch hH
  go_enter Tryd.func3, Tryd.ntmps3
  go_wp2_with fail
  refine (cut_calls _ a0 120 w0).mono ?_
  rintro e v3 ⟨rfl, rfl⟩
  rw [hs]
  clear w0 hs
  go_wp2_with fail
  refine (CS.out _ HT.out).mono ?_
  rintro e v1 ⟨rfl, b1⟩
  go_wp2_with fail
  refine (CS2.out _).mono ?_
  rintro e v2 ⟨rfl, b⟩
  have b2 := b1.trans (b.mono b1.size)
  clear b b1
  go_wp2_with fail
  refine (awake10_calls _ (HT.out.below b2)).mono ?_
  rintro e v3 ⟨rfl, b⟩
  have b3 := b2.trans (b.mono b2.size)
  clear b b2
  go_wp2_with fail
  refine (CL.out _ (HT.out.below b3)).mono ?_
  rintro e v4 ⟨rfl, L4, b, z4⟩
  have b4 := b3.trans (b.mono b3.size)
  clear b b3
  go_wp2_with fail
  refine (CL2.out _).mono ?_
  rintro e v5 ⟨g, cap, rfl, L5, _, z5, b⟩
  have b5 := b4.trans (b.mono b4.size)
  have L4' := L4.below b z4
  have z4' := Nat.lt_of_lt_of_le z4 b.size
  clear b b4 L4 z4
  go_wp2_with fail
  refine (same10_calls _ _ _ _ _ ls hls L4' L5 z4' z5).mono ?_
  rintro e v6 ⟨rfl, b⟩
  have b5' := b5.trans (b.mono b5.size)
  clear b b5 L4' L5 z4' z5
  go_wp2_with fail
  refine (CN.out _ (HT.out.below b5')).mono ?_
  rintro e v6 ⟨rfl, b⟩
  have b6 := b5'.trans (b.mono b5'.size)
  clear b b5'
  go_wp2_with fail
  refine (CN2.out _).mono ?_
  rintro e v7 ⟨rfl, b⟩
  have b7 := b6.trans (b.mono b6.size)
  clear b b6
  go_wp2_with fail
  refine (CF.out _ (HT.out.below b7)).mono ?_
  rintro e v8 ⟨rfl, b⟩
  have b8 := b7.trans (b.mono b7.size)
  clear b b7
  go_wp2_with fail
  refine (CF2.out _).mono ?_
  rintro e v9 ⟨rfl, b⟩
  have b9 := Lib.hid (b8.trans (b.mono b8.size))
  clear b b8
  go_wp2_with fail
  refine (CH.out _).mono ?_
  rintro e v10 ⟨rfl, hw⟩
  rw [hw]
  clear hw CS CS2 CL CL2 CN CN2 CF CF2 CH HT
  have hem := empty_str s
  have hsz := str_size s
  rcases HH.out with ⟨rfl, rfl⟩ | ⟨c, r, rfl, ⟨hc, rfl⟩ | ⟨hc, rfl⟩⟩
  · clear HH
    go_wp2
    go_ret
    exact ⟨rfl, b9.out⟩
  · clear HH
    have hg : (str (c :: r))[0]'(by rw [str_size]; simp) = c := by rw [get_str]; rfl
    rw [decide_eq_false (by simp)] at hem
    go_wp2
    go_ret
    exact ⟨rfl, b9.out⟩
  · clear HH
    have hg : (str (c :: r))[0]'(by rw [str_size]; simp) = c := by rw [get_str]; rfl
    have hd : ((c.toNat : Int) == 36) = false := by rw [beq_eq_false_iff_ne]; omega
    rw [decide_eq_false (by simp)] at hem
    go_wp2
    go_ret
    exact ⟨rfl, b9.out⟩

theorem walk (a0 : ByteArray) (w0 : a0.size ≤ maxLen) (w : World) (hT : T10 w) :
    Calls Tryd.prog 3 #[.string a0] w fun e w' => e = .returned (.bool true) ∧ Below w.heap.size w w' := by
  have hl : (a0.data.toList.take 120).length ≤ 120 := by rw [List.length_take]; omega
  generalize hs : a0.data.toList.take 120 = s at hl
  have hc : (lev s).length ≤ 100000 := by rw [lev_length]; have := List.count_le_length (a := (47 : UInt8)) (l := s); omega
  refine walk1 a0 w0 w (Lib.hid hT) s (by rw [ba_take, hs]) hl (splitT s).1 (splitT s).2.1 (splitT s).2.2 (nameB s) (filtB s) (hidB s) (lev s) hc
    (fun w h => split_calls w s (by omega) h) (fun w => r10split_calls w s (by omega)) (fun w h => levels_calls w s (by omega) h) (fun w => r10levels_calls w s (by omega))
    (fun w h => name_calls w s (by omega) h) (fun w => r10name_calls w s (by omega)) (fun w h => filter_calls w s (by omega) h) (fun w => r10filter_calls w s (by omega)) (fun w => hidden_calls w s) ?_
  match s with
  | [] => exact .inl ⟨rfl, rfl⟩
  | c :: r =>
    refine .inr ⟨c, r, rfl, ?_⟩
    have e : hidB (c :: r) = (36 == c) := by simp [hidB, List.isPrefixOf]
    rw [e]
    by_cases h : c = 36
    · left; subst h; exact ⟨rfl, rfl⟩
    · right
      exact ⟨fun e => h (UInt8.toNat_inj.1 e), beq_eq_false_iff_ne.2 (fun e => h e.symm)⟩

set_option maxRecDepth 100000 in
set_option maxHeartbeats 2000000 in
theorem lifted (os : Os) (started : os.Started) (H : Type) (enc : TypeId × Value → H) (F : Stop.Interp) :
    ReturnsInHanded {} Tryd.checked os 3 .any ((OpenSpec.ofChange Rows.topicReadsSpec).preRow enc Tryd.prog Tryd.f3 Rows.topicReadsRow.domain false Rows.topicReadsRow.laid) (((OpenSpec.ofChange Rows.topicReadsSpec).at F).post enc Tryd.prog Tryd.f3 false true false false) := by
  obtain ⟨places, hx⟩ := reads os enc
  refine returnsInHanded_of_row (C := Tryd.checked) (s := OpenSpec.ofChange Rows.topicReadsSpec) own started (by kernel_rfl) Tryd.func3
    (witness_row_at (enc := enc) (C := Tryd.checked) false (laidWorld os) #[.string ByteArray.empty] rfl (by kernel_rfl) (by kernel_rfl) (by kernel_rfl)
      (OpenSpec.preRow_of_cond 8 hx (by kernel_rfl) (fun k hk => by cases hk) (by kernel_rfl) (laid_met os))) ?_
  intro W base args ds gs before hval0 hW _ _ _ hL hShp _
  have hval : ∀ (j : Nat) t v, Tryd.f3.params[j]? = some t → args[j]? = some v → Value.okWide Tryd.prog W .any base t v := hval0
  have hW' := hW
  obtain ⟨p, q, hA0, hV, rfl, hfz, hnd⟩ := hW
  have hA : DataW.TrodAll enc Tryd.prog W 0 (fun _ => true) true Tryd.f3.params.toList args.toList ds p := hA0
  rw [Tryd.params3] at hA hval
  obtain ⟨v0, vs0, d0, ds0, p0, q0, hargs, rfl, rfl, h0, r0⟩ := trodAll_cons hA
  obtain ⟨rfl, rfl, rfl⟩ := trodAll_nil r0
  obtain rfl : args = #[v0] := by cases args; simp_all
  obtain ⟨rfl, rfl⟩ := trodVars_none hV
  obtain ⟨a0, rfl, rfl, rfl, w0⟩ := open_string Tryd.underlying9 (hval 0 9 v0 rfl rfl) h0
  clear hA0 hval0
  have hT : Tabs W := utf8Tabs_of_readsT (U8Types.of196 Tryd.lays196) ⟨by kernel_rfl, by kernel_rfl, by kernel_rfl, by kernel_rfl, by kernel_rfl, by kernel_rfl, by kernel_rfl⟩ (first_eq ▸ Lib.laidMet.reads hL (.tail _ (.head _))) (accept_eq ▸ Lib.laidMet.reads hL (.head _))
  have hT10 : T10 W := ⟨hT, Tryd.laysM146.s1_3 W hShp⟩
  refine (walk a0 w0 W  hT10).mono fun e W' ⟨he, bel⟩ => ?_
  subst he
  exact ⟨_, rfl, _, _, _, [], _, [], hW', trodAll_mk1 (shut_bool Tryd.underlying4 _), (trodAll_cons_mk (shut_string Tryd.underlying9 w0) trodAll_mk0), rfl, bel.frame _, fun h => by cases h⟩

theorem said : Rows.TopicReadsSaid :=
  OpenClaim.holds_of_cond 3 Tryd.f3 rfl rfl rfl rfl rfl rfl rfl ⟨rfl, rfl, rfl, rfl, rfl⟩ rfl rfl rfl rfl rfl (by kernel_rfl) Tryd.func3 closed
    (of_decide_eq_true (by kernel_rfl)) (by unfold Func.isWrapper; first | (rw [if_pos (by decide +kernel)]; kernel_rfl) | (rw [if_neg (by decide +kernel)]; exact ⟨rfl, rfl⟩))
    (fun os started H enc _ F => by rw [OpenClaim.pre_eq_preRow]; exact lifted os started H enc F)

theorem plain (f : FuncId) (fn : Func) (hf : Tryd.pinned.checked.prog.funcNamed Tryd.f3.name = some f) (hfn : Tryd.pinned.checked.prog.funcs[f]? = some fn) :
    false = Tryd.pinned.checked.prog.looks [] ∧ ∀ (j : Nat) t, fn.params[j]? = some t → Tryd.pinned.checked.prog.wantsStandIn t = false := by
  obtain rfl : f = 3 := Option.some.inj ((show Tryd.prog.funcNamed Tryd.f3.name = some 3 by kernel_rfl).symm.trans hf) |>.symm
  obtain rfl : fn = Tryd.f3 := (Option.some.inj (Tryd.func3.symm.trans hfn)).symm
  refine ⟨fac_looks, fun j t ht => ?_⟩
  rw [Tryd.params3] at ht
  have hm : t = 9 := by simpa using Array.mem_of_getElem? ht
  subst hm
  exact (show Tryd.prog.wantsStandIn 9 = false by kernel_rfl)

end Go.Proofs.YtephoadjnmmbnaaDoor.topicReads
namespace Go.Proofs.YtephoadjnmmbnaaDoor
/-- The statement. -/
theorem topicReads_holds : Rows.TopicReadsCardSaid :=
  Claim7.holds_tied_plain_at .later [] _ _ _ _ topicReads.said (fun _ h => by cases h) topicReads.wft (fun _ h => by cases h) topicReads_row_tie rfl ⟨rfl, rfl⟩ fac_main rfl topicReads.plain topicReads.goes
#print axioms topicReads_holds
end Go.Proofs.YtephoadjnmmbnaaDoor
