/-
  What may be a topic's name or filter is a string of a packet.
  Its conditions: none beside those of the row itself (the two tables of unicode/utf8 start as the library's text lays them: the card ties them).
-/
import Derived.Test.YtbdpccfkgekdaaaDoorCards
import Derived.Test.YtbdpccfkgekdaaaDoorTie
import Derived.Test.YtbdpccfkgekdaaaDoorJSwitchboardWordsw
import Derived.Test.YtbdpccfkgekdaaaDoorJSwitchboardWordsf
import Derived.Test.YtbdpccfkgekdaaaDoorJLive
import Derived.Test.YtbdpccfkgekdaaaDoorJWords
import Derived.ProofKit
import Derived.OpenShut
import Derived.ShutString
import Derived.ChangeOld
import Derived.Deep.DeepHandedRow
import Derived.Deep.DeepWitnessRowRef
import Derived.Lib.LaidU8T
import Derived.Lib.LaidTab
import Derived.Lib.LaidIn
namespace Go.Proofs.YtbdpccfkgekdaaaDoor.switchboardWords
open Go.ChangeShapes Go.WideShapes Go.ChangeAt Go.RowKit Go.Lib
open Go.ChangeMaps (open_string shut_string)
set_option linter.unusedVariables false

theorem may_good {l : List UInt8} (h : mayT l = true) : goodB (str l) = true := by
  unfold mayT at h
  simp only [Bool.and_eq_true] at h
  exact h.2.1
theorem nf_good {l : List UInt8} (h : (nameB l || filtB l) = true) : goodB (str l) = true := by
  unfold nameB filtB at h
  rw [Bool.or_eq_true, Bool.and_eq_true, Bool.and_eq_true] at h
  exact may_good (h.elim (·.1) (·.1))

set_option maxRecDepth 100000 in
set_option maxHeartbeats 1000000 in
theorem walk (a0 : ByteArray) (w0 : a0.size ≤ maxLen) (w : World) (hT : T10 w) :
    Calls Tryd.prog 5 #[.string a0] w fun e w' => e = .returned (.bool true) ∧ Below w.heap.size w w' := by
  have HT := Lib.hid hT
  clear hT
  go_enter Tryd.func5, Tryd.ntmps5
  go_wp2_with fail
  refine (cut_calls _ a0 200 w0).mono ?_
  rintro e v3 ⟨rfl, rfl⟩
  have hs4 : (a0.extract 0 200).size ≤ 200 := by simp; omega
  generalize a0.extract 0 200 = s at *
  clear w0
  obtain ⟨ls, rfl⟩ : ∃ l, s = str l := ⟨_, ba_str s⟩
  rw [str_size] at hs4
  have hl := Lib.hid hs4
  clear hs4
  go_wp2_with fail
  refine (live_calls _ HT.out).mono ?_
  rintro e v2 ⟨rfl, hb⟩
  have hsz := hb.size
  have g0 := hb.alloc hb.size (.cells #[.slice none 0 0] 35)
  have HB0 : Hid (v2.heap.size ≤ (v2.alloc (.cells #[.slice none 0 0] 35)).heap.size) := by unfold Hid; simp
  clear hb
  go_wp2_with fail
  refine (data_calls _ v2.heap.size none [] (str ls) (OutAt.new v2) (by rw [str_size]; have := hl.out; omega) (by simp)).mono ?_
  rintro e x5 ⟨rfl, r6, h6, t6⟩
  have g6 := g0.trans (t6.below HB0.out (Nat.le_refl _) (fun g hg => by cases hg) |>.mono hsz)
  have hz6 := Nat.le_trans HB0.out t6.size
  clear t6 g0 HB0
  go_wp2_with fail
  refine (text_calls _ _ r6 _ h6).mono ?_
  rintro e x7 ⟨rfl, rfl⟩
  clear h6
  rw [List.nil_append, str_data, str_size]
  obtain ⟨Z, hZ⟩ : ∃ Z, str (two ls.length ++ ls) = Z := ⟨_, rfl⟩
  rw [hZ]
  have HZ := Lib.hid hZ
  clear hZ
  go_wp2_with fail
  refine (over_calls _ _).mono ?_
  rintro e x8 ⟨rfl, rfl⟩
  have i8 := InAt.new x5 Z
  have g8 := g6.alloc (Nat.le_trans hsz hz6) (.cells #[.string Z, .int .i64 0] 109)
  have hp : w.heap.size ≤ x5.heap.size := Nat.le_trans hsz hz6
  clear g6 hz6 hsz
  generalize x5.alloc (.cells #[.string Z, .int .i64 0] 109) = y0 at *
  generalize x5.heap.size = p at *
  rw [← HZ.out] at i8
  have c1 := fun v h => name_calls v ls (by have := hl.out; omega) h
  have c2 := fun v h => filter_calls v ls (by have := hl.out; omega) h
  have em : (str ls).toList = ls := str_list ls
  go_wp2_with fail
  refine (takeW_calls _ p _ 0 _ _ 0 (rawT_app (two ls.length) _ 2 (by simp [two_len])) (str ls) (str []) 0 (by rw [str_data, numL_two _ (by have := hl.out; omega)]; have h0 := rawT_app ls [] ((ls.length : Int) % 65536) (by have := hl.out; omega); rw [List.append_nil] at h0; exact h0) i8 (HT.out.below g8).tabs).mono ?_
  cases hnf : (nameB ls || filtB ls) with
  | true =>
    rw [nf_good hnf]
    simp only [if_true]
    rintro e y1 ⟨rfl, i1, t1⟩
    have g1 := g8.trans (t1.below g8.size hp)
    clear t1 g8 i8
    cases hn : nameB ls with
    | true =>
      rw [hn] at c1
      clear hnf
      go_wp2_with fail
      refine (c1 _ (HT.out.below g1)).mono ?_
      rintro e y2 ⟨rfl, b⟩
      have i2 := i1.below b
      have g2 := g1.trans (b.mono g1.size)
      clear b g1 i1
      go_wp2_with fail
      refine (end_calls _ p _ 0 i2).mono ?_
      rintro e y3 ⟨rfl, rfl⟩
      clear i2
      rw [show endT (str []) 0 = 0 from rfl]
      go_wp2
      go_ret
      exact ⟨rfl, g2⟩
    | false =>
      rw [hn, Bool.false_or] at hnf
      rw [hn] at c1
      rw [hnf] at c2
      go_wp2_with fail
      refine (c1 _ (HT.out.below g1)).mono ?_
      rintro e y2 ⟨rfl, b⟩
      have i2 := i1.below b
      have g2 := g1.trans (b.mono g1.size)
      clear b g1 i1
      go_wp2_with fail
      refine (c2 _ (HT.out.below g2)).mono ?_
      rintro e y3 ⟨rfl, b⟩
      have i3 := i2.below b
      have g3 := g2.trans (b.mono g2.size)
      clear b g2 i2
      go_wp2_with fail
      refine (end_calls _ p _ 0 i3).mono ?_
      rintro e y4 ⟨rfl, rfl⟩
      clear i3
      rw [show endT (str []) 0 = 0 from rfl]
      go_wp2
      go_ret
      exact ⟨rfl, g3⟩
  | false =>
    rw [Bool.or_eq_false_iff] at hnf
    rw [hnf.1] at c1
    rw [hnf.2] at c2
    clear hnf
    generalize (if goodB (str ls) = true then str ls else ⟨#[]⟩) = got
    generalize (if goodB (str ls) = true then (0 : Int) else failed 0 2) = er
    rintro e y1 ⟨rfl, i1, t1⟩
    have g1 := g8.trans (t1.below g8.size hp)
    clear t1 g8 i8 i1
    go_wp2_with fail
    refine (c1 _ (HT.out.below g1)).mono ?_
    rintro e y2 ⟨rfl, b⟩
    have g2 := g1.trans (b.mono g1.size)
    clear b g1
    go_wp2_with fail
    refine (c2 _ (HT.out.below g2)).mono ?_
    rintro e y3 ⟨rfl, b⟩
    have g3 := g2.trans (b.mono g2.size)
    clear b g2
    go_wp2_with fail
    refine (c1 _ (HT.out.below g3)).mono ?_
    rintro e y4 ⟨rfl, b⟩
    have g4 := g3.trans (b.mono g3.size)
    clear b g3
    go_wp2
    go_ret
    exact ⟨rfl, g4⟩

set_option maxRecDepth 100000 in
set_option maxHeartbeats 2000000 in
theorem lifted (os : Os) (started : os.Started) (H : Type) (enc : TypeId × Value → H) (F : Stop.Interp) :
    ReturnsInHanded {} Tryd.checked os 5 .any ((OpenSpec.ofChange Rows.switchboardWordsSpec).preRow enc Tryd.prog Tryd.f5 Rows.switchboardWordsRow.domain false Rows.switchboardWordsRow.laid) (((OpenSpec.ofChange Rows.switchboardWordsSpec).at F).post enc Tryd.prog Tryd.f5 false true false false) := by
  obtain ⟨places, hx⟩ := reads os enc
  refine returnsInHanded_of_row (C := Tryd.checked) (s := OpenSpec.ofChange Rows.switchboardWordsSpec) own started (by kernel_rfl) Tryd.func5
    (witness_row_at (enc := enc) (C := Tryd.checked) false (laidWorld os) #[.string ByteArray.empty] rfl (by kernel_rfl) (by kernel_rfl) (by kernel_rfl)
      (OpenSpec.preRow_of_cond 8 hx (by kernel_rfl) (fun k hk => by cases hk) (by kernel_rfl) (laid_met os))) ?_
  intro W base args ds gs before hval0 hW _ _ _ hL hShp _
  have hval : ∀ (j : Nat) t v, Tryd.f5.params[j]? = some t → args[j]? = some v → Value.okWide Tryd.prog W .any base t v := hval0
  have hW' := hW
  obtain ⟨p, q, hA0, hV, rfl, hfz, hnd⟩ := hW
  have hA : DataW.TrodAll enc Tryd.prog W 0 (fun _ => true) true Tryd.f5.params.toList args.toList ds p := hA0
  rw [Tryd.params5] at hA hval
  obtain ⟨v0, vs0, d0, ds0, p0, q0, hargs, rfl, rfl, h0, r0⟩ := trodAll_cons hA
  obtain ⟨rfl, rfl, rfl⟩ := trodAll_nil r0
  obtain rfl : args = #[v0] := by cases args; simp_all
  obtain ⟨rfl, rfl⟩ := trodVars_none hV
  obtain ⟨a0, rfl, rfl, rfl, w0⟩ := open_string Tryd.underlying9 (hval 0 9 v0 rfl rfl) h0
  clear hA0 hval0
  have hT : Tabs W := utf8Tabs_of_readsT (U8Types.of196 Tryd.lays196) ⟨by kernel_rfl, by kernel_rfl, by kernel_rfl, by kernel_rfl, by kernel_rfl, by kernel_rfl, by kernel_rfl⟩ (first_eq ▸ Lib.laidMet.reads hL (.tail _ (.head _))) (accept_eq ▸ Lib.laidMet.reads hL (.head _))
  have hT10 : T10 W := ⟨hT, Tryd.laysM146.s1_3 W hShp⟩
  refine (walk a0 w0 W  hT10).mono fun e W' ⟨he, bel⟩ => ?_
  subst he
  exact ⟨_, rfl, _, _, _, [], _, [], hW', trodAll_mk1 (shut_bool Tryd.underlying4 _), (trodAll_cons_mk (shut_string Tryd.underlying9 w0) trodAll_mk0), rfl, bel.frame _, fun h => by cases h⟩

theorem said : Rows.SwitchboardWordsSaid :=
  OpenClaim.holds_of_cond 5 Tryd.f5 rfl rfl rfl rfl rfl rfl rfl ⟨rfl, rfl, rfl, rfl, rfl⟩ rfl rfl rfl rfl rfl (by kernel_rfl) Tryd.func5 closed
    (of_decide_eq_true (by kernel_rfl)) (by unfold Func.isWrapper; first | (rw [if_pos (by decide +kernel)]; kernel_rfl) | (rw [if_neg (by decide +kernel)]; exact ⟨rfl, rfl⟩))
    (fun os started H enc _ F => by rw [OpenClaim.pre_eq_preRow]; exact lifted os started H enc F)

theorem plain (f : FuncId) (fn : Func) (hf : Tryd.pinned.checked.prog.funcNamed Tryd.f5.name = some f) (hfn : Tryd.pinned.checked.prog.funcs[f]? = some fn) :
    false = Tryd.pinned.checked.prog.looks [] ∧ ∀ (j : Nat) t, fn.params[j]? = some t → Tryd.pinned.checked.prog.wantsStandIn t = false := by
  obtain rfl : f = 5 := Option.some.inj ((show Tryd.prog.funcNamed Tryd.f5.name = some 5 by kernel_rfl).symm.trans hf) |>.symm
  obtain rfl : fn = Tryd.f5 := (Option.some.inj (Tryd.func5.symm.trans hfn)).symm
  refine ⟨fac_looks, fun j t ht => ?_⟩
  rw [Tryd.params5] at ht
  have hm : t = 9 := by simpa using Array.mem_of_getElem? ht
  subst hm
  exact (show Tryd.prog.wantsStandIn 9 = false by kernel_rfl)

end Go.Proofs.YtbdpccfkgekdaaaDoor.switchboardWords
namespace Go.Proofs.YtbdpccfkgekdaaaDoor
/-- The statement. -/
theorem switchboardWords_holds : Rows.SwitchboardWordsCardSaid :=
  Claim7.holds_tied_plain_at .later [] _ _ _ _ switchboardWords.said (fun _ h => by cases h) switchboardWords.wft (fun _ h => by cases h) switchboardWords_row_tie rfl ⟨rfl, rfl⟩ fac_main rfl switchboardWords.plain switchboardWords.goes
#print axioms switchboardWords_holds
end Go.Proofs.YtbdpccfkgekdaaaDoor
