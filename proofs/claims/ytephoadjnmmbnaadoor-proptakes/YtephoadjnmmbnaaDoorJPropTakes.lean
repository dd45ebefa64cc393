/-
  Any bytes of at most 120, taken as the properties of any packet or of a will, are the properties that the document has, or its error.
  Its conditions: none beside those of the row itself (the two tables of unicode/utf8 start as the library's text lays them: the card ties them).
-/
import Derived.Test.YtephoadjnmmbnaaDoorCards
import Derived.Test.YtephoadjnmmbnaaDoorTie
import Derived.Test.YtephoadjnmmbnaaDoorJPropTakesw
import Derived.Test.YtephoadjnmmbnaaDoorJPropTakesf
import Derived.Test.YtephoadjnmmbnaaDoorJProp29
import Derived.Test.YtephoadjnmmbnaaDoorJPropsB
import Derived.Test.YtephoadjnmmbnaaDoorJPropsA
import Derived.ProofKit
import Derived.Deep.RegionHeld3
import Derived.OpenShut
import Derived.ShutString
import Derived.ChangeOld
import Derived.Deep.DeepHandedRow
import Derived.Deep.DeepWitnessRowRef
import Derived.Lib.LaidU8T
import Derived.Lib.LaidTab
import Derived.Lib.LaidIn
namespace Go.Proofs.YtephoadjnmmbnaaDoor.propTakes
open Go.ChangeShapes Go.WideShapes Go.ChangeAt Go.RowKit Go.Lib
open Go.ChangeMaps (open_string shut_string)
set_option linter.unusedVariables false

theorem runP_len (q : Int) : ∀ (f : Nat) (acc : List Pr) (s : ByteArray), (runP q f acc s).1.length ≤ acc.length + f
  | 0, acc, s => by simp [runP]
  | f + 1, acc, s => by
    unfold runP
    split
    · simp
    · cases stepP q acc s with
      | inl e => simp
      | inr y =>
        have := runP_len q f (acc ++ [y.1]) y.2
        simp at this ⊢
        omega
theorem rawT_le (s : ByteArray) (x n : Int) : (rawT s x n).1.size ≤ s.size := by
  unfold rawT
  split
  · exact Nat.zero_le _
  · split
    · exact Nat.zero_le _
    · split
      · exact Nat.zero_le _
      · simp [ByteArray.size_extract]; omega
theorem takeR_len (q : Int) (s : ByteArray) : (takeR q s 0).1.length ≤ s.size := by
  have h1 := (var_left 3 0 0 s 0).1
  unfold takeR
  split
  · simp
  · have h2 := runP_len q (rawT (varT 3 0 0 s 0).2.1 (varT 3 0 0 s 0).2.2 (varT 3 0 0 s 0).1).1.size [] (rawT (varT 3 0 0 s 0).2.1 (varT 3 0 0 s 0).2.2 (varT 3 0 0 s 0).1).1
    have h3 := rawT_le (varT 3 0 0 s 0).2.1 (varT 3 0 0 s 0).2.2 (varT 3 0 0 s 0).1
    simp at h2 ⊢
    omega

theorem stepP_errs (q : Int) (acc : List Pr) (s : ByteArray) (e : Int) (h : stepP q acc s = .inl e) : e = 2 ∨ e = 3 := by
  unfold stepP at h
  repeat' split at h
  all_goals first | (injection h with h; omega) | cases h
theorem runP_errs (q : Int) : ∀ (f : Nat) (acc : List Pr) (s : ByteArray), (runP q f acc s).2 = 0 ∨ (runP q f acc s).2 = 2 ∨ (runP q f acc s).2 = 3
  | 0, acc, s => .inl rfl
  | f + 1, acc, s => by
    unfold runP
    split
    · exact .inl rfl
    · cases h : stepP q acc s with
      | inl e => exact .inr (stepP_errs q acc s e h)
      | inr y => exact runP_errs q f (acc ++ [y.1]) y.2
theorem takeR_errs (q : Int) (s : ByteArray) : (takeR q s 0).2.2 = 0 ∨ (takeR q s 0).2.2 = 1 ∨ (takeR q s 0).2.2 = 2 ∨ (takeR q s 0).2.2 = 3 := by
  have h1 := fun z => raw_errs z _ (varT 3 0 0 s 0).1 (var_errs s 0 (.inl rfl) 3 0 0)
  unfold takeR
  split
  · rcases h1 (varT 3 0 0 s 0).2.1 with h | h | h
    · exact .inl h
    · exact .inr (.inl h)
    · exact .inr (.inr (.inl h))
  · rcases runP_errs q (rawT (varT 3 0 0 s 0).2.1 (varT 3 0 0 s 0).2.2 (varT 3 0 0 s 0).1).1.size [] (rawT (varT 3 0 0 s 0).2.1 (varT 3 0 0 s 0).2.2 (varT 3 0 0 s 0).1).1 with h | h | h
    · exact .inl h
    · exact .inr (.inr (.inl h))
    · exact .inr (.inr (.inr h))

/-- What lies where ahead of the last statement. -/
structure TaksJ (w : World) (p cb : Nat) (s2 : ByteArray) (x2 : Int) (v u : Value) (P : List Pr) (V : World) : Prop where
  inn : InAt V p s2 x2
  pv : PropsAt V v P
  pu : PropsAt V u P
  cu : V.heap[cb]? = some (.cells #[.string s2, .int .i64 x2] 39 (0, 0))
  bel : Below w.heap.size w V
theorem TaksJ.below {w : World} {p cb : Nat} {s2 : ByteArray} {x2 : Int} {v u : Value} {P : List Pr} {V V' : World} (h : TaksJ w p cb s2 x2 v u P V) (hb : Below V.heap.size V V') : TaksJ w p cb s2 x2 v u P V' :=
  ⟨h.inn.below hb, h.pv.below hb, h.pu.below hb, (hb.block _ (lt_of_block h.cu)).trans h.cu, Below.next h.bel hb⟩
theorem TaksJ.drew {w : World} {p cb : Nat} {s2 : ByteArray} {x2 : Int} {v u : Value} {P : List Pr} {V : World} (h : TaksJ w p cb s2 x2 v u P V) : TaksJ w p cb s2 x2 v u P V.drew := h.below (Below.refl _ V).drew

set_option maxRecDepth 100000 in
set_option maxHeartbeats 4000000 in
theorem walk (a0 : ByteArray) (w0 : a0.size ≤ maxLen) (a1 : Int) (w1 : (Lit.int .i64 a1).wf = true) (a2 : Bool) (w : World) (hT : Tabs w) :
    Calls Tryd.prog 5 #[.string a0, .int .i64 a1, .bool a2] w fun e w' => e = .returned (.bool true) ∧ Below w.heap.size w w' := by
  clear w1
  have HT := Lib.hid hT
  have hz : (a0.extract 0 120).size ≤ 120 := by simp [ByteArray.size_extract]; omega
  clear hT
  go_enter Tryd.func5, Tryd.ntmps5
  go_wp2_with fail
  refine (cut_calls _ a0 120 w0).mono ?_
  rintro e y0 ⟨rfl, rfl⟩
  generalize a0.extract 0 120 = S at *
  have hlen := takeR_len (placeN a1 a2) S
  have hxs := takeR_errs (placeN a1 a2) S
  have HTK := Lib.hid (fun W p h hT => take3_calls W p S 0 a1 a2 h hT)
  have HRT := Lib.hid (fun W => r3TakeAll_calls W S 0 a1 a2)
  generalize takeR (placeN a1 a2) S 0 = R at *
  obtain ⟨P, s2, x2⟩ := R
  dsimp only at hlen hxs
  have hP : P.length ≤ 120 := by omega
  clear w0 hlen
  go_wp2_with fail
  refine (awake3_calls _ HT.out).mono ?_
  rintro e y1 ⟨rfl, b1⟩
  go_wp2_with fail
  refine (over_calls _ _).mono ?_
  rintro e y2 ⟨rfl, rfl⟩
  have i6 := InAt.new y1 S
  have HB6 := Lib.hid (Below.next b1 (below_one y1 (.cells #[.string S, .int .i64 0] 155)))
  have ht6 := HT.out.below HB6.out
  have hz6 := b1.size
  clear b1
  generalize y1.alloc (.cells #[.string S, .int .i64 0] 155) = y6 at *
  generalize y1.heap.size = p at *
  go_wp2_with fail
  refine (HTK.out _ p i6 ht6).mono ?_
  rintro e y7 ⟨v, rfl, hownv, hnil, i7, c7⟩
  clear hnil
  dsimp only at hownv i7
  obtain ⟨va, vc, rfl⟩ := hownv.form
  have HB7 := Lib.hid (HB6.out.trans (c7.below HB6.out.size hz6))
  have hpv := hownv.props
  clear hownv c7 i6 ht6 HB6 HTK
  go_wp2_with fail
  refine (HRT.out _).mono ?_
  rintro e y8 ⟨u, rfl, hownu, b8⟩
  dsimp only at hownu
  obtain ⟨ua, uc, rfl⟩ := hownu.form
  have hpu := hownu.props
  have bn := below_one y8 (.cells #[.string s2, .int .i64 x2] 39)
  have J := Lib.hid (show TaksJ w p y8.heap.size s2 x2 (.slice va P.length vc) (.slice ua P.length uc) P (y8.alloc (.cells #[.string s2, .int .i64 x2] 39)) from ⟨(i7.below b8).below bn, (hpv.below b8).below bn, hpu.below bn, heap_alloc_new y8 _, Below.next (Below.next HB7.out b8) bn⟩)
  clear b8 bn hownu hpu hpv i7 HB7 HRT
  go_upto_region 7 with fail
  generalize y8.alloc (.cells #[.string s2, .int .i64 x2] 39) = W9 at *
  generalize y8.heap.size = cb at *
  have HS := Lib.hid J.out.drew
  have KC := Lib.hid (show ∀ V, TaksJ w p cb s2 x2 (.slice va P.length vc) (.slice ua P.length uc) P V → V.cell? ⟨cb, 0, none⟩ = some (.string s2) ∧ V.cell? ⟨cb, 1, none⟩ = some (.int .i64 x2) from fun V h => by
    obtain ⟨a0, a1, -, -⟩ := pair_cells h.cu
    exact ⟨a0, a1⟩)
  have HSAME := Lib.hid (show ∀ V, TaksJ w p cb s2 x2 (.slice va P.length vc) (.slice ua P.length uc) P V → Calls Tryd.prog 31 #[.slice va P.length vc, .slice ua P.length uc] V (fun e w' => e = .returned (.int .i64 0) ∧ Below V.heap.size V w') from fun V h => same_calls V _ _ P h.pv h.pu (by omega))
  have HERR := Lib.hid (show ∀ V, TaksJ w p cb s2 x2 (.slice va P.length vc) (.slice ua P.length uc) P V → Calls Tryd.prog 32 #[.pointer (some ⟨p, 0, none⟩)] V (fun e w' => e = .returned (.int .i64 x2) ∧ V = w') from fun V h => err_calls V p s2 x2 h.inn)
  have HLEFT := Lib.hid (show ∀ V, TaksJ w p cb s2 x2 (.slice va P.length vc) (.slice ua P.length uc) P V → Calls Tryd.prog 33 #[.pointer (some ⟨p, 0, none⟩)] V (fun e w' => e = .returned (.int .i64 s2.size) ∧ V = w') from fun V h => left_calls V p s2 x2 h.inn)
  clear J
  rcases hxs with rfl | rfl | rfl | rfl
  · go_region_held3 (fun V => V.cell? ⟨cb, 0, none⟩ = some (.string s2) ∧ V.cell? ⟨cb, 1, none⟩ = some (.int .i64 0))
      (first | (with_reducible exact KC.out _ HS.out) | fail)
      (first
        | (go_at_call 31; (with_reducible refine (HSAME.out _ HS.out).mono ?_); rintro e V ⟨rfl, b⟩; (with_reducible have HS := Lib.hid (HS.out.below b)); clear b)
        | (go_at_call 32; (with_reducible refine (HERR.out _ HS.out).mono ?_); rintro e V ⟨rfl, rfl⟩)
        | (go_at_call 33; (with_reducible refine (HLEFT.out _ HS.out).mono ?_); rintro e V ⟨rfl, rfl⟩))
    all_goals
      go_wp2
      go_ret
      exact ⟨rfl, HS.out.bel⟩
  · refine wp_region_quiet_cls (fun V => TaksJ w p cb s2 1 (.slice va P.length vc) (.slice ua P.length uc) P V) (by kernel_rfl) (by kernel_rfl) HS.out ?_
    iterate 25
      refine wpQuiet_step (fun K hK => ?_)
      go_simp
      first
        | (refine hK _ ?_; clear hK K)
        | (apply Exists.intro
           refine ⟨fun wx hwx => ?_, hK _ ?_⟩
           · first
               | exact rfl
               | exact (HSAME.out wx hwx).mono (fun e w2 h => And.intro h.1 (hwx.below h.2))
               | exact (HERR.out wx hwx).mono (fun e w2 h => And.intro h.1 (h.2 ▸ hwx))
           clear hK K)
        | (refine Exists.intro (.int .i64 1) ⟨fun wx hwx => ?_, hK _ ?_⟩
           · obtain ⟨k0, k1⟩ := KC.out wx hwx
             go_simp
           clear hK K)
    refine wpQuiet_nil ?_
    intro w2 hb2
    have HB2 := Lib.hid hb2.bel
    clear hb2
    go_wp2
    go_ret
    exact ⟨rfl, HB2.out⟩
  · refine wp_region_quiet_cls (fun V => TaksJ w p cb s2 2 (.slice va P.length vc) (.slice ua P.length uc) P V) (by kernel_rfl) (by kernel_rfl) HS.out ?_
    iterate 25
      refine wpQuiet_step (fun K hK => ?_)
      go_simp
      first
        | (refine hK _ ?_; clear hK K)
        | (apply Exists.intro
           refine ⟨fun wx hwx => ?_, hK _ ?_⟩
           · first
               | exact rfl
               | exact (HSAME.out wx hwx).mono (fun e w2 h => And.intro h.1 (hwx.below h.2))
               | exact (HERR.out wx hwx).mono (fun e w2 h => And.intro h.1 (h.2 ▸ hwx))
           clear hK K)
        | (refine Exists.intro (.int .i64 2) ⟨fun wx hwx => ?_, hK _ ?_⟩
           · obtain ⟨k0, k1⟩ := KC.out wx hwx
             go_simp
           clear hK K)
    refine wpQuiet_nil ?_
    intro w2 hb2
    have HB2 := Lib.hid hb2.bel
    clear hb2
    go_wp2
    go_ret
    exact ⟨rfl, HB2.out⟩
  · refine wp_region_quiet_cls (fun V => TaksJ w p cb s2 3 (.slice va P.length vc) (.slice ua P.length uc) P V) (by kernel_rfl) (by kernel_rfl) HS.out ?_
    iterate 25
      refine wpQuiet_step (fun K hK => ?_)
      go_simp
      first
        | (refine hK _ ?_; clear hK K)
        | (apply Exists.intro
           refine ⟨fun wx hwx => ?_, hK _ ?_⟩
           · first
               | exact rfl
               | exact (HSAME.out wx hwx).mono (fun e w2 h => And.intro h.1 (hwx.below h.2))
               | exact (HERR.out wx hwx).mono (fun e w2 h => And.intro h.1 (h.2 ▸ hwx))
           clear hK K)
        | (refine Exists.intro (.int .i64 3) ⟨fun wx hwx => ?_, hK _ ?_⟩
           · obtain ⟨k0, k1⟩ := KC.out wx hwx
             go_simp
           clear hK K)
    refine wpQuiet_nil ?_
    intro w2 hb2
    have HB2 := Lib.hid hb2.bel
    clear hb2
    go_wp2
    go_ret
    exact ⟨rfl, HB2.out⟩

set_option maxRecDepth 100000 in
set_option maxHeartbeats 2000000 in
theorem lifted (os : Os) (started : os.Started) (H : Type) (enc : TypeId × Value → H) (F : Stop.Interp) :
    ReturnsInHanded {} Tryd.checked os 5 .any ((OpenSpec.ofChange Rows.propTakesSpec).preRow enc Tryd.prog Tryd.f5 Rows.propTakesRow.domain false Rows.propTakesRow.laid) (((OpenSpec.ofChange Rows.propTakesSpec).at F).post enc Tryd.prog Tryd.f5 false true false false) := by
  obtain ⟨places, hx⟩ := reads os enc
  refine returnsInHanded_of_row (C := Tryd.checked) (s := OpenSpec.ofChange Rows.propTakesSpec) own started (by kernel_rfl) Tryd.func5
    (witness_row_at (enc := enc) (C := Tryd.checked) false (laidWorld os) #[.string ByteArray.empty, .int .i64 0, .bool false] rfl (by kernel_rfl) (by kernel_rfl) (by kernel_rfl)
      (OpenSpec.preRow_of_cond 8 hx (by kernel_rfl) (fun k hk => by cases hk) (by kernel_rfl) (laid_met os))) ?_
  intro W base args ds gs before hval0 hW _ _ _ hL hShp _
  have hval : ∀ (j : Nat) t v, Tryd.f5.params[j]? = some t → args[j]? = some v → Value.okWide Tryd.prog W .any base t v := hval0
  have hW' := hW
  obtain ⟨p, q, hA0, hV, rfl, hfz, hnd⟩ := hW
  have hA : DataW.TrodAll enc Tryd.prog W 0 (fun _ => true) true Tryd.f5.params.toList args.toList ds p := hA0
  rw [Tryd.params5] at hA hval
  obtain ⟨v0, vs0, d0, ds0, p0, q0, hargs, rfl, rfl, h0, r0⟩ := trodAll_cons hA
  obtain ⟨v1, vs1, d1, ds1, p1, q1, rfl, rfl, rfl, h1, r1⟩ := trodAll_cons r0
  obtain ⟨v2, vs2, d2, ds2, p2, q2, rfl, rfl, rfl, h2, r2⟩ := trodAll_cons r1
  obtain ⟨rfl, rfl, rfl⟩ := trodAll_nil r2
  obtain rfl : args = #[v0, v1, v2] := by cases args; simp_all
  obtain ⟨rfl, rfl⟩ := trodVars_none hV
  obtain ⟨a0, rfl, rfl, rfl, w0⟩ := open_string Tryd.underlying9 (hval 0 9 v0 rfl rfl) h0
  obtain ⟨a1, rfl, rfl, rfl, w1⟩ := open_int Tryd.underlying3 (hval 1 3 v1 rfl rfl) h1
  obtain ⟨a2, rfl, rfl, rfl⟩ := open_bool Tryd.underlying4 (hval 2 4 v2 rfl rfl) h2
  clear hA0 hval0
  have hT : Tabs W := utf8Tabs_of_readsT (U8Types.of196 Tryd.lays196) ⟨by kernel_rfl, by kernel_rfl, by kernel_rfl, by kernel_rfl, by kernel_rfl, by kernel_rfl, by kernel_rfl⟩ (first_eq ▸ Lib.laidMet.reads hL (.tail _ (.head _))) (accept_eq ▸ Lib.laidMet.reads hL (.head _))
  refine (walk a0 w0 a1 w1 a2 W  hT).mono fun e W' ⟨he, bel⟩ => ?_
  subst he
  exact ⟨_, rfl, _, _, _, [], _, [], hW', trodAll_mk1 (shut_bool Tryd.underlying4 _), (trodAll_cons_mk (shut_string Tryd.underlying9 w0) (trodAll_cons_mk (shut_int Tryd.underlying3 w1) (trodAll_cons_mk (shut_bool Tryd.underlying4 a2) trodAll_mk0))), rfl, bel.frame _, fun h => by cases h⟩

theorem said : Rows.PropTakesSaid :=
  OpenClaim.holds_of_cond 5 Tryd.f5 rfl rfl rfl rfl rfl rfl rfl ⟨rfl, rfl, rfl, rfl, rfl⟩ rfl rfl rfl rfl rfl (by kernel_rfl) Tryd.func5 closed
    (of_decide_eq_true (by kernel_rfl)) (by unfold Func.isWrapper; first | (rw [if_pos (by decide +kernel)]; kernel_rfl) | (rw [if_neg (by decide +kernel)]; exact ⟨rfl, rfl⟩))
    (fun os started H enc _ F => by rw [OpenClaim.pre_eq_preRow]; exact lifted os started H enc F)

theorem plain (f : FuncId) (fn : Func) (hf : Tryd.pinned.checked.prog.funcNamed Tryd.f5.name = some f) (hfn : Tryd.pinned.checked.prog.funcs[f]? = some fn) :
    false = Tryd.pinned.checked.prog.looks [] ∧ ∀ (j : Nat) t, fn.params[j]? = some t → Tryd.pinned.checked.prog.wantsStandIn t = false := by
  obtain rfl : f = 5 := Option.some.inj ((show Tryd.prog.funcNamed Tryd.f5.name = some 5 by kernel_rfl).symm.trans hf) |>.symm
  obtain rfl : fn = Tryd.f5 := (Option.some.inj (Tryd.func5.symm.trans hfn)).symm
  refine ⟨fac_looks, fun j t ht => ?_⟩
  rw [Tryd.params5] at ht
  have hm : t = 9 ∨ t = 3 ∨ t = 4 := by simpa using Array.mem_of_getElem? ht
  rcases hm with rfl | rfl | rfl
  · exact (show Tryd.prog.wantsStandIn 9 = false by kernel_rfl)
  · exact (show Tryd.prog.wantsStandIn 3 = false by kernel_rfl)
  · exact (show Tryd.prog.wantsStandIn 4 = false by kernel_rfl)

end Go.Proofs.YtephoadjnmmbnaaDoor.propTakes
namespace Go.Proofs.YtephoadjnmmbnaaDoor
/-- The statement. -/
theorem propTakes_holds : Rows.PropTakesCardSaid :=
  Claim7.holds_tied_plain_at .later [] _ _ _ _ propTakes.said (fun _ h => by cases h) propTakes.wft (fun _ h => by cases h) propTakes_row_tie rfl ⟨rfl, rfl⟩ fac_main rfl propTakes.plain propTakes.goes
#print axioms propTakes_holds
end Go.Proofs.YtephoadjnmmbnaaDoor
