/-
  A key that is set again is due at its last tick alone.
  Its conditions: none beside those of the row itself.
-/
import Derived.Test.YtbjhdfincoadaaaJTimersB
import Derived.ProofKit
import Derived.OpenShut
import Derived.ShutString
import Derived.ChangeOld
namespace Go.Proofs.Ytbjhdfincoadaaa.timerMoves
open Go.ChangeShapes Go.WideShapes Go.ChangeAt Go.RowKit
open Go.ChangeMaps (open_string shut_string)
set_option linter.unusedVariables false

theorem own : ownKnob Try.prog.godebug = none := by kernel_rfl
theorem laidOut : laidOutB Try.prog = true := by kernel_rfl

/-- While keys are set twice. -/
structure MvJ (w : World) (p b sb k : Nat) (t : Int) (E : List En) (W : World) : Prop where
  tj : TiJ w p b E W
  seen : SeenAt W sb k E
  n1 : sb ≠ p
  n2 : sb ≠ b
  hs : w.heap.size ≤ sb
  all : ∀ x ∈ E, x.2 = t
  len : E.length ≤ k

theorem MvJ.tim1 {w : World} {p b sb k : Nat} {t : Int} {E : List En} {W W' : World} (h : MvJ w p b sb k t E W) (ht : W.mapTurned W' sb) : TiJ w p b E W' := by
  have hm := Moved.turned (p := sb) ht
  have h1 := h.n1
  have h2 := h.n2
  exact ⟨h.tj.tim.keep (hm.block p (m_size h.tj.tim.cells) (Ne.symm h1) (Ne.symm h1)) (hm.block b h.tj.tim.map.lt (Ne.symm h2) (Ne.symm h2)), h.tj.bel.trans (hm.below h.hs h.hs h.tj.bel.size), h.tj.hp, h.tj.hb⟩

theorem filter_all {E : List En} {t s : Int} (h : ∀ x ∈ E, x.2 = t) (hs : t ≤ s) : E.filter (fun x => decide (x.2 ≤ s)) = E := List.filter_eq_self.2 fun x hx => by rw [h x hx]; simpa using hs
theorem filter_no {E : List En} {t s : Int} (h : ∀ x ∈ E, x.2 = t) (hs : ¬ t ≤ s) : E.filter (fun x => decide (x.2 ≤ s)) = [] := List.filter_eq_nil_iff.2 fun x hx => by rw [h x hx]; simpa using hs
theorem filter_nall {E : List En} {t s : Int} (h : ∀ x ∈ E, x.2 = t) (hs : t ≤ s) : E.filter (fun x => !decide (x.2 ≤ s)) = [] := List.filter_eq_nil_iff.2 fun x hx => by rw [h x hx]; simpa using hs
theorem filter_nno {E : List En} {t s : Int} (h : ∀ x ∈ E, x.2 = t) (hs : ¬ t ≤ s) : E.filter (fun x => !decide (x.2 ≤ s)) = E := List.filter_eq_self.2 fun x hx => by rw [h x hx]; simpa using hs

set_option maxRecDepth 100000 in
set_option maxHeartbeats 2000000 in
theorem walk (v0 : Value) (a0 : List ByteArray) (a1 : Int) (w1 : (Lit.int .i64 a1).wf = true) (a2 : Int) (w2 : (Lit.int .i64 a2).wf = true) (w : World) (w0 : StrsIn w v0 a0) :
    Calls Try.prog 11 #[v0, .int .i64 a1, .int .i64 a2] w fun e w' => e = .returned (.bool true) ∧ Below w.heap.size w w' := by
  have hmm := @run_makeMap Try.prog
  by_cases hab : a1 = a2
  · subst hab
    clear w0 w1 w2
    go_enter Try.func11, Try.ntmps11
    go_wp2_with fail
    refine (awake18_calls w).mono ?_
    rintro e v1 ⟨rfl, b1⟩
    go_wp2_with fail
    refine (awake18_calls v1).mono ?_
    rintro e v2 ⟨rfl, b2⟩
    go_wp2
    go_ret
    exact ⟨rfl, b1.trans (b2.mono b1.size)⟩
  obtain ⟨A, cap, rfl, hzm, hc⟩ := w0
  have HC := Lib.hid hc
  have HZ := Lib.hid hzm
  have HW1 := Lib.hid w1
  have HW2 := Lib.hid w2
  have hne : (a1 == a2) = false := by simpa using hab
  clear hc hzm w1 w2
  go_enter Try.func11, Try.ntmps11
  go_wp2_with fail
  refine (awake18_calls w).mono ?_
  rintro e v1 ⟨rfl, b1⟩
  go_wp2_with fail
  refine (tiNew_calls v1).mono ?_
  rintro e v2 ⟨p, b, rfl, hA, hB, hp, hb⟩
  have J0 := Lib.hid (show MvJ w p b v2.heap.size 0 a2 [] (v2.alloc (.map #[] 0)) from by
    have hbel := b1.trans (hB.mono b1.size)
    exact ⟨⟨hA.below ((Below.refl _ _).alloc (Nat.le_refl _) _), hbel.alloc hbel.size _, Nat.le_trans b1.size hp, Nat.le_trans b1.size hb⟩, SeenAt.made v2, Nat.ne_of_gt (m_size hA.cells), Nat.ne_of_gt hA.map.lt, hbel.size, by simp, Nat.le_refl _⟩)
  clear hA hB hp hb b1
  go_wp2_with fail
  generalize v2.heap.size = sb at *
  go_loopw [9, 10] (fun i _ wr => ∃ (k : Nat) (E : List En), i = .int .i64 k ∧ k ≤ a0.length ∧ k ≤ 15 ∧ MvJ w p b sb k a2 E wr) (fun i _ _ => 15 - (RowKit.intOf i).toNat)
  case atStart => exact ⟨0, _, rfl, Nat.zero_le _, by omega, J0.out⟩
  case round =>
    obtain ⟨k, E, rfl, hk1, hk2, hJ⟩ := hrel
    have HJ := Lib.hid hJ
    have hzl := HZ.out
    unfold maxLen at hzl
    clear hJ J0
    by_cases hlt : k < a0.length ∧ k < 15
    · obtain ⟨h1, h2⟩ := hlt
      obtain ⟨bb, o, hAd, hbl, hcell, hsz⟩ := HC.out k _ (List.getElem?_eq_getElem h1)
      subst hAd
      have hcr := (HJ.out.tj.bel.cell (p := ⟨bb, o + k, none⟩) hbl).trans hcell
      have hcut := fun W => cut18_calls W a0[k] 8 hsz
      have hkl : (a0[k].data.toList.take 8).length ≤ maxLen := by rw [List.length_take]; unfold maxLen; omega
      have hkey := key_strT hkl
      have HKL := Lib.hid hkl
      generalize a0[k] = s at *
      generalize s.data.toList.take 8 = kk at *
      obtain ⟨D, hown, hhas, hds⟩ := HJ.out.seen
      have HHS := Lib.hid hhas
      have HDS := Lib.hid hds
      clear hcell hsz hkl hhas hds
      go_wp2_with (first
        | (go_at_call 29; refine (hcut _).mono ?_; rintro e x1 ⟨rfl, rfl⟩)
        | (at_lookup; refine wpList_lookup_own_int _ rfl _ _ 94 rfl 9 3 .i64 law_strT Try.underlying94 Try.underlying3 (zero_intT _) sb k D rfl hown _ _ rfl hkey ?_; intro c hat hwc)
        | (at_mapUpdate; refine wpList_mapUpdate_in _ rfl _ _ _ 94 rfl 9 3 law_strT Try.underlying94 _ sb k D rfl hown (by unfold maxLen; omega) _ _ _ rfl rfl hkey _ [] (plainElem_int Try.underlying3 (wrap64_wf _)) ?_; intro x2 hown2 hturn2;
            (have T2 := Lib.hid (HJ.out.tim1 hturn2)); (have S2 := Lib.hid (seen_put (length_twice HJ.out.tj.tim.ord kk a1 a2) (fun j => hasE_twice E kk a1 a2 j) hown HHS.out HDS.out hown2)); clear hown2 hturn2 hown)
        | (go_at_call 30; refine (tiSet_calls _ p b _ kk a1 HKL.out HW1.out (by have := HJ.out.len; unfold maxLen; omega) T2.out.tim).mono ?_; rintro e x3 ⟨rfl, h3, m3⟩; (have T3 := Lib.hid (T2.out.moved h3 m3)); (have S3 := Lib.hid (S2.out.keep (m3.block sb S2.out.lt HJ.out.n1 HJ.out.n2))); clear h3 m3 T2 S2)
        | (go_at_call 30; refine (tiSet_calls _ p b _ kk a2 HKL.out HW2.out (by have := HJ.out.len; rw [length_setE kk a1 HJ.out.tj.tim.ord]; unfold maxLen; split <;> omega) T3.out.tim).mono ?_; rintro e x4 ⟨rfl, h4, m4⟩; (have T4 := Lib.hid (T3.out.moved h4 m4)); (have S4 := Lib.hid (S3.out.keep (m4.block sb S3.out.lt HJ.out.n1 HJ.out.n2))); clear h4 m4 T3 S3))
      go_roundw
      case rel =>
        refine ⟨k + 1, _, by go_num, by omega, by omega, T4.out, S4.out, HJ.out.n1, HJ.out.n2, HJ.out.hs, all_twice HJ.out.all kk a1, ?_⟩
        have := HJ.out.len
        rw [length_twice HJ.out.tj.tim.ord]
        split <;> omega
      case measure => simp [RowKit.intOf]; omega
    · by_cases h1 : k < a0.length
      · have hn0 : True := trivial
        obtain ⟨D, hown, hhas, hds⟩ := HJ.out.seen
        clear hn0
        obtain rfl : k = 15 := by omega
        clear hhas
        by_cases hb : a2 < a1
        · have hmin : min a1 a2 = a2 := by omega
          have hmax : max a1 a2 = a1 := by omega
          go_wp2_with (first
            | (go_at_call 41; refine (tiLen_calls _ p b E HJ.out.tj.tim).mono ?_; rintro e x1 ⟨rfl, rfl⟩)
            | (at_len; refine wpList_len_own _ rfl _ 94 rfl 9 3 Try.underlying94 _ sb 15 D rfl hown ?_)
            | fail)
          refine (tiDue_calls wr p b E a2 (by have := HJ.out.len; omega) HJ.out.tj.tim).mono ?_
          rintro e x2 ⟨⟨v1, g1, rfl, hE1, _⟩, h1, m1⟩
          rw [filter_all HJ.out.all (Int.le_refl _)] at hE1
          rw [filter_nall HJ.out.all (Int.le_refl _)] at h1
          obtain ⟨A1, c1, rfl, _⟩ := hE1
          have T1 := Lib.hid (HJ.out.tj.moved h1 m1)
          have S1 := Lib.hid (HJ.out.seen.keep (m1.block sb HJ.out.seen.lt HJ.out.n1 HJ.out.n2))
          clear h1 m1 hown
          go_wp2_with fail
          refine (tiDue_calls x2 p b [] a1 (by have := HJ.out.len; simp; try omega) T1.out.tim).mono ?_
          rintro e x3 ⟨⟨v2, g2, rfl, hE2, _⟩, h2, m2⟩
          rw [List.filter_nil] at hE2
          obtain ⟨A2, c2, rfl, _⟩ := hE2
          have T2 := Lib.hid (T1.out.moved h2 m2)
          have S2 := S1.out.keep (m2.block sb S1.out.lt HJ.out.n1 HJ.out.n2)
          obtain ⟨D2, hown2, _, hds2⟩ := S2
          clear h2 m2 S1 T1
          go_wp2_with (first | (at_len; refine wpList_len_own _ rfl _ 94 rfl 9 3 Try.underlying94 _ sb 15 D2 rfl hown2 ?_) | go_in)
          go_ret
          exact ⟨rfl, T2.out.bel⟩
        · have hmin : min a1 a2 = a1 := by omega
          have hmax : max a1 a2 = a2 := by omega
          go_wp2_with (first
            | (go_at_call 41; refine (tiLen_calls _ p b E HJ.out.tj.tim).mono ?_; rintro e x1 ⟨rfl, rfl⟩)
            | (at_len; refine wpList_len_own _ rfl _ 94 rfl 9 3 Try.underlying94 _ sb 15 D rfl hown ?_)
            | fail)
          refine (tiDue_calls wr p b E a1 (by have := HJ.out.len; omega) HJ.out.tj.tim).mono ?_
          rintro e x2 ⟨⟨v1, g1, rfl, hE1, _⟩, h1, m1⟩
          rw [filter_no HJ.out.all (by omega)] at hE1
          rw [filter_nno HJ.out.all (by omega)] at h1
          obtain ⟨A1, c1, rfl, _⟩ := hE1
          have T1 := Lib.hid (HJ.out.tj.moved h1 m1)
          have S1 := Lib.hid (HJ.out.seen.keep (m1.block sb HJ.out.seen.lt HJ.out.n1 HJ.out.n2))
          clear h1 m1 hown
          go_wp2_with fail
          refine (tiDue_calls x2 p b E a2 (by have := HJ.out.len; simp; try omega) T1.out.tim).mono ?_
          rintro e x3 ⟨⟨v2, g2, rfl, hE2, _⟩, h2, m2⟩
          rw [filter_all HJ.out.all (Int.le_refl _)] at hE2
          obtain ⟨A2, c2, rfl, _⟩ := hE2
          have T2 := Lib.hid (T1.out.moved h2 m2)
          have S2 := S1.out.keep (m2.block sb S1.out.lt HJ.out.n1 HJ.out.n2)
          obtain ⟨D2, hown2, _, hds2⟩ := S2
          clear h2 m2 S1 T1
          have hlr := fun ty => hown2.len Try.underlying94 ty
          rw [hds2] at hlr
          go_wp2
          go_ret
          exact ⟨rfl, T2.out.bel⟩
      · have hn0 : True := trivial
        obtain ⟨D, hown, hhas, hds⟩ := HJ.out.seen
        clear hn0
        obtain rfl : k = a0.length := by omega
        clear hhas
        by_cases hb : a2 < a1
        · have hmin : min a1 a2 = a2 := by omega
          have hmax : max a1 a2 = a1 := by omega
          go_wp2_with (first
            | (go_at_call 41; refine (tiLen_calls _ p b E HJ.out.tj.tim).mono ?_; rintro e x1 ⟨rfl, rfl⟩)
            | (at_len; refine wpList_len_own _ rfl _ 94 rfl 9 3 Try.underlying94 _ sb a0.length D rfl hown ?_)
            | fail)
          refine (tiDue_calls wr p b E a2 (by have := HJ.out.len; omega) HJ.out.tj.tim).mono ?_
          rintro e x2 ⟨⟨v1, g1, rfl, hE1, _⟩, h1, m1⟩
          rw [filter_all HJ.out.all (Int.le_refl _)] at hE1
          rw [filter_nall HJ.out.all (Int.le_refl _)] at h1
          obtain ⟨A1, c1, rfl, _⟩ := hE1
          have T1 := Lib.hid (HJ.out.tj.moved h1 m1)
          have S1 := Lib.hid (HJ.out.seen.keep (m1.block sb HJ.out.seen.lt HJ.out.n1 HJ.out.n2))
          clear h1 m1 hown
          go_wp2_with fail
          refine (tiDue_calls x2 p b [] a1 (by have := HJ.out.len; simp; try omega) T1.out.tim).mono ?_
          rintro e x3 ⟨⟨v2, g2, rfl, hE2, _⟩, h2, m2⟩
          rw [List.filter_nil] at hE2
          obtain ⟨A2, c2, rfl, _⟩ := hE2
          have T2 := Lib.hid (T1.out.moved h2 m2)
          have S2 := S1.out.keep (m2.block sb S1.out.lt HJ.out.n1 HJ.out.n2)
          obtain ⟨D2, hown2, _, hds2⟩ := S2
          clear h2 m2 S1 T1
          go_wp2_with (first | (at_len; refine wpList_len_own _ rfl _ 94 rfl 9 3 Try.underlying94 _ sb a0.length D2 rfl hown2 ?_) | go_in)
          go_ret
          exact ⟨rfl, T2.out.bel⟩
        · have hmin : min a1 a2 = a1 := by omega
          have hmax : max a1 a2 = a2 := by omega
          go_wp2_with (first
            | (go_at_call 41; refine (tiLen_calls _ p b E HJ.out.tj.tim).mono ?_; rintro e x1 ⟨rfl, rfl⟩)
            | (at_len; refine wpList_len_own _ rfl _ 94 rfl 9 3 Try.underlying94 _ sb a0.length D rfl hown ?_)
            | fail)
          refine (tiDue_calls wr p b E a1 (by have := HJ.out.len; omega) HJ.out.tj.tim).mono ?_
          rintro e x2 ⟨⟨v1, g1, rfl, hE1, _⟩, h1, m1⟩
          rw [filter_no HJ.out.all (by omega)] at hE1
          rw [filter_nno HJ.out.all (by omega)] at h1
          obtain ⟨A1, c1, rfl, _⟩ := hE1
          have T1 := Lib.hid (HJ.out.tj.moved h1 m1)
          have S1 := Lib.hid (HJ.out.seen.keep (m1.block sb HJ.out.seen.lt HJ.out.n1 HJ.out.n2))
          clear h1 m1 hown
          go_wp2_with fail
          refine (tiDue_calls x2 p b E a2 (by have := HJ.out.len; simp; try omega) T1.out.tim).mono ?_
          rintro e x3 ⟨⟨v2, g2, rfl, hE2, _⟩, h2, m2⟩
          rw [filter_all HJ.out.all (Int.le_refl _)] at hE2
          obtain ⟨A2, c2, rfl, _⟩ := hE2
          have T2 := Lib.hid (T1.out.moved h2 m2)
          have S2 := S1.out.keep (m2.block sb S1.out.lt HJ.out.n1 HJ.out.n2)
          obtain ⟨D2, hown2, _, hds2⟩ := S2
          clear h2 m2 S1 T1
          have hlr := fun ty => hown2.len Try.underlying94 ty
          rw [hds2] at hlr
          go_wp2
          go_ret
          exact ⟨rfl, T2.out.bel⟩

set_option maxRecDepth 100000 in
theorem lifted (os : Os) (started : os.Started) (H : Type) (enc : TypeId × Value → H) :
    ReturnsInHanded {} Try.checked os 11 .any (Rows.timerMovesSpec.pre6 enc Try.prog Try.f11 Rows.timerMovesRow.domain false) (Rows.timerMovesSpec.post enc Try.prog Try.f11 false true false false) := by
  refine returnsInHanded_of_change (C := Try.checked) own started (by kernel_rfl) Try.func11
    (ChangeSpec.witness6 (enc := enc) (C := Try.checked) false ⟨#[], #[.slice none 0 0, .int .i64 0, .int .i64 0], []⟩ 8 (by kernel_rfl) (by kernel_rfl) (by kernel_rfl) (by kernel_rfl)) ?_
  intro W base args ds gs before hval0 hW hcnd _
  have hval : ∀ (j : Nat) t v, Try.f11.params[j]? = some t → args[j]? = some v → Value.okWide Try.prog W .any base t v := hval0
  have hW' := hW
  obtain ⟨p, q, hA0, hV, rfl, hfz, hnd⟩ := hW
  have hA : DataW.TrodAll enc Try.prog W 0 (fun _ => true) true Try.f11.params.toList args.toList ds p := hA0
  rw [Try.params11] at hA hval
  obtain ⟨v0, vs0, d0, ds0, p0, q0, hargs, rfl, rfl, h0, r0⟩ := trodAll_cons hA
  obtain ⟨v1, vs1, d1, ds1, p1, q1, rfl, rfl, rfl, h1, r1⟩ := trodAll_cons r0
  obtain ⟨v2, vs2, d2, ds2, p2, q2, rfl, rfl, rfl, h2, r2⟩ := trodAll_cons r1
  obtain ⟨rfl, rfl, rfl⟩ := trodAll_nil r2
  obtain rfl : args = #[v0, v1, v2] := by cases args; simp_all
  obtain ⟨rfl, rfl⟩ := trodVars_none hV
  have k0 := h0
  have lt0 : ∀ x ∈ p0, x.block < W.heap.size := by obtain ⟨m, hm⟩ := k0; exact DataW.trod_lt m _ _ _ hm
  obtain ⟨a0, w0⟩ := open_strsIn (hval 0 100 v0 rfl rfl) h0
  obtain ⟨a1, rfl, rfl, rfl, w1⟩ := open_int Try.underlying3 (hval 1 3 v1 rfl rfl) h1
  obtain ⟨a2, rfl, rfl, rfl, w2⟩ := open_int Try.underlying3 (hval 2 3 v2 rfl rfl) h2
  clear hA0 hval0
  refine (walk v0 a0 a1 w1 a2 w2 W w0).mono fun e W' ⟨he, bel⟩ => ?_
  subst he
  exact ⟨_, rfl, _, _, _, [], _, [], hW', trodAll_mk1 (shut_bool Try.underlying4 _), (trodAll_cons_mk (Below.trod laidOut (by kernel_rfl) (of_decide_eq_true (by kernel_rfl)) k0 bel lt0) (trodAll_cons_mk (shut_int Try.underlying3 w1) (trodAll_cons_mk (shut_int Try.underlying3 w2) trodAll_mk0))), rfl, bel.frame _, fun h => by cases h⟩

theorem over : Rows.timerMovesRow.holds Try.pinned (OpenSpec.ofChange Rows.timerMovesSpec) :=
  OpenClaim.holds_of_wide 11 Try.f11 rfl rfl rfl rfl rfl rfl rfl ⟨rfl, rfl, rfl, rfl, rfl⟩ rfl rfl rfl rfl rfl (by kernel_rfl) Try.func11 (by kernel_rfl)
    (of_decide_eq_true (by kernel_rfl)) (by unfold Func.isWrapper; first | (rw [if_pos (by decide +kernel)]; kernel_rfl) | (rw [if_neg (by decide +kernel)]; exact ⟨rfl, rfl⟩))
    (fun os started H enc _ => lifted os started H enc)

end Go.Proofs.Ytbjhdfincoadaaa.timerMoves
namespace Go.Proofs.Ytbjhdfincoadaaa
/-- The statement. -/
theorem timerMoves_holds : Rows.TimerMovesSaid := timerMoves.over
#print axioms timerMoves_holds
end Go.Proofs.Ytbjhdfincoadaaa
