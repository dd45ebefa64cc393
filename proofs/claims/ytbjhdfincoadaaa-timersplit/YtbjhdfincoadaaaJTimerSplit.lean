/-
  What is due up to two ticks, one behind the other, is what is due up to the second one.
  Its conditions: none beside those of the row itself.
-/
import Derived.Test.YtbjhdfincoadaaaJTimersB
import Derived.ProofKit
import Derived.OpenShut
import Derived.ShutString
import Derived.ChangeOld
namespace Go.Proofs.Ytbjhdfincoadaaa.timerSplit
open Go.ChangeShapes Go.WideShapes Go.ChangeAt Go.RowKit
open Go.ChangeMaps (open_string shut_string)
set_option linter.unusedVariables false

theorem own : ownKnob Try.prog.godebug = none := by kernel_rfl
theorem laidOut : laidOutB Try.prog = true := by kernel_rfl

theorem below_drewN {B : Nat} {a w : World} (h : Below B a w) (n : Nat) : Below B a (w.drewN n) := ⟨h.os, h.tape, h.output, h.size, h.block⟩

set_option maxRecDepth 100000 in
set_option maxHeartbeats 4000000 in
theorem walk (v0 : Value) (a0 : List TAc) (a1 : Int) (w1 : (Lit.int .i64 a1).wf = true) (a2 : Int) (w2 : (Lit.int .i64 a2).wf = true) (w : World) (w0 : TActsIn w v0 a0) :
    Calls Try.prog 12 #[v0, .int .i64 a1, .int .i64 a2] w fun e w' => e = .returned (.bool true) ∧ Below w.heap.size w w' := by
  obtain ⟨i0, hi, hz0, hz1, hz2⟩ := info_parts Try.infoEntry
  clear w1 w2
  by_cases hab : a2 < a1
  · clear w0
    go_enter Try.func12, Try.ntmps12
    go_wp2_with fail
    refine (awake18_calls w).mono ?_
    rintro e v1 ⟨rfl, b1⟩
    go_wp2_with fail
    refine (awake18_calls v1).mono ?_
    rintro e v2 ⟨rfl, b2⟩
    go_wp2
    go_ret
    exact ⟨rfl, b1.trans (b2.mono b1.size)⟩
  have hle : a1 ≤ a2 := by omega
  have HLE := Lib.hid hle
  obtain ⟨A, cap, rfl, hzm, hc⟩ := w0
  have HC := Lib.hid hc
  have HZ := Lib.hid hzm
  clear hc hzm
  go_enter Try.func12, Try.ntmps12
  go_wp2_with fail
  refine (awake18_calls w).mono ?_
  rintro e v1 ⟨rfl, b1⟩
  go_wp2_with fail
  refine (tiNew_calls v1).mono ?_
  rintro e v2 ⟨p, b, rfl, hA, hB, hp, hb⟩
  go_wp2_with fail
  refine (tiNew_calls v2).mono ?_
  rintro e v3 ⟨q, c, rfl, hA2, hB2, hq, hc2⟩
  have J0 := Lib.hid (show TwJ w p b q c [] 0 v3 from by
    have e1 := b1.trans (hB.mono b1.size)
    have s1 : TiJ w p b [] v2 := ⟨hA, e1, Nat.le_trans b1.size hp, Nat.le_trans b1.size hb⟩
    have pl := m_size hA.cells
    have bl := hA.map.lt
    exact ⟨s1.below hB2, ⟨hA2, e1.trans (hB2.mono e1.size), Nat.le_trans e1.size hq, Nat.le_trans e1.size hc2⟩, by omega, by omega, by omega, by omega, Nat.le_refl _⟩)
  clear hA hB hp hb b1 hA2 hB2 hq hc2
  go_wp2_with fail
  go_loopw [9] (fun i wr => ∃ (k : Nat) (E : List En), i = .int .i64 k ∧ k ≤ a0.length ∧ k ≤ 25 ∧ TwJ w p b q c E k wr) (fun i _ => 25 - (RowKit.intOf i).toNat)
  case atStart => exact ⟨0, _, rfl, Nat.zero_le _, by omega, J0.out⟩
  case round =>
    obtain ⟨k, E, rfl, hk1, hk2, hJ⟩ := hrel
    have HJ := Lib.hid hJ
    have hzl := HZ.out
    unfold maxLen at hzl
    clear hJ J0
    by_cases hlt : k < a0.length ∧ k < 25
    · obtain ⟨h1, h2⟩ := hlt
      obtain ⟨bb, o, hAd, hbl, c0, c1, c2, hks, hat, _⟩ := HC.out k _ (List.getElem?_eq_getElem h1)
      subst hAd
      have d1 := (HJ.out.s.bel.cell (p := ⟨bb, o + k * 3 + 1, none⟩) hbl).trans c1
      have d2 := (HJ.out.s.bel.cell (p := ⟨bb, o + k * 3 + 2, none⟩) hbl).trans c2
      have C1 := Lib.hid c1
      have C2 := Lib.hid c2
      have hcut := fun W => cut18_calls W a0[k].key 8 hks
      have hkl : (a0[k].key.data.toList.take 8).length ≤ maxLen := by rw [List.length_take]; unfold maxLen; omega
      have HKL := Lib.hid hkl
      have HAT := Lib.hid hat
      generalize a0[k].at' = t at *
      generalize a0[k].key = s at *
      generalize s.data.toList.take 8 = kk at *
      clear c0 c1 c2 hks hat hkl
      go_wp2_with fail
      have HD1 := Lib.hid (show TimAt wr.drew p b E from HJ.out.s.tim.keep rfl rfl)
      have hel := HJ.out.len
      have HM1 := Lib.hid (show ∀ x, TimAt x p b (setE E kk t) → Moved wr.drew x p b → TiJ w p b (setE E kk t) x ∧ TiJ w q c E x from fun x h m => by
        have hs := HJ.out.s
        have ht := HJ.out.t
        have m' : Moved wr x p b := ⟨m.os, m.tape, m.output, m.size, m.block⟩
        exact ⟨hs.moved h m', ht.other m' hs.hp hs.hb HJ.out.n1 HJ.out.n2 HJ.out.n3 HJ.out.n4⟩)
      go_region_law (first
        | (go_simp; go_at_call 29; refine (hcut _).mono ?_; rintro e x1 ⟨rfl, rfl⟩)
        | (go_simp; go_at_call 30; refine (tiSet_calls _ p b E kk t HKL.out HAT.out (by unfold maxLen; omega) HD1.out).mono ?_; rintro e x3 ⟨rfl, h3, m3⟩; have S3 := Lib.hid (HM1.out x3 h3 m3).1; have T3 := Lib.hid (HM1.out x3 h3 m3).2; have e1 := (S3.out.bel.cell (p := ⟨bb, o + k * 3 + 1, none⟩) hbl).trans C1.out; have e2 := (S3.out.bel.cell (p := ⟨bb, o + k * 3 + 2, none⟩) hbl).trans C2.out; clear h3 m3))
      all_goals
        clear d1 d2 HD1 HM1
        have HD2 := Lib.hid (show TimAt x3.drew q c E from T3.out.tim.keep rfl rfl)
        have HM2 := Lib.hid (show ∀ x, TimAt x q c (setE E kk t) → Moved x3.drew x q c → TwJ w p b q c (setE E kk t) (k + 1) x from fun x h m => by
          have hs := S3.out
          have ht := T3.out
          have m' : Moved x3 x q c := ⟨m.os, m.tape, m.output, m.size, m.block⟩
          exact ⟨hs.other m' ht.hp ht.hb (Ne.symm HJ.out.n1) (Ne.symm HJ.out.n3) (Ne.symm HJ.out.n2) (Ne.symm HJ.out.n4), ht.moved h m', HJ.out.n1, HJ.out.n2, HJ.out.n3, HJ.out.n4, by have := len_setE_le E HJ.out.s.tim.ord kk t; omega⟩)
        go_wp2_with fail
        go_region_law (first
          | (go_simp; go_at_call 29; refine (hcut _).mono ?_; rintro e x4 ⟨rfl, rfl⟩)
          | (go_simp; go_at_call 30; refine (tiSet_calls _ q c E kk t HKL.out HAT.out (by unfold maxLen; omega) HD2.out).mono ?_; rintro e x5 ⟨rfl, h5, m5⟩; have J5 := Lib.hid (HM2.out x5 h5 m5); clear h5 m5))
        all_goals
          go_wp2
          go_roundw
          case rel => exact ⟨k + 1, _, by go_num, by omega, by omega, J5.out⟩
          case measure => simp [RowKit.intOf]; omega
    · by_cases h1 : k < a0.length
      · obtain rfl : k = 25 := by omega
        have hO := HJ.out.s.tim.ord
        have hel := HJ.out.len
        have hpl := m_size HJ.out.s.tim.cells
        have hbl := HJ.out.s.tim.map.lt
        have hql := m_size HJ.out.t.tim.cells
        have hcl := HJ.out.t.tim.map.lt
        have hwl := HJ.out.s.bel.size
        go_wp2_with fail
        refine (tiDue_calls wr p b E a1 (by omega) HJ.out.s.tim).mono ?_
        rintro e x1 ⟨⟨v1, g1, rfl, _, _, hown1⟩, h1', m1⟩
        have S1 := Lib.hid (HJ.out.s.moved h1' m1)
        have T1 := Lib.hid (HJ.out.t.other m1 HJ.out.s.hp HJ.out.s.hb HJ.out.n1 HJ.out.n2 HJ.out.n3 HJ.out.n4)
        have O1 := Lib.hid hown1
        have hs1 := m1.size
        clear h1' m1 hown1
        go_wp2_with fail
        refine (tiDue_calls x1 p b _ a2 (by have := List.length_filter_le (fun x : En => !decide (x.2 ≤ a1)) E; omega) S1.out.tim).mono ?_
        rintro e x2 ⟨⟨v2, g2, rfl, _, _, hown2⟩, h2', m2⟩
        have S2 := Lib.hid (S1.out.moved h2' m2)
        have T2 := Lib.hid (T1.out.other m2 S1.out.hp S1.out.hb HJ.out.n1 HJ.out.n2 HJ.out.n3 HJ.out.n4)
        have O2 := Lib.hid (ownsRow_moved O1.out m2 hpl hbl)
        have hs2 := m2.size
        clear h2' m2
        have hl1 := List.length_filter_le (fun x : En => decide (x.2 ≤ a1)) E
        have hl2 := List.length_filter_le (fun x : En => decide (x.2 ≤ a2)) (E.filter fun x => !decide (x.2 ≤ a1))
        have hl3 := List.length_filter_le (fun x : En => !decide (x.2 ≤ a1)) E
        obtain ⟨F1, hF1⟩ : ∃ F1, (E.filter fun x => decide (x.2 ≤ a1)) = F1 := ⟨_, rfl⟩
        obtain ⟨F2, hF2⟩ : ∃ F2, ((E.filter fun x => !decide (x.2 ≤ a1)).filter fun x => decide (x.2 ≤ a2)) = F2 := ⟨_, rfl⟩
        rw [hF1] at O2 hl1
        rw [hF2] at hown2 hl2
        clear O1 S1 T1
        by_cases hF0 : F2 = []
        · subst hF0
          obtain ⟨A1, c1, rfl⟩ : ∃ A c, v1 = .slice A F1.length c := by
            rcases O2.out.2 with ⟨e, h0⟩ | ⟨g, cap, _, e, _⟩
            · exact ⟨none, 0, by rw [h0]; exact e⟩
            · exact ⟨_, _, e⟩
          obtain ⟨A2, c2, rfl⟩ : ∃ A c, v2 = .slice A 0 c := by
            rcases hown2.2 with ⟨e, h0⟩ | ⟨g, cap, _, e, _⟩
            · exact ⟨none, 0, e⟩
            · exact ⟨_, _, e⟩
          clear hown2
          have hle1 : F1.length ≤ c1 := by
            rcases O2.out.2 with ⟨e, h0⟩ | ⟨g, cap, cur, e, _, _, hle, _⟩
            · injection e with _ e2 e3; omega
            · injection e with _ e2 e3; omega
          have hrun := app_none x2 i0 hi A1 F1.length c1 hle1 A2 c2
          go_wp2_with (at_builtin; refine wpList_append_none _ rfl _ _ 80 rfl _ _ rfl rfl hrun ?_)
          refine (tiDue_calls x2 q c E a2 (by omega) T2.out.tim).mono ?_
          rintro e x4 ⟨⟨v4, g4, rfl, hE4, _, _⟩, h4, m4⟩
          have T4 := Lib.hid (T2.out.moved h4 m4)
          have S4 := Lib.hid (S2.out.other m4 T2.out.hp T2.out.hb (Ne.symm HJ.out.n1) (Ne.symm HJ.out.n3) (Ne.symm HJ.out.n2) (Ne.symm HJ.out.n4))
          have O4 := ownsRow_moved O2.out m4 hql hcl
          clear h4 m4
          rw [← two_ticks hO HLE.out, hF1, hF2, List.append_nil] at hE4
          rw [two_left HLE.out] at S4
          obtain ⟨g5, hE5, _⟩ := owns_ents O4
          generalize F1 = F at *
          obtain ⟨A4, c4, rfl, hc4⟩ := hE4
          obtain ⟨A5, c5, hv5, hc5⟩ := hE5
          cases hv5
          have HC4 := Lib.hid hc4
          have HC5 := Lib.hid hc5
          clear hc4 hc5 O4
          go_wp2_with fail
          refine (tiLen_calls x4 p b _ S4.out.tim).mono ?_
          rintro e x5 ⟨rfl, rfl⟩
          go_wp2_with fail
          refine (tiLen_calls x4 q c _ T4.out.tim).mono ?_
          rintro e x6 ⟨rfl, rfl⟩
          go_wp2_with fail
          go_loopw [84] (fun j wv => ∃ i n : Nat, i ≤ F.length ∧ j = .int .i64 i ∧ wv = x4.drewN n) (fun j _ => F.length - (RowKit.intOf j).toNat)
          case atStart => exact ⟨0, 0, Nat.zero_le _, rfl, rfl⟩
          case round =>
            obtain ⟨i, n, hil, rfl, rfl⟩ := hrel
            by_cases hlt2 : i < F.length
            · obtain ⟨rfl, _, y0, y1⟩ := HC4.out i _ (List.getElem?_eq_getElem hlt2)
              obtain ⟨hA5, _, z0, z1⟩ := HC5.out i _ (List.getElem?_eq_getElem hlt2)
              cases hA5
              have hq := neq_entry (str F[i].1) F[i].2
              generalize str F[i].1 = fk at *
              generalize F[i].2 = fa at *
              skip
              go_wp2_with fail
              go_quiet (fail)
              go_wp2
              go_roundw
              case rel => exact ⟨i + 1, _, by omega, by go_num, rfl⟩
              case measure => simp [RowKit.intOf]; omega
            · obtain rfl : i = F.length := by omega
              go_wp2
              go_ret
              exact ⟨rfl, below_drewN S4.out.bel n⟩
        · have hpos : 0 < F2.length := List.length_pos_iff.2 hF0
          obtain ⟨gg, cc, rfl, _, hggl⟩ := hown2.form hpos
          have HN2 := Lib.hid (hown2.cells (g := gg) rfl)
          obtain ⟨A1, c1, rfl⟩ : ∃ A c, v1 = .slice A F1.length c := by
            rcases O2.out.2 with ⟨e, h0⟩ | ⟨g, cap, _, e, _⟩
            · exact ⟨none, 0, by rw [h0]; exact e⟩
            · exact ⟨_, _, e⟩
          clear hown2
          have KM2 : F1.length + F2.length ≤ maxLen := by unfold maxLen; omega
          have KB2 : (F1.length + F2.length) * 24 ≤ 140737488355328 := by omega
          have BS2 : wr.heap.size ≤ x2.heap.size := by omega
          go_wp2_with (first
            | (at_builtin; refine wpList_append_own_at _ rfl _ _ 80 rfl wr.heap.size 88 i0 (.agg #[.string ⟨#[]⟩, .int .i64 0]) 2 24 Try.underlying80 hi hz0 hz1 hz2 rfl (by decide) _ _ _ rfl O2.out ⟨gg, 0, none⟩ F2.length cc (F2.flatMap enE) rfl (enE_len F2) HN2.out (enE_one F2) KM2 KB2 BS2 ?_; intro v3 X3 hown3 hgr3 _ _;
                (have S3 := Lib.hid (S2.out.grown hgr3 (fun r e => (O2.out.lt r e).1) hpl hbl hwl)); (have T3 := Lib.hid (T2.out.grown hgr3 (fun r e => (O2.out.lt r e).1) hql hcl hwl)); (obtain ⟨g3, c3, rfl, _, _⟩ := hown3.form (by omega)); (have O3 := Lib.hid (show X3.ownsRow wr.heap.size 88 2 (.slice (some ⟨g3, 0, none⟩) (F1 ++ F2).length c3) (F1 ++ F2).length ((F1 ++ F2).flatMap enE) from by rw [List.length_append, List.flatMap_append]; exact hown3)); clear hown3 hgr3)
            | fail)
          have HFL := Lib.hid (show (F1 ++ F2).length = F1.length + F2.length from List.length_append)
          have hfl := HFL.out
          go_wp2_with fail
          refine (tiDue_calls X3 q c E a2 (by omega) T3.out.tim).mono ?_
          rintro e x4 ⟨⟨v4, g4, rfl, hE4, _, _⟩, h4, m4⟩
          have T4 := Lib.hid (T3.out.moved h4 m4)
          have S4 := Lib.hid (S3.out.other m4 T3.out.hp T3.out.hb (Ne.symm HJ.out.n1) (Ne.symm HJ.out.n3) (Ne.symm HJ.out.n2) (Ne.symm HJ.out.n4))
          have O4 := ownsRow_moved O3.out m4 hql hcl
          clear h4 m4
          rw [← two_ticks hO HLE.out, hF1, hF2] at hE4
          rw [two_left HLE.out] at S4
          obtain ⟨g5, hE5, _⟩ := owns_ents O4
          generalize F1 ++ F2 = F at *
          obtain ⟨A4, c4, rfl, hc4⟩ := hE4
          obtain ⟨A5, c5, hv5, hc5⟩ := hE5
          cases hv5
          have HC4 := Lib.hid hc4
          have HC5 := Lib.hid hc5
          clear hc4 hc5 O4
          go_wp2_with fail
          refine (tiLen_calls x4 p b _ S4.out.tim).mono ?_
          rintro e x5 ⟨rfl, rfl⟩
          go_wp2_with fail
          refine (tiLen_calls x4 q c _ T4.out.tim).mono ?_
          rintro e x6 ⟨rfl, rfl⟩
          go_wp2_with fail
          go_loopw [84] (fun j wv => ∃ i n : Nat, i ≤ F.length ∧ j = .int .i64 i ∧ wv = x4.drewN n) (fun j _ => F.length - (RowKit.intOf j).toNat)
          case atStart => exact ⟨0, 0, Nat.zero_le _, rfl, rfl⟩
          case round =>
            obtain ⟨i, n, hil, rfl, rfl⟩ := hrel
            by_cases hlt2 : i < F.length
            · obtain ⟨rfl, _, y0, y1⟩ := HC4.out i _ (List.getElem?_eq_getElem hlt2)
              obtain ⟨hA5, _, z0, z1⟩ := HC5.out i _ (List.getElem?_eq_getElem hlt2)
              cases hA5
              have hq := neq_entry (str F[i].1) F[i].2
              generalize str F[i].1 = fk at *
              generalize F[i].2 = fa at *
              have hfl := HFL.out
              go_wp2_with fail
              go_quiet (fail)
              go_wp2
              go_roundw
              case rel => exact ⟨i + 1, _, by omega, by go_num, rfl⟩
              case measure => simp [RowKit.intOf]; omega
            · obtain rfl : i = F.length := by omega
              go_wp2
              go_ret
              exact ⟨rfl, below_drewN S4.out.bel n⟩
      · obtain rfl : k = a0.length := by omega
        have hO := HJ.out.s.tim.ord
        have hel := HJ.out.len
        have hpl := m_size HJ.out.s.tim.cells
        have hbl := HJ.out.s.tim.map.lt
        have hql := m_size HJ.out.t.tim.cells
        have hcl := HJ.out.t.tim.map.lt
        have hwl := HJ.out.s.bel.size
        go_wp2_with fail
        refine (tiDue_calls wr p b E a1 (by omega) HJ.out.s.tim).mono ?_
        rintro e x1 ⟨⟨v1, g1, rfl, _, _, hown1⟩, h1', m1⟩
        have S1 := Lib.hid (HJ.out.s.moved h1' m1)
        have T1 := Lib.hid (HJ.out.t.other m1 HJ.out.s.hp HJ.out.s.hb HJ.out.n1 HJ.out.n2 HJ.out.n3 HJ.out.n4)
        have O1 := Lib.hid hown1
        have hs1 := m1.size
        clear h1' m1 hown1
        go_wp2_with fail
        refine (tiDue_calls x1 p b _ a2 (by have := List.length_filter_le (fun x : En => !decide (x.2 ≤ a1)) E; omega) S1.out.tim).mono ?_
        rintro e x2 ⟨⟨v2, g2, rfl, _, _, hown2⟩, h2', m2⟩
        have S2 := Lib.hid (S1.out.moved h2' m2)
        have T2 := Lib.hid (T1.out.other m2 S1.out.hp S1.out.hb HJ.out.n1 HJ.out.n2 HJ.out.n3 HJ.out.n4)
        have O2 := Lib.hid (ownsRow_moved O1.out m2 hpl hbl)
        have hs2 := m2.size
        clear h2' m2
        have hl1 := List.length_filter_le (fun x : En => decide (x.2 ≤ a1)) E
        have hl2 := List.length_filter_le (fun x : En => decide (x.2 ≤ a2)) (E.filter fun x => !decide (x.2 ≤ a1))
        have hl3 := List.length_filter_le (fun x : En => !decide (x.2 ≤ a1)) E
        obtain ⟨F1, hF1⟩ : ∃ F1, (E.filter fun x => decide (x.2 ≤ a1)) = F1 := ⟨_, rfl⟩
        obtain ⟨F2, hF2⟩ : ∃ F2, ((E.filter fun x => !decide (x.2 ≤ a1)).filter fun x => decide (x.2 ≤ a2)) = F2 := ⟨_, rfl⟩
        rw [hF1] at O2 hl1
        rw [hF2] at hown2 hl2
        clear O1 S1 T1
        by_cases hF0 : F2 = []
        · subst hF0
          obtain ⟨A1, c1, rfl⟩ : ∃ A c, v1 = .slice A F1.length c := by
            rcases O2.out.2 with ⟨e, h0⟩ | ⟨g, cap, _, e, _⟩
            · exact ⟨none, 0, by rw [h0]; exact e⟩
            · exact ⟨_, _, e⟩
          obtain ⟨A2, c2, rfl⟩ : ∃ A c, v2 = .slice A 0 c := by
            rcases hown2.2 with ⟨e, h0⟩ | ⟨g, cap, _, e, _⟩
            · exact ⟨none, 0, e⟩
            · exact ⟨_, _, e⟩
          clear hown2
          have hle1 : F1.length ≤ c1 := by
            rcases O2.out.2 with ⟨e, h0⟩ | ⟨g, cap, cur, e, _, _, hle, _⟩
            · injection e with _ e2 e3; omega
            · injection e with _ e2 e3; omega
          have hrun := app_none x2 i0 hi A1 F1.length c1 hle1 A2 c2
          go_wp2_with (at_builtin; refine wpList_append_none _ rfl _ _ 80 rfl _ _ rfl rfl hrun ?_)
          refine (tiDue_calls x2 q c E a2 (by omega) T2.out.tim).mono ?_
          rintro e x4 ⟨⟨v4, g4, rfl, hE4, _, _⟩, h4, m4⟩
          have T4 := Lib.hid (T2.out.moved h4 m4)
          have S4 := Lib.hid (S2.out.other m4 T2.out.hp T2.out.hb (Ne.symm HJ.out.n1) (Ne.symm HJ.out.n3) (Ne.symm HJ.out.n2) (Ne.symm HJ.out.n4))
          have O4 := ownsRow_moved O2.out m4 hql hcl
          clear h4 m4
          rw [← two_ticks hO HLE.out, hF1, hF2, List.append_nil] at hE4
          rw [two_left HLE.out] at S4
          obtain ⟨g5, hE5, _⟩ := owns_ents O4
          generalize F1 = F at *
          obtain ⟨A4, c4, rfl, hc4⟩ := hE4
          obtain ⟨A5, c5, hv5, hc5⟩ := hE5
          cases hv5
          have HC4 := Lib.hid hc4
          have HC5 := Lib.hid hc5
          clear hc4 hc5 O4
          go_wp2_with fail
          refine (tiLen_calls x4 p b _ S4.out.tim).mono ?_
          rintro e x5 ⟨rfl, rfl⟩
          go_wp2_with fail
          refine (tiLen_calls x4 q c _ T4.out.tim).mono ?_
          rintro e x6 ⟨rfl, rfl⟩
          go_wp2_with fail
          go_loopw [84] (fun j wv => ∃ i n : Nat, i ≤ F.length ∧ j = .int .i64 i ∧ wv = x4.drewN n) (fun j _ => F.length - (RowKit.intOf j).toNat)
          case atStart => exact ⟨0, 0, Nat.zero_le _, rfl, rfl⟩
          case round =>
            obtain ⟨i, n, hil, rfl, rfl⟩ := hrel
            by_cases hlt2 : i < F.length
            · obtain ⟨rfl, _, y0, y1⟩ := HC4.out i _ (List.getElem?_eq_getElem hlt2)
              obtain ⟨hA5, _, z0, z1⟩ := HC5.out i _ (List.getElem?_eq_getElem hlt2)
              cases hA5
              have hq := neq_entry (str F[i].1) F[i].2
              generalize str F[i].1 = fk at *
              generalize F[i].2 = fa at *
              skip
              go_wp2_with fail
              go_quiet (fail)
              go_wp2
              go_roundw
              case rel => exact ⟨i + 1, _, by omega, by go_num, rfl⟩
              case measure => simp [RowKit.intOf]; omega
            · obtain rfl : i = F.length := by omega
              go_wp2
              go_ret
              exact ⟨rfl, below_drewN S4.out.bel n⟩
        · have hpos : 0 < F2.length := List.length_pos_iff.2 hF0
          obtain ⟨gg, cc, rfl, _, hggl⟩ := hown2.form hpos
          have HN2 := Lib.hid (hown2.cells (g := gg) rfl)
          obtain ⟨A1, c1, rfl⟩ : ∃ A c, v1 = .slice A F1.length c := by
            rcases O2.out.2 with ⟨e, h0⟩ | ⟨g, cap, _, e, _⟩
            · exact ⟨none, 0, by rw [h0]; exact e⟩
            · exact ⟨_, _, e⟩
          clear hown2
          have KM2 : F1.length + F2.length ≤ maxLen := by unfold maxLen; omega
          have KB2 : (F1.length + F2.length) * 24 ≤ 140737488355328 := by omega
          have BS2 : wr.heap.size ≤ x2.heap.size := by omega
          go_wp2_with (first
            | (at_builtin; refine wpList_append_own_at _ rfl _ _ 80 rfl wr.heap.size 88 i0 (.agg #[.string ⟨#[]⟩, .int .i64 0]) 2 24 Try.underlying80 hi hz0 hz1 hz2 rfl (by decide) _ _ _ rfl O2.out ⟨gg, 0, none⟩ F2.length cc (F2.flatMap enE) rfl (enE_len F2) HN2.out (enE_one F2) KM2 KB2 BS2 ?_; intro v3 X3 hown3 hgr3 _ _;
                (have S3 := Lib.hid (S2.out.grown hgr3 (fun r e => (O2.out.lt r e).1) hpl hbl hwl)); (have T3 := Lib.hid (T2.out.grown hgr3 (fun r e => (O2.out.lt r e).1) hql hcl hwl)); (obtain ⟨g3, c3, rfl, _, _⟩ := hown3.form (by omega)); (have O3 := Lib.hid (show X3.ownsRow wr.heap.size 88 2 (.slice (some ⟨g3, 0, none⟩) (F1 ++ F2).length c3) (F1 ++ F2).length ((F1 ++ F2).flatMap enE) from by rw [List.length_append, List.flatMap_append]; exact hown3)); clear hown3 hgr3)
            | fail)
          have HFL := Lib.hid (show (F1 ++ F2).length = F1.length + F2.length from List.length_append)
          have hfl := HFL.out
          go_wp2_with fail
          refine (tiDue_calls X3 q c E a2 (by omega) T3.out.tim).mono ?_
          rintro e x4 ⟨⟨v4, g4, rfl, hE4, _, _⟩, h4, m4⟩
          have T4 := Lib.hid (T3.out.moved h4 m4)
          have S4 := Lib.hid (S3.out.other m4 T3.out.hp T3.out.hb (Ne.symm HJ.out.n1) (Ne.symm HJ.out.n3) (Ne.symm HJ.out.n2) (Ne.symm HJ.out.n4))
          have O4 := ownsRow_moved O3.out m4 hql hcl
          clear h4 m4
          rw [← two_ticks hO HLE.out, hF1, hF2] at hE4
          rw [two_left HLE.out] at S4
          obtain ⟨g5, hE5, _⟩ := owns_ents O4
          generalize F1 ++ F2 = F at *
          obtain ⟨A4, c4, rfl, hc4⟩ := hE4
          obtain ⟨A5, c5, hv5, hc5⟩ := hE5
          cases hv5
          have HC4 := Lib.hid hc4
          have HC5 := Lib.hid hc5
          clear hc4 hc5 O4
          go_wp2_with fail
          refine (tiLen_calls x4 p b _ S4.out.tim).mono ?_
          rintro e x5 ⟨rfl, rfl⟩
          go_wp2_with fail
          refine (tiLen_calls x4 q c _ T4.out.tim).mono ?_
          rintro e x6 ⟨rfl, rfl⟩
          go_wp2_with fail
          go_loopw [84] (fun j wv => ∃ i n : Nat, i ≤ F.length ∧ j = .int .i64 i ∧ wv = x4.drewN n) (fun j _ => F.length - (RowKit.intOf j).toNat)
          case atStart => exact ⟨0, 0, Nat.zero_le _, rfl, rfl⟩
          case round =>
            obtain ⟨i, n, hil, rfl, rfl⟩ := hrel
            by_cases hlt2 : i < F.length
            · obtain ⟨rfl, _, y0, y1⟩ := HC4.out i _ (List.getElem?_eq_getElem hlt2)
              obtain ⟨hA5, _, z0, z1⟩ := HC5.out i _ (List.getElem?_eq_getElem hlt2)
              cases hA5
              have hq := neq_entry (str F[i].1) F[i].2
              generalize str F[i].1 = fk at *
              generalize F[i].2 = fa at *
              have hfl := HFL.out
              go_wp2_with fail
              go_quiet (fail)
              go_wp2
              go_roundw
              case rel => exact ⟨i + 1, _, by omega, by go_num, rfl⟩
              case measure => simp [RowKit.intOf]; omega
            · obtain rfl : i = F.length := by omega
              go_wp2
              go_ret
              exact ⟨rfl, below_drewN S4.out.bel n⟩

set_option maxRecDepth 100000 in
theorem lifted (os : Os) (started : os.Started) (H : Type) (enc : TypeId × Value → H) :
    ReturnsInHanded {} Try.checked os 12 .any (Rows.timerSplitSpec.pre6 enc Try.prog Try.f12 Rows.timerSplitRow.domain false) (Rows.timerSplitSpec.post enc Try.prog Try.f12 false true false false) := by
  refine returnsInHanded_of_change (C := Try.checked) own started (by kernel_rfl) Try.func12
    (ChangeSpec.witness6 (enc := enc) (C := Try.checked) false ⟨#[], #[.slice none 0 0, .int .i64 0, .int .i64 0], []⟩ 8 (by kernel_rfl) (by kernel_rfl) (by kernel_rfl) (by kernel_rfl)) ?_
  intro W base args ds gs before hval0 hW hcnd _
  have hval : ∀ (j : Nat) t v, Try.f12.params[j]? = some t → args[j]? = some v → Value.okWide Try.prog W .any base t v := hval0
  have hW' := hW
  obtain ⟨p, q, hA0, hV, rfl, hfz, hnd⟩ := hW
  have hA : DataW.TrodAll enc Try.prog W 0 (fun _ => true) true Try.f12.params.toList args.toList ds p := hA0
  rw [Try.params12] at hA hval
  obtain ⟨v0, vs0, d0, ds0, p0, q0, hargs, rfl, rfl, h0, r0⟩ := trodAll_cons hA
  obtain ⟨v1, vs1, d1, ds1, p1, q1, rfl, rfl, rfl, h1, r1⟩ := trodAll_cons r0
  obtain ⟨v2, vs2, d2, ds2, p2, q2, rfl, rfl, rfl, h2, r2⟩ := trodAll_cons r1
  obtain ⟨rfl, rfl, rfl⟩ := trodAll_nil r2
  obtain rfl : args = #[v0, v1, v2] := by cases args; simp_all
  obtain ⟨rfl, rfl⟩ := trodVars_none hV
  have k0 := h0
  have lt0 : ∀ x ∈ p0, x.block < W.heap.size := by obtain ⟨m, hm⟩ := k0; exact DataW.trod_lt m _ _ _ hm
  obtain ⟨a0, w0⟩ := open_tactsIn (hval 0 66 v0 rfl rfl) h0
  obtain ⟨a1, rfl, rfl, rfl, w1⟩ := open_int Try.underlying3 (hval 1 3 v1 rfl rfl) h1
  obtain ⟨a2, rfl, rfl, rfl, w2⟩ := open_int Try.underlying3 (hval 2 3 v2 rfl rfl) h2
  clear hA0 hval0
  refine (walk v0 a0 a1 w1 a2 w2 W w0).mono fun e W' ⟨he, bel⟩ => ?_
  subst he
  exact ⟨_, rfl, _, _, _, [], _, [], hW', trodAll_mk1 (shut_bool Try.underlying4 _), (trodAll_cons_mk (Below.trod laidOut (by kernel_rfl) (of_decide_eq_true (by kernel_rfl)) k0 bel lt0) (trodAll_cons_mk (shut_int Try.underlying3 w1) (trodAll_cons_mk (shut_int Try.underlying3 w2) trodAll_mk0))), rfl, bel.frame _, fun h => by cases h⟩

theorem over : Rows.timerSplitRow.holds Try.pinned (OpenSpec.ofChange Rows.timerSplitSpec) :=
  OpenClaim.holds_of_wide 12 Try.f12 rfl rfl rfl rfl rfl rfl rfl ⟨rfl, rfl, rfl, rfl, rfl⟩ rfl rfl rfl rfl rfl (by kernel_rfl) Try.func12 (by kernel_rfl)
    (of_decide_eq_true (by kernel_rfl)) (by unfold Func.isWrapper; first | (rw [if_pos (by decide +kernel)]; kernel_rfl) | (rw [if_neg (by decide +kernel)]; exact ⟨rfl, rfl⟩))
    (fun os started H enc _ => lifted os started H enc)

end Go.Proofs.Ytbjhdfincoadaaa.timerSplit
namespace Go.Proofs.Ytbjhdfincoadaaa
/-- The statement. -/
theorem timerSplit_holds : Rows.TimerSplitSaid := timerSplit.over
#print axioms timerSplit_holds
end Go.Proofs.Ytbjhdfincoadaaa
