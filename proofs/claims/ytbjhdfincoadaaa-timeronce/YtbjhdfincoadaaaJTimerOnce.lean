/-
  What is due is told once, at the first tick that reaches it, however the clock goes on.
  Its conditions: none beside those of the row itself.
-/
import Derived.Test.YtbjhdfincoadaaaJTimersB
import Derived.ProofKit
import Derived.Deep.CutRange
import Derived.OpenShut
import Derived.ShutString
import Derived.ChangeOld
namespace Go.Proofs.Ytbjhdfincoadaaa.timerOnce
open Go.ChangeShapes Go.WideShapes Go.ChangeAt Go.RowKit
open Go.ChangeMaps (open_string shut_string)
set_option linter.unusedVariables false

theorem own : ownKnob Try.prog.godebug = none := by kernel_rfl
theorem laidOut : laidOutB Try.prog = true := by kernel_rfl

set_option maxRecDepth 100000 in
set_option maxHeartbeats 4000000 in
theorem walk (v0 : Value) (a0 : List TAc) (v1 : Value) (a1 : List Int) (w : World) (w0 : TActsIn w v0 a0) (w1 : I64sIn w v1 a1) :
    Calls Try.prog 9 #[v0, v1] w fun e w' => e = .returned (.bool true) ∧ Below w.heap.size w w' := by
  have hmm := @run_makeMap Try.prog
  obtain ⟨A, cap, rfl, hzm, hc⟩ := w0
  obtain ⟨A2, cap2, rfl, hzm2, hc2⟩ := w1
  have HC := Lib.hid hc
  have HZ := Lib.hid hzm
  have HC2 := Lib.hid hc2
  have HZ2 := Lib.hid hzm2
  clear hc hzm hc2 hzm2
  go_enter Try.func9, Try.ntmps9
  go_wp2_with fail
  refine (awake18_calls w).mono ?_
  rintro e v1 ⟨rfl, b1⟩
  go_wp2_with fail
  refine (tiNew_calls v1).mono ?_
  rintro e v2 ⟨p, b, rfl, hA, hB, hp, hb⟩
  have J0 := Lib.hid (show OnJ w p b v2.heap.size [] (v2.alloc (.map #[] 0)) from by
    have hbel := b1.trans (hB.mono b1.size)
    exact ⟨⟨hA.below ((Below.refl _ _).alloc (Nat.le_refl _) _), hbel.alloc hbel.size _, Nat.le_trans b1.size hp, Nat.le_trans b1.size hb⟩, MapE.made v2, Nat.ne_of_gt (m_size hA.cells), Nat.ne_of_gt hA.map.lt, hbel.size⟩)
  clear hA hB hp hb b1
  go_wp2_with fail
  generalize v2.heap.size = wb at *
  go_loopw [7] (fun i wr => ∃ (k : Nat) (E : List En), i = .int .i64 k ∧ k ≤ a0.length ∧ k ≤ 30 ∧ OnJ w p b wb E wr ∧ E.length ≤ k ∧ ∀ x ∈ E, 0 ≤ x.2 ∧ x.2 ≤ 255) (fun i _ => 30 - (RowKit.intOf i).toNat)
  case atStart => exact ⟨0, _, rfl, Nat.zero_le _, by omega, J0.out, Nat.le_refl _, by simp⟩
  case round =>
    obtain ⟨k, E, rfl, hk1, hk2, hJ, hel, hall⟩ := hrel
    have HJ := Lib.hid hJ
    have HAL := Lib.hid hall
    have hzl := HZ.out
    unfold maxLen at hzl
    clear hJ J0 hall
    by_cases hlt : k < a0.length ∧ k < 30
    · obtain ⟨h1, h2⟩ := hlt
      obtain ⟨bb, o, hAd, hbl, c0, c1, c2, hks, hat, _⟩ := HC.out k _ (List.getElem?_eq_getElem h1)
      subst hAd
      have d1 := (HJ.out.tj.bel.cell (p := ⟨bb, o + k * 3 + 1, none⟩) hbl).trans c1
      have d2 := (HJ.out.tj.bel.cell (p := ⟨bb, o + k * 3 + 2, none⟩) hbl).trans c2
      have hcut := fun W => cut18_calls W a0[k].key 10 hks
      have hkl : (a0[k].key.data.toList.take 10).length ≤ maxLen := by rw [List.length_take]; unfold maxLen; omega
      have hkey := key_strT hkl
      have HKL := Lib.hid hkl
      obtain ⟨r0, r1⟩ := and_range64 a0[k].at' 255 (by omega)
      generalize hrr : bits .and .i64 a0[k].at' ((255 : Nat) : Int) = r at *
      have hr' : bits .and .i64 a0[k].at' 255 = r := hrr
      clear hrr
      have hwr : (Lit.int .i64 r).wf = true := WalkArith.wf_i64 (by omega)
      have HWR := Lib.hid hwr
      generalize a0[k].at' = t at *
      generalize a0[k].key = s at *
      generalize s.data.toList.take 10 = kk at *
      clear c0 c1 c2 hks hat hkl
      go_wp2_with (go_at_call 29; refine (hcut _).mono ?_; rintro e x1 ⟨rfl, rfl⟩)
      refine (tiSet_calls wr p b E kk r HKL.out HWR.out (by unfold maxLen; omega) HJ.out.tj.tim).mono ?_
      rintro e x3 ⟨rfl, h3, m3⟩
      have T3 := Lib.hid (HJ.out.moved h3 m3)
      clear h3 m3
      obtain ⟨D3, hown3, hh3, ha3, hs3⟩ := T3.out.2
      have HD3 := Lib.hid (And.intro hh3 (And.intro ha3 hs3))
      clear hh3 ha3 hs3
      go_wp2_with (first
        | (at_mapUpdate; refine wpList_mapUpdate_in _ rfl _ _ _ 94 rfl 9 3 law_strT Try.underlying94 _ wb E.length D3 rfl hown3 (by unfold maxLen; omega) _ _ _ rfl rfl hkey _ [] (plainElem_int Try.underlying3 HWR.out) ?_; intro x4 hown4 hturn4;
            (have T4 := Lib.hid (T3.out.1.turned HJ.out.n1 HJ.out.n2 HJ.out.hs hturn4)); (have M4 := Lib.hid (mapE_put HJ.out.tj.tim.ord hown3 HD3.out.1 HD3.out.2.1 HD3.out.2.2 hown4)); clear hown4 hturn4 hown3)
        | fail)
      go_roundw
      case rel =>
        have := len_setE_le E HJ.out.tj.tim.ord kk r
        refine ⟨k + 1, _, by go_num, by omega, by omega, ⟨T4.out, M4.out, HJ.out.n1, HJ.out.n2, HJ.out.hs⟩, by omega, fun x hx => ?_⟩
        rcases (mem_insE _ _ _).1 hx with rfl | hx
        · exact ⟨r0, r1⟩
        · exact HAL.out x ((mem_delE _ _ _).1 hx).1
      case measure => simp [RowKit.intOf]; omega
    · by_cases h1 : k < a0.length
      · obtain rfl : k = 30 := by omega
        go_wp2_with fail
        have L0 := Lib.hid (show OnJ w p b wb E wr from HJ.out)
        have HEL : E.length ≤ 30 := by omega
        clear hel hk1 hk2
        clear HJ
        go_loopw [10, 11] (fun nw i wv => ∃ (m : Nat) (now : Int) (E' : List En), i = .int .i64 m ∧ nw = .int .i64 now ∧ m ≤ a1.length + 1 ∧ m ≤ 30 ∧ 0 ≤ now ∧ now ≤ 1000 ∧ (m ≤ a1.length → now ≤ 31 * m) ∧ OnJ w p b wb E' wv ∧ E'.length ≤ 30 ∧ (∀ x ∈ E', x.2 ≤ 255) ∧ (0 < m → ∀ x ∈ E', now < x.2)) (fun _ i _ => 31 - (RowKit.intOf i).toNat)
        case atStart => exact ⟨0, 0, E, rfl, rfl, by omega, by omega, by omega, by omega, by omega, L0.out, HEL, fun x hx => (HAL.out x hx).2, by omega⟩
        case round =>
          obtain ⟨m, now, E', rfl, rfl, hm1, hm2, hn0, hn1, hn2, hJ', hel', hall', hlow⟩ := hrel
          have HJ := Lib.hid hJ'
          have HAL' := Lib.hid hall'
          have HLO := Lib.hid hlow
          have hzl2 := HZ2.out
          unfold maxLen at hzl2
          clear hJ' hall' hlow L0 HAL
          by_cases g0 : m < a1.length
          · by_cases g2 : m < 30
            · obtain ⟨b2, o2, hA2, hb2l, hcell2⟩ := HC2.out m g0
              subst hA2
              have dd := (HJ.out.tj.bel.cell (p := ⟨b2, o2 + m, none⟩) hb2l).trans hcell2
              obtain ⟨r0, r1⟩ := and_range64 (a1.getD m 0) 31 (by omega)
              generalize hrr : bits .and .i64 (a1.getD m 0) ((31 : Nat) : Int) = r at *
              have hr' : bits .and .i64 (a1.getD m 0) 31 = r := hrr
              clear hrr hcell2
              generalize a1.getD m 0 = st at *
              go_wp2_with fail
              refine (tiDue_calls wr p b E' (now + r) (by omega) HJ.out.tj.tim).mono ?_
              rintro e x3 ⟨⟨vd, g, rfl, hE3, _, _⟩, h3, m3⟩
              have T3 := (HJ.out.moved h3 m3).1
              have M3 := (HJ.out.moved h3 m3).2
              have hO := HJ.out.tj.tim.ord
              have hFO := hO.filter (fun x => decide (x.2 ≤ (now + r)))
              have hFM : ∀ x ∈ (E'.filter fun x => decide (x.2 ≤ (now + r))), x ∈ E' ∧ x.2 ≤ (now + r) := fun x hx => by
                obtain ⟨h1, h2⟩ := List.mem_filter.1 hx
                exact ⟨h1, by simpa using h2⟩
              have hfl := List.length_filter_le (fun x : En => decide (x.2 ≤ (now + r))) E'
              have hdu := dropK_up hO (now + r)
              clear h3 m3
              generalize (E'.filter fun x => decide (x.2 ≤ (now + r))) = F at *
              obtain ⟨E2, hE2⟩ : ∃ E2, (E'.filter fun x => !decide (x.2 ≤ (now + r))) = E2 := ⟨_, rfl⟩
              have hE2l : E2.length ≤ 30 := by have := List.length_filter_le (fun x : En => !decide (x.2 ≤ (now + r))) E'; rw [hE2] at this; omega
              have hE2m : ∀ x ∈ E2, x ∈ E' ∧ (now + r) < x.2 := fun x hx => by
                rw [← hE2] at hx
                obtain ⟨h1, h2⟩ := List.mem_filter.1 hx
                exact ⟨h1, by simpa using h2⟩
              rw [hE2] at T3 hdu
              obtain ⟨A3, c3, rfl, hc3⟩ := hE3
              have X3 := Lib.hid (show TiJ w p b E2 x3 ∧ MapE x3 wb E' ∧ EntsAt x3 g (.slice A3 F.length c3) F from ⟨T3, M3, ⟨A3, c3, rfl, hc3⟩⟩)
              have HFM := Lib.hid hFM
              have HFO := Lib.hid hFO
              have HDU := Lib.hid hdu
              have HOO := Lib.hid hO
              have HE2M := Lib.hid hE2m
              clear T3 M3 hc3 hFM hFO hdu hO hE2m hE2
              go_wp2_with fail
              go_loopw [78] (fun j wv => ∃ i : Nat, j = .int .i64 i ∧ i ≤ F.length ∧ TiJ w p b E2 wv ∧ MapE wv wb (dropK (F.take i) E') ∧ EntsAt wv g (.slice A3 F.length c3) F) (fun j _ => F.length - (RowKit.intOf j).toNat)
              case atStart => exact ⟨0, rfl, Nat.zero_le _, X3.out.1, X3.out.2.1, X3.out.2.2⟩
              case round =>
                obtain ⟨i, rfl, hi, hT, hM, hEn⟩ := hrel
                have Y3 := Lib.hid (And.intro hT (And.intro hM hEn))
                clear hT hM X3
                by_cases hlt2 : i < F.length
                · obtain ⟨A4, c4, hv4, hc4⟩ := hEn
                  cases hv4
                  obtain ⟨hA3, hgl, y0, y1⟩ := hc4 i _ (List.getElem?_eq_getElem hlt2)
                  subst hA3
                  obtain ⟨q1, q2, q3⟩ := drop_take_get HOO.out HFO.out (fun x hx => (HFM.out x hx).1) i hlt2
                  obtain ⟨z1, z2⟩ := HFM.out _ (List.getElem_mem hlt2)
                  have hkf := (HJ.out.tj.tim.fits _ z1).1
                  have hkey := key_strT hkf
                  have hlw : 0 < m → now < F[i].2 := fun h => HLO.out h _ z1
                  obtain ⟨D4, hown4, hh4, ha4, hs4⟩ := (MapE.keep Y3.out.2.1 (Below.heap_alloc wr (.cells #[.string (str F[i].1), .int .i64 F[i].2] 88) wb Y3.out.2.1.lt))
                  have hs := hh4 F[i].1
                  rw [q1] at hs
                  have ha := ha4 F[i].1
                  rw [q2] at ha
                  have HA4 := Lib.hid (show ∀ W', W'.ownsMap Try.prog 9 (plainElem Try.prog 3) wb (dropK (F.take i) E').length (D4.del (.string F[i].1)) → MapE W' wb (dropK (F.take (i + 1)) E') from fun W' h => by
                    rw [q3]
                    exact mapE_del (ord_dropK _ HOO.out) hown4 hh4 ha4 hs4 h)
                  have HQ := Lib.hid ha
                  have HB4 := Lib.hid (show TiJ w p b E2 (wr.alloc (.cells #[.string (str F[i].1), .int .i64 F[i].2] 88)) ∧ EntsAt (wr.alloc (.cells #[.string (str F[i].1), .int .i64 F[i].2] 88)) g (.slice (some ⟨g, 0, none⟩) F.length c3) F from
                    ⟨Y3.out.1.below ((Below.refl _ _).alloc (Nat.le_refl _) _), Y3.out.2.2.keep (Below.heap_alloc _ _ _ hgl) (by simp)⟩)
                  have HGL := Lib.hid hgl
                  clear q1 q2 q3 hh4 ha4 hs4 z1 ha hc4 hgl
                  generalize (dropK (F.take i) E').length = dl at *
                  generalize F[i].1 = fk at *
                  generalize F[i].2 = fa at *
                  by_cases hm0 : 0 < m
                  · have hnf := hlw hm0
                    clear hlw
                    go_wp2_with (first
                      | (at_lookup; refine wpList_lookup_own_ok_int _ rfl _ _ 94 rfl 9 3 .i64 law_strT Try.underlying94 Try.underlying3 (zero_intT _) wb dl D4 rfl hown4 _ _ rfl hkey ?_; intro cc hat hwc;
                          (obtain rfl : cc = fa := by have hx := hat.symm.trans HQ.out; injection hx with hx; injection hx))
                      | (at_delete; refine wpList_delete_own _ rfl _ _ 94 9 rfl 3 law_strT Try.underlying94 _ wb dl D4 rfl hown4 _ _ rfl hkey ?_; intro x5 hown5 hturn5;
                          (have M5 := Lib.hid (HA4.out x5 hown5)); (have T5 := Lib.hid (HB4.out.1.turned HJ.out.n1 HJ.out.n2 HJ.out.hs hturn5)); (have N5 := Lib.hid (HB4.out.2.turned hturn5)); clear hown5 hturn5)
                      | go_in)
                    go_roundw
                    case rel => first | exact ⟨i + 1, by go_num, by omega, T5.out, M5.out, N5.out⟩ | ((repeat apply Exists.intro); exact ⟨⟨i + 1, by go_num, by omega, T5.out, M5.out, N5.out⟩, rfl⟩)
                    case measure => simp [RowKit.intOf]; omega
                  · clear hlw
                    go_wp2_with (first
                      | (at_lookup; refine wpList_lookup_own_ok_int _ rfl _ _ 94 rfl 9 3 .i64 law_strT Try.underlying94 Try.underlying3 (zero_intT _) wb dl D4 rfl hown4 _ _ rfl hkey ?_; intro cc hat hwc;
                          (obtain rfl : cc = fa := by have hx := hat.symm.trans HQ.out; injection hx with hx; injection hx))
                      | (at_delete; refine wpList_delete_own _ rfl _ _ 94 9 rfl 3 law_strT Try.underlying94 _ wb dl D4 rfl hown4 _ _ rfl hkey ?_; intro x5 hown5 hturn5;
                          (have M5 := Lib.hid (HA4.out x5 hown5)); (have T5 := Lib.hid (HB4.out.1.turned HJ.out.n1 HJ.out.n2 HJ.out.hs hturn5)); (have N5 := Lib.hid (HB4.out.2.turned hturn5)); clear hown5 hturn5)
                      | go_in)
                    go_roundw
                    case rel => first | exact ⟨i + 1, by go_num, by omega, T5.out, M5.out, N5.out⟩ | ((repeat apply Exists.intro); exact ⟨⟨i + 1, by go_num, by omega, T5.out, M5.out, N5.out⟩, rfl⟩)
                    case measure => simp [RowKit.intOf]; omega
                · obtain rfl : i = F.length := by omega
                  have hfin := Y3.out.2.1
                  rw [List.take_length, HDU.out] at hfin
                  have HF3 := Lib.hid hfin
                  clear hfin
                  go_wp2
                  go_roundw
                  case rel =>
                    exact ⟨m + 1, (now + r), E2, by go_num, rfl, by omega, by omega, by omega, by omega, by omega, ⟨Y3.out.1, HF3.out, HJ.out.n1, HJ.out.n2, HJ.out.hs⟩, hE2l, fun x hx => HAL'.out x (HE2M.out x hx).1, fun _ x hx => (HE2M.out x hx).2⟩
                  case measure => simp [RowKit.intOf]; omega
            · have hlow2 : ∀ x ∈ E', now < x.2 := HLO.out (by omega)
              have hB0 : ¬ m < 30 := g2
              obtain ⟨D6, hown6, hh6, ha6, hs6⟩ := HJ.out.want
              have HH6 := Lib.hid hh6
              have HA6 := Lib.hid ha6
              have HT6 := Lib.hid HJ.out.tj
              have hO := Lib.hid HJ.out.tj.tim.ord
              have HL2 := Lib.hid hlow2
              clear hh6 ha6 hlow2 HLO
              have hpl := m_size HT6.out.tim.cells
              have hbl := HT6.out.tim.map.lt
              have hws := HT6.out.bel.size
              go_wp2_with (first | (at_range; refine wpList_range_own _ rfl _ 94 rfl 9 3 law_strT Try.underlying94 _ wb E'.length D6 rfl hown6 ?_; intro w6 hrg6 hg6 hs7) | go_in)
              have T6 := Lib.hid (HT6.out.grown (B := wr.heap.size) hg6 (fun r e => by cases e) hpl hbl hws)
              have R6 := Lib.hid hrg6
              clear hrg6 hg6 hs7
              try go_frame
              generalize wr.heap.size = rr at *
              go_loopw [18] (fun _ wv => ∃ left cnt, wv.ranges Try.prog 9 (plainElem Try.prog 3) wb rr E'.length D6 left cnt ∧ TiJ w p b E' wv) (fun _ wv => wv.rangeLeft wb rr)
              case atStart => exact ⟨_, _, R6.out, T6.out⟩
              case round =>
                obtain ⟨left, cnt, hrg, hT⟩ := hrel
                have HR := Lib.hid hrg
                have HT := Lib.hid hT
                have hle := Lib.hid hrg.left_eq
                clear hT R6 T6 hown6
                go_wp2_with (first
                  | (at_next; refine wpList_next_ranges _ rfl _ rfl 9 law_strT (plainElem Try.prog 3) (fun x : List UInt8 => .string (str x)) (Value.int .i64) invK_str invV_int wb rr E'.length D6 left cnt rfl hrg ?_ ?_)
                  | go_in)
                · intro _ hl0
                  have hown7 := hrg.owns
                  clear hl0 hrg
                  go_wp2_with (first
                    | (go_at_call 41; refine (tiLen_calls _ p b E' HT.out.tim).mono ?_; rintro e x1 ⟨rfl, rfl⟩)
                    | (at_len; refine wpList_len_own _ rfl _ 94 rfl 9 3 Try.underlying94 _ wb E'.length D6 rfl hown7 ?_)
                    | go_in)
                  go_ret
                  exact ⟨rfl, HT.out.bel⟩
                · intro x c kl y ys w7 cnt7 hkey hlx hy hat hrg7 hlt7 hg7 hs7 hen
                  obtain rfl := key_is hkey
                  have hyv := val_is hy
                  have hx : (x, c) ∈ E' := up_next hO.out HH6.out HA6.out (fun zd => (hat zd).trans hyv)
                  have hnc : now < c := HL2.out _ hx
                  have R7 := Lib.hid hrg7
                  have T7 := Lib.hid (HT.out.grown (B := rr) hg7 (fun r e => by cases e; exact Nat.le_refl _) hpl hbl hws)
                  clear hkey hyv hy hat hx hlx hrg7 hg7 hs7 hrg
                  go_wp2
                  go_roundw
                  case rel => first | exact ⟨_, _, R7.out, T7.out⟩ | ((repeat apply Exists.intro); exact ⟨⟨_, _, R7.out, T7.out⟩, rfl⟩)
                  case measure => rw [R7.out.left_eq, hle.out]; exact hlt7
          · by_cases g3 : m = a1.length
            · by_cases g2 : m < 30
              · have hB1 : m ≤ a1.length := by omega
                clear g3
                go_wp2_with fail
                refine (tiDue_calls wr p b E' 1000 (by omega) HJ.out.tj.tim).mono ?_
                rintro e x3 ⟨⟨vd, g, rfl, hE3, _, _⟩, h3, m3⟩
                have T3 := (HJ.out.moved h3 m3).1
                have M3 := (HJ.out.moved h3 m3).2
                have hO := HJ.out.tj.tim.ord
                have hFO := hO.filter (fun x => decide (x.2 ≤ 1000))
                have hFM : ∀ x ∈ (E'.filter fun x => decide (x.2 ≤ 1000)), x ∈ E' ∧ x.2 ≤ 1000 := fun x hx => by
                  obtain ⟨h1, h2⟩ := List.mem_filter.1 hx
                  exact ⟨h1, by simpa using h2⟩
                have hfl := List.length_filter_le (fun x : En => decide (x.2 ≤ 1000)) E'
                have hdu := dropK_up hO 1000
                clear h3 m3
                generalize (E'.filter fun x => decide (x.2 ≤ 1000)) = F at *
                obtain ⟨E2, hE2⟩ : ∃ E2, (E'.filter fun x => !decide (x.2 ≤ 1000)) = E2 := ⟨_, rfl⟩
                have hE2l : E2.length ≤ 30 := by have := List.length_filter_le (fun x : En => !decide (x.2 ≤ 1000)) E'; rw [hE2] at this; omega
                have hE2m : ∀ x ∈ E2, x ∈ E' ∧ 1000 < x.2 := fun x hx => by
                  rw [← hE2] at hx
                  obtain ⟨h1, h2⟩ := List.mem_filter.1 hx
                  exact ⟨h1, by simpa using h2⟩
                rw [hE2] at T3 hdu
                obtain ⟨A3, c3, rfl, hc3⟩ := hE3
                have X3 := Lib.hid (show TiJ w p b E2 x3 ∧ MapE x3 wb E' ∧ EntsAt x3 g (.slice A3 F.length c3) F from ⟨T3, M3, ⟨A3, c3, rfl, hc3⟩⟩)
                have HFM := Lib.hid hFM
                have HFO := Lib.hid hFO
                have HDU := Lib.hid hdu
                have HOO := Lib.hid hO
                have HE2M := Lib.hid hE2m
                clear T3 M3 hc3 hFM hFO hdu hO hE2m hE2
                go_wp2_with fail
                go_loopw [78] (fun j wv => ∃ i : Nat, j = .int .i64 i ∧ i ≤ F.length ∧ TiJ w p b E2 wv ∧ MapE wv wb (dropK (F.take i) E') ∧ EntsAt wv g (.slice A3 F.length c3) F) (fun j _ => F.length - (RowKit.intOf j).toNat)
                case atStart => exact ⟨0, rfl, Nat.zero_le _, X3.out.1, X3.out.2.1, X3.out.2.2⟩
                case round =>
                  obtain ⟨i, rfl, hi, hT, hM, hEn⟩ := hrel
                  have Y3 := Lib.hid (And.intro hT (And.intro hM hEn))
                  clear hT hM X3
                  by_cases hlt2 : i < F.length
                  · obtain ⟨A4, c4, hv4, hc4⟩ := hEn
                    cases hv4
                    obtain ⟨hA3, hgl, y0, y1⟩ := hc4 i _ (List.getElem?_eq_getElem hlt2)
                    subst hA3
                    obtain ⟨q1, q2, q3⟩ := drop_take_get HOO.out HFO.out (fun x hx => (HFM.out x hx).1) i hlt2
                    obtain ⟨z1, z2⟩ := HFM.out _ (List.getElem_mem hlt2)
                    have hkf := (HJ.out.tj.tim.fits _ z1).1
                    have hkey := key_strT hkf
                    have hlw : 0 < m → now < F[i].2 := fun h => HLO.out h _ z1
                    obtain ⟨D4, hown4, hh4, ha4, hs4⟩ := (MapE.keep Y3.out.2.1 (Below.heap_alloc wr (.cells #[.string (str F[i].1), .int .i64 F[i].2] 88) wb Y3.out.2.1.lt))
                    have hs := hh4 F[i].1
                    rw [q1] at hs
                    have ha := ha4 F[i].1
                    rw [q2] at ha
                    have HA4 := Lib.hid (show ∀ W', W'.ownsMap Try.prog 9 (plainElem Try.prog 3) wb (dropK (F.take i) E').length (D4.del (.string F[i].1)) → MapE W' wb (dropK (F.take (i + 1)) E') from fun W' h => by
                      rw [q3]
                      exact mapE_del (ord_dropK _ HOO.out) hown4 hh4 ha4 hs4 h)
                    have HQ := Lib.hid ha
                    have HB4 := Lib.hid (show TiJ w p b E2 (wr.alloc (.cells #[.string (str F[i].1), .int .i64 F[i].2] 88)) ∧ EntsAt (wr.alloc (.cells #[.string (str F[i].1), .int .i64 F[i].2] 88)) g (.slice (some ⟨g, 0, none⟩) F.length c3) F from
                      ⟨Y3.out.1.below ((Below.refl _ _).alloc (Nat.le_refl _) _), Y3.out.2.2.keep (Below.heap_alloc _ _ _ hgl) (by simp)⟩)
                    have HGL := Lib.hid hgl
                    clear q1 q2 q3 hh4 ha4 hs4 z1 ha hc4 hgl
                    generalize (dropK (F.take i) E').length = dl at *
                    generalize F[i].1 = fk at *
                    generalize F[i].2 = fa at *
                    by_cases hm0 : 0 < m
                    · have hnf := hlw hm0
                      clear hlw
                      go_wp2_with (first
                        | (at_lookup; refine wpList_lookup_own_ok_int _ rfl _ _ 94 rfl 9 3 .i64 law_strT Try.underlying94 Try.underlying3 (zero_intT _) wb dl D4 rfl hown4 _ _ rfl hkey ?_; intro cc hat hwc;
                            (obtain rfl : cc = fa := by have hx := hat.symm.trans HQ.out; injection hx with hx; injection hx))
                        | (at_delete; refine wpList_delete_own _ rfl _ _ 94 9 rfl 3 law_strT Try.underlying94 _ wb dl D4 rfl hown4 _ _ rfl hkey ?_; intro x5 hown5 hturn5;
                            (have M5 := Lib.hid (HA4.out x5 hown5)); (have T5 := Lib.hid (HB4.out.1.turned HJ.out.n1 HJ.out.n2 HJ.out.hs hturn5)); (have N5 := Lib.hid (HB4.out.2.turned hturn5)); clear hown5 hturn5)
                        | go_in)
                      go_roundw
                      case rel => first | exact ⟨i + 1, by go_num, by omega, T5.out, M5.out, N5.out⟩ | ((repeat apply Exists.intro); exact ⟨⟨i + 1, by go_num, by omega, T5.out, M5.out, N5.out⟩, rfl⟩)
                      case measure => simp [RowKit.intOf]; omega
                    · clear hlw
                      go_wp2_with (first
                        | (at_lookup; refine wpList_lookup_own_ok_int _ rfl _ _ 94 rfl 9 3 .i64 law_strT Try.underlying94 Try.underlying3 (zero_intT _) wb dl D4 rfl hown4 _ _ rfl hkey ?_; intro cc hat hwc;
                            (obtain rfl : cc = fa := by have hx := hat.symm.trans HQ.out; injection hx with hx; injection hx))
                        | (at_delete; refine wpList_delete_own _ rfl _ _ 94 9 rfl 3 law_strT Try.underlying94 _ wb dl D4 rfl hown4 _ _ rfl hkey ?_; intro x5 hown5 hturn5;
                            (have M5 := Lib.hid (HA4.out x5 hown5)); (have T5 := Lib.hid (HB4.out.1.turned HJ.out.n1 HJ.out.n2 HJ.out.hs hturn5)); (have N5 := Lib.hid (HB4.out.2.turned hturn5)); clear hown5 hturn5)
                        | go_in)
                      go_roundw
                      case rel => first | exact ⟨i + 1, by go_num, by omega, T5.out, M5.out, N5.out⟩ | ((repeat apply Exists.intro); exact ⟨⟨i + 1, by go_num, by omega, T5.out, M5.out, N5.out⟩, rfl⟩)
                      case measure => simp [RowKit.intOf]; omega
                  · obtain rfl : i = F.length := by omega
                    have hfin := Y3.out.2.1
                    rw [List.take_length, HDU.out] at hfin
                    have HF3 := Lib.hid hfin
                    clear hfin
                    go_wp2
                    go_roundw
                    case rel =>
                      exact ⟨m + 1, 1000, E2, by go_num, rfl, by omega, by omega, by omega, by omega, by omega, ⟨Y3.out.1, HF3.out, HJ.out.n1, HJ.out.n2, HJ.out.hs⟩, hE2l, fun x hx => HAL'.out x (HE2M.out x hx).1, fun _ x hx => (HE2M.out x hx).2⟩
                    case measure => simp [RowKit.intOf]; omega
              · have hlow2 : ∀ x ∈ E', now < x.2 := HLO.out (by omega)
                have hB1 : m ≤ a1.length := by omega
                clear g3
                obtain ⟨D6, hown6, hh6, ha6, hs6⟩ := HJ.out.want
                have HH6 := Lib.hid hh6
                have HA6 := Lib.hid ha6
                have HT6 := Lib.hid HJ.out.tj
                have hO := Lib.hid HJ.out.tj.tim.ord
                have HL2 := Lib.hid hlow2
                clear hh6 ha6 hlow2 HLO
                have hpl := m_size HT6.out.tim.cells
                have hbl := HT6.out.tim.map.lt
                have hws := HT6.out.bel.size
                go_wp2_with (first | (at_range; refine wpList_range_own _ rfl _ 94 rfl 9 3 law_strT Try.underlying94 _ wb E'.length D6 rfl hown6 ?_; intro w6 hrg6 hg6 hs7) | go_in)
                have T6 := Lib.hid (HT6.out.grown (B := wr.heap.size) hg6 (fun r e => by cases e) hpl hbl hws)
                have R6 := Lib.hid hrg6
                clear hrg6 hg6 hs7
                try go_frame
                generalize wr.heap.size = rr at *
                go_loopw [18] (fun _ wv => ∃ left cnt, wv.ranges Try.prog 9 (plainElem Try.prog 3) wb rr E'.length D6 left cnt ∧ TiJ w p b E' wv) (fun _ wv => wv.rangeLeft wb rr)
                case atStart => exact ⟨_, _, R6.out, T6.out⟩
                case round =>
                  obtain ⟨left, cnt, hrg, hT⟩ := hrel
                  have HR := Lib.hid hrg
                  have HT := Lib.hid hT
                  have hle := Lib.hid hrg.left_eq
                  clear hT R6 T6 hown6
                  go_wp2_with (first
                    | (at_next; refine wpList_next_ranges _ rfl _ rfl 9 law_strT (plainElem Try.prog 3) (fun x : List UInt8 => .string (str x)) (Value.int .i64) invK_str invV_int wb rr E'.length D6 left cnt rfl hrg ?_ ?_)
                    | go_in)
                  · intro _ hl0
                    have hown7 := hrg.owns
                    clear hl0 hrg
                    go_wp2_with (first
                      | (go_at_call 41; refine (tiLen_calls _ p b E' HT.out.tim).mono ?_; rintro e x1 ⟨rfl, rfl⟩)
                      | (at_len; refine wpList_len_own _ rfl _ 94 rfl 9 3 Try.underlying94 _ wb E'.length D6 rfl hown7 ?_)
                      | go_in)
                    go_ret
                    exact ⟨rfl, HT.out.bel⟩
                  · intro x c kl y ys w7 cnt7 hkey hlx hy hat hrg7 hlt7 hg7 hs7 hen
                    obtain rfl := key_is hkey
                    have hyv := val_is hy
                    have hx : (x, c) ∈ E' := up_next hO.out HH6.out HA6.out (fun zd => (hat zd).trans hyv)
                    have hnc : now < c := HL2.out _ hx
                    have R7 := Lib.hid hrg7
                    have T7 := Lib.hid (HT.out.grown (B := rr) hg7 (fun r e => by cases e; exact Nat.le_refl _) hpl hbl hws)
                    clear hkey hyv hy hat hx hlx hrg7 hg7 hs7 hrg
                    go_wp2
                    go_roundw
                    case rel => first | exact ⟨_, _, R7.out, T7.out⟩ | ((repeat apply Exists.intro); exact ⟨⟨_, _, R7.out, T7.out⟩, rfl⟩)
                    case measure => rw [R7.out.left_eq, hle.out]; exact hlt7
            · have hlow2 : ∀ x ∈ E', now < x.2 := HLO.out (by omega)
              have hB1 : ¬ m ≤ a1.length := by omega
              obtain ⟨D6, hown6, hh6, ha6, hs6⟩ := HJ.out.want
              have HH6 := Lib.hid hh6
              have HA6 := Lib.hid ha6
              have HT6 := Lib.hid HJ.out.tj
              have hO := Lib.hid HJ.out.tj.tim.ord
              have HL2 := Lib.hid hlow2
              clear hh6 ha6 hlow2 HLO
              have hpl := m_size HT6.out.tim.cells
              have hbl := HT6.out.tim.map.lt
              have hws := HT6.out.bel.size
              go_wp2_with (first | (at_range; refine wpList_range_own _ rfl _ 94 rfl 9 3 law_strT Try.underlying94 _ wb E'.length D6 rfl hown6 ?_; intro w6 hrg6 hg6 hs7) | go_in)
              have T6 := Lib.hid (HT6.out.grown (B := wr.heap.size) hg6 (fun r e => by cases e) hpl hbl hws)
              have R6 := Lib.hid hrg6
              clear hrg6 hg6 hs7
              try go_frame
              generalize wr.heap.size = rr at *
              go_loopw [18] (fun _ wv => ∃ left cnt, wv.ranges Try.prog 9 (plainElem Try.prog 3) wb rr E'.length D6 left cnt ∧ TiJ w p b E' wv) (fun _ wv => wv.rangeLeft wb rr)
              case atStart => exact ⟨_, _, R6.out, T6.out⟩
              case round =>
                obtain ⟨left, cnt, hrg, hT⟩ := hrel
                have HR := Lib.hid hrg
                have HT := Lib.hid hT
                have hle := Lib.hid hrg.left_eq
                clear hT R6 T6 hown6
                go_wp2_with (first
                  | (at_next; refine wpList_next_ranges _ rfl _ rfl 9 law_strT (plainElem Try.prog 3) (fun x : List UInt8 => .string (str x)) (Value.int .i64) invK_str invV_int wb rr E'.length D6 left cnt rfl hrg ?_ ?_)
                  | go_in)
                · intro _ hl0
                  have hown7 := hrg.owns
                  clear hl0 hrg
                  go_wp2_with (first
                    | (go_at_call 41; refine (tiLen_calls _ p b E' HT.out.tim).mono ?_; rintro e x1 ⟨rfl, rfl⟩)
                    | (at_len; refine wpList_len_own _ rfl _ 94 rfl 9 3 Try.underlying94 _ wb E'.length D6 rfl hown7 ?_)
                    | go_in)
                  go_ret
                  exact ⟨rfl, HT.out.bel⟩
                · intro x c kl y ys w7 cnt7 hkey hlx hy hat hrg7 hlt7 hg7 hs7 hen
                  obtain rfl := key_is hkey
                  have hyv := val_is hy
                  have hx : (x, c) ∈ E' := up_next hO.out HH6.out HA6.out (fun zd => (hat zd).trans hyv)
                  have hnc : now < c := HL2.out _ hx
                  have R7 := Lib.hid hrg7
                  have T7 := Lib.hid (HT.out.grown (B := rr) hg7 (fun r e => by cases e; exact Nat.le_refl _) hpl hbl hws)
                  clear hkey hyv hy hat hx hlx hrg7 hg7 hs7 hrg
                  go_wp2
                  go_roundw
                  case rel => first | exact ⟨_, _, R7.out, T7.out⟩ | ((repeat apply Exists.intro); exact ⟨⟨_, _, R7.out, T7.out⟩, rfl⟩)
                  case measure => rw [R7.out.left_eq, hle.out]; exact hlt7
      · obtain rfl : k = a0.length := by omega
        go_wp2_with fail
        have L0 := Lib.hid (show OnJ w p b wb E wr from HJ.out)
        have HEL : E.length ≤ 30 := by omega
        clear hel hk1 hk2
        clear HJ
        go_loopw [10, 11] (fun nw i wv => ∃ (m : Nat) (now : Int) (E' : List En), i = .int .i64 m ∧ nw = .int .i64 now ∧ m ≤ a1.length + 1 ∧ m ≤ 30 ∧ 0 ≤ now ∧ now ≤ 1000 ∧ (m ≤ a1.length → now ≤ 31 * m) ∧ OnJ w p b wb E' wv ∧ E'.length ≤ 30 ∧ (∀ x ∈ E', x.2 ≤ 255) ∧ (0 < m → ∀ x ∈ E', now < x.2)) (fun _ i _ => 31 - (RowKit.intOf i).toNat)
        case atStart => exact ⟨0, 0, E, rfl, rfl, by omega, by omega, by omega, by omega, by omega, L0.out, HEL, fun x hx => (HAL.out x hx).2, by omega⟩
        case round =>
          obtain ⟨m, now, E', rfl, rfl, hm1, hm2, hn0, hn1, hn2, hJ', hel', hall', hlow⟩ := hrel
          have HJ := Lib.hid hJ'
          have HAL' := Lib.hid hall'
          have HLO := Lib.hid hlow
          have hzl2 := HZ2.out
          unfold maxLen at hzl2
          clear hJ' hall' hlow L0 HAL
          by_cases g0 : m < a1.length
          · by_cases g2 : m < 30
            · obtain ⟨b2, o2, hA2, hb2l, hcell2⟩ := HC2.out m g0
              subst hA2
              have dd := (HJ.out.tj.bel.cell (p := ⟨b2, o2 + m, none⟩) hb2l).trans hcell2
              obtain ⟨r0, r1⟩ := and_range64 (a1.getD m 0) 31 (by omega)
              generalize hrr : bits .and .i64 (a1.getD m 0) ((31 : Nat) : Int) = r at *
              have hr' : bits .and .i64 (a1.getD m 0) 31 = r := hrr
              clear hrr hcell2
              generalize a1.getD m 0 = st at *
              go_wp2_with fail
              refine (tiDue_calls wr p b E' (now + r) (by omega) HJ.out.tj.tim).mono ?_
              rintro e x3 ⟨⟨vd, g, rfl, hE3, _, _⟩, h3, m3⟩
              have T3 := (HJ.out.moved h3 m3).1
              have M3 := (HJ.out.moved h3 m3).2
              have hO := HJ.out.tj.tim.ord
              have hFO := hO.filter (fun x => decide (x.2 ≤ (now + r)))
              have hFM : ∀ x ∈ (E'.filter fun x => decide (x.2 ≤ (now + r))), x ∈ E' ∧ x.2 ≤ (now + r) := fun x hx => by
                obtain ⟨h1, h2⟩ := List.mem_filter.1 hx
                exact ⟨h1, by simpa using h2⟩
              have hfl := List.length_filter_le (fun x : En => decide (x.2 ≤ (now + r))) E'
              have hdu := dropK_up hO (now + r)
              clear h3 m3
              generalize (E'.filter fun x => decide (x.2 ≤ (now + r))) = F at *
              obtain ⟨E2, hE2⟩ : ∃ E2, (E'.filter fun x => !decide (x.2 ≤ (now + r))) = E2 := ⟨_, rfl⟩
              have hE2l : E2.length ≤ 30 := by have := List.length_filter_le (fun x : En => !decide (x.2 ≤ (now + r))) E'; rw [hE2] at this; omega
              have hE2m : ∀ x ∈ E2, x ∈ E' ∧ (now + r) < x.2 := fun x hx => by
                rw [← hE2] at hx
                obtain ⟨h1, h2⟩ := List.mem_filter.1 hx
                exact ⟨h1, by simpa using h2⟩
              rw [hE2] at T3 hdu
              obtain ⟨A3, c3, rfl, hc3⟩ := hE3
              have X3 := Lib.hid (show TiJ w p b E2 x3 ∧ MapE x3 wb E' ∧ EntsAt x3 g (.slice A3 F.length c3) F from ⟨T3, M3, ⟨A3, c3, rfl, hc3⟩⟩)
              have HFM := Lib.hid hFM
              have HFO := Lib.hid hFO
              have HDU := Lib.hid hdu
              have HOO := Lib.hid hO
              have HE2M := Lib.hid hE2m
              clear T3 M3 hc3 hFM hFO hdu hO hE2m hE2
              go_wp2_with fail
              go_loopw [78] (fun j wv => ∃ i : Nat, j = .int .i64 i ∧ i ≤ F.length ∧ TiJ w p b E2 wv ∧ MapE wv wb (dropK (F.take i) E') ∧ EntsAt wv g (.slice A3 F.length c3) F) (fun j _ => F.length - (RowKit.intOf j).toNat)
              case atStart => exact ⟨0, rfl, Nat.zero_le _, X3.out.1, X3.out.2.1, X3.out.2.2⟩
              case round =>
                obtain ⟨i, rfl, hi, hT, hM, hEn⟩ := hrel
                have Y3 := Lib.hid (And.intro hT (And.intro hM hEn))
                clear hT hM X3
                by_cases hlt2 : i < F.length
                · obtain ⟨A4, c4, hv4, hc4⟩ := hEn
                  cases hv4
                  obtain ⟨hA3, hgl, y0, y1⟩ := hc4 i _ (List.getElem?_eq_getElem hlt2)
                  subst hA3
                  obtain ⟨q1, q2, q3⟩ := drop_take_get HOO.out HFO.out (fun x hx => (HFM.out x hx).1) i hlt2
                  obtain ⟨z1, z2⟩ := HFM.out _ (List.getElem_mem hlt2)
                  have hkf := (HJ.out.tj.tim.fits _ z1).1
                  have hkey := key_strT hkf
                  have hlw : 0 < m → now < F[i].2 := fun h => HLO.out h _ z1
                  obtain ⟨D4, hown4, hh4, ha4, hs4⟩ := (MapE.keep Y3.out.2.1 (Below.heap_alloc wr (.cells #[.string (str F[i].1), .int .i64 F[i].2] 88) wb Y3.out.2.1.lt))
                  have hs := hh4 F[i].1
                  rw [q1] at hs
                  have ha := ha4 F[i].1
                  rw [q2] at ha
                  have HA4 := Lib.hid (show ∀ W', W'.ownsMap Try.prog 9 (plainElem Try.prog 3) wb (dropK (F.take i) E').length (D4.del (.string F[i].1)) → MapE W' wb (dropK (F.take (i + 1)) E') from fun W' h => by
                    rw [q3]
                    exact mapE_del (ord_dropK _ HOO.out) hown4 hh4 ha4 hs4 h)
                  have HQ := Lib.hid ha
                  have HB4 := Lib.hid (show TiJ w p b E2 (wr.alloc (.cells #[.string (str F[i].1), .int .i64 F[i].2] 88)) ∧ EntsAt (wr.alloc (.cells #[.string (str F[i].1), .int .i64 F[i].2] 88)) g (.slice (some ⟨g, 0, none⟩) F.length c3) F from
                    ⟨Y3.out.1.below ((Below.refl _ _).alloc (Nat.le_refl _) _), Y3.out.2.2.keep (Below.heap_alloc _ _ _ hgl) (by simp)⟩)
                  have HGL := Lib.hid hgl
                  clear q1 q2 q3 hh4 ha4 hs4 z1 ha hc4 hgl
                  generalize (dropK (F.take i) E').length = dl at *
                  generalize F[i].1 = fk at *
                  generalize F[i].2 = fa at *
                  by_cases hm0 : 0 < m
                  · have hnf := hlw hm0
                    clear hlw
                    go_wp2_with (first
                      | (at_lookup; refine wpList_lookup_own_ok_int _ rfl _ _ 94 rfl 9 3 .i64 law_strT Try.underlying94 Try.underlying3 (zero_intT _) wb dl D4 rfl hown4 _ _ rfl hkey ?_; intro cc hat hwc;
                          (obtain rfl : cc = fa := by have hx := hat.symm.trans HQ.out; injection hx with hx; injection hx))
                      | (at_delete; refine wpList_delete_own _ rfl _ _ 94 9 rfl 3 law_strT Try.underlying94 _ wb dl D4 rfl hown4 _ _ rfl hkey ?_; intro x5 hown5 hturn5;
                          (have M5 := Lib.hid (HA4.out x5 hown5)); (have T5 := Lib.hid (HB4.out.1.turned HJ.out.n1 HJ.out.n2 HJ.out.hs hturn5)); (have N5 := Lib.hid (HB4.out.2.turned hturn5)); clear hown5 hturn5)
                      | go_in)
                    go_roundw
                    case rel => first | exact ⟨i + 1, by go_num, by omega, T5.out, M5.out, N5.out⟩ | ((repeat apply Exists.intro); exact ⟨⟨i + 1, by go_num, by omega, T5.out, M5.out, N5.out⟩, rfl⟩)
                    case measure => simp [RowKit.intOf]; omega
                  · clear hlw
                    go_wp2_with (first
                      | (at_lookup; refine wpList_lookup_own_ok_int _ rfl _ _ 94 rfl 9 3 .i64 law_strT Try.underlying94 Try.underlying3 (zero_intT _) wb dl D4 rfl hown4 _ _ rfl hkey ?_; intro cc hat hwc;
                          (obtain rfl : cc = fa := by have hx := hat.symm.trans HQ.out; injection hx with hx; injection hx))
                      | (at_delete; refine wpList_delete_own _ rfl _ _ 94 9 rfl 3 law_strT Try.underlying94 _ wb dl D4 rfl hown4 _ _ rfl hkey ?_; intro x5 hown5 hturn5;
                          (have M5 := Lib.hid (HA4.out x5 hown5)); (have T5 := Lib.hid (HB4.out.1.turned HJ.out.n1 HJ.out.n2 HJ.out.hs hturn5)); (have N5 := Lib.hid (HB4.out.2.turned hturn5)); clear hown5 hturn5)
                      | go_in)
                    go_roundw
                    case rel => first | exact ⟨i + 1, by go_num, by omega, T5.out, M5.out, N5.out⟩ | ((repeat apply Exists.intro); exact ⟨⟨i + 1, by go_num, by omega, T5.out, M5.out, N5.out⟩, rfl⟩)
                    case measure => simp [RowKit.intOf]; omega
                · obtain rfl : i = F.length := by omega
                  have hfin := Y3.out.2.1
                  rw [List.take_length, HDU.out] at hfin
                  have HF3 := Lib.hid hfin
                  clear hfin
                  go_wp2
                  go_roundw
                  case rel =>
                    exact ⟨m + 1, (now + r), E2, by go_num, rfl, by omega, by omega, by omega, by omega, by omega, ⟨Y3.out.1, HF3.out, HJ.out.n1, HJ.out.n2, HJ.out.hs⟩, hE2l, fun x hx => HAL'.out x (HE2M.out x hx).1, fun _ x hx => (HE2M.out x hx).2⟩
                  case measure => simp [RowKit.intOf]; omega
            · have hlow2 : ∀ x ∈ E', now < x.2 := HLO.out (by omega)
              have hB0 : ¬ m < 30 := g2
              obtain ⟨D6, hown6, hh6, ha6, hs6⟩ := HJ.out.want
              have HH6 := Lib.hid hh6
              have HA6 := Lib.hid ha6
              have HT6 := Lib.hid HJ.out.tj
              have hO := Lib.hid HJ.out.tj.tim.ord
              have HL2 := Lib.hid hlow2
              clear hh6 ha6 hlow2 HLO
              have hpl := m_size HT6.out.tim.cells
              have hbl := HT6.out.tim.map.lt
              have hws := HT6.out.bel.size
              go_wp2_with (first | (at_range; refine wpList_range_own _ rfl _ 94 rfl 9 3 law_strT Try.underlying94 _ wb E'.length D6 rfl hown6 ?_; intro w6 hrg6 hg6 hs7) | go_in)
              have T6 := Lib.hid (HT6.out.grown (B := wr.heap.size) hg6 (fun r e => by cases e) hpl hbl hws)
              have R6 := Lib.hid hrg6
              clear hrg6 hg6 hs7
              try go_frame
              generalize wr.heap.size = rr at *
              go_loopw [18] (fun _ wv => ∃ left cnt, wv.ranges Try.prog 9 (plainElem Try.prog 3) wb rr E'.length D6 left cnt ∧ TiJ w p b E' wv) (fun _ wv => wv.rangeLeft wb rr)
              case atStart => exact ⟨_, _, R6.out, T6.out⟩
              case round =>
                obtain ⟨left, cnt, hrg, hT⟩ := hrel
                have HR := Lib.hid hrg
                have HT := Lib.hid hT
                have hle := Lib.hid hrg.left_eq
                clear hT R6 T6 hown6
                go_wp2_with (first
                  | (at_next; refine wpList_next_ranges _ rfl _ rfl 9 law_strT (plainElem Try.prog 3) (fun x : List UInt8 => .string (str x)) (Value.int .i64) invK_str invV_int wb rr E'.length D6 left cnt rfl hrg ?_ ?_)
                  | go_in)
                · intro _ hl0
                  have hown7 := hrg.owns
                  clear hl0 hrg
                  go_wp2_with (first
                    | (go_at_call 41; refine (tiLen_calls _ p b E' HT.out.tim).mono ?_; rintro e x1 ⟨rfl, rfl⟩)
                    | (at_len; refine wpList_len_own _ rfl _ 94 rfl 9 3 Try.underlying94 _ wb E'.length D6 rfl hown7 ?_)
                    | go_in)
                  go_ret
                  exact ⟨rfl, HT.out.bel⟩
                · intro x c kl y ys w7 cnt7 hkey hlx hy hat hrg7 hlt7 hg7 hs7 hen
                  obtain rfl := key_is hkey
                  have hyv := val_is hy
                  have hx : (x, c) ∈ E' := up_next hO.out HH6.out HA6.out (fun zd => (hat zd).trans hyv)
                  have hnc : now < c := HL2.out _ hx
                  have R7 := Lib.hid hrg7
                  have T7 := Lib.hid (HT.out.grown (B := rr) hg7 (fun r e => by cases e; exact Nat.le_refl _) hpl hbl hws)
                  clear hkey hyv hy hat hx hlx hrg7 hg7 hs7 hrg
                  go_wp2
                  go_roundw
                  case rel => first | exact ⟨_, _, R7.out, T7.out⟩ | ((repeat apply Exists.intro); exact ⟨⟨_, _, R7.out, T7.out⟩, rfl⟩)
                  case measure => rw [R7.out.left_eq, hle.out]; exact hlt7
          · by_cases g3 : m = a1.length
            · by_cases g2 : m < 30
              · have hB1 : m ≤ a1.length := by omega
                clear g3
                go_wp2_with fail
                refine (tiDue_calls wr p b E' 1000 (by omega) HJ.out.tj.tim).mono ?_
                rintro e x3 ⟨⟨vd, g, rfl, hE3, _, _⟩, h3, m3⟩
                have T3 := (HJ.out.moved h3 m3).1
                have M3 := (HJ.out.moved h3 m3).2
                have hO := HJ.out.tj.tim.ord
                have hFO := hO.filter (fun x => decide (x.2 ≤ 1000))
                have hFM : ∀ x ∈ (E'.filter fun x => decide (x.2 ≤ 1000)), x ∈ E' ∧ x.2 ≤ 1000 := fun x hx => by
                  obtain ⟨h1, h2⟩ := List.mem_filter.1 hx
                  exact ⟨h1, by simpa using h2⟩
                have hfl := List.length_filter_le (fun x : En => decide (x.2 ≤ 1000)) E'
                have hdu := dropK_up hO 1000
                clear h3 m3
                generalize (E'.filter fun x => decide (x.2 ≤ 1000)) = F at *
                obtain ⟨E2, hE2⟩ : ∃ E2, (E'.filter fun x => !decide (x.2 ≤ 1000)) = E2 := ⟨_, rfl⟩
                have hE2l : E2.length ≤ 30 := by have := List.length_filter_le (fun x : En => !decide (x.2 ≤ 1000)) E'; rw [hE2] at this; omega
                have hE2m : ∀ x ∈ E2, x ∈ E' ∧ 1000 < x.2 := fun x hx => by
                  rw [← hE2] at hx
                  obtain ⟨h1, h2⟩ := List.mem_filter.1 hx
                  exact ⟨h1, by simpa using h2⟩
                rw [hE2] at T3 hdu
                obtain ⟨A3, c3, rfl, hc3⟩ := hE3
                have X3 := Lib.hid (show TiJ w p b E2 x3 ∧ MapE x3 wb E' ∧ EntsAt x3 g (.slice A3 F.length c3) F from ⟨T3, M3, ⟨A3, c3, rfl, hc3⟩⟩)
                have HFM := Lib.hid hFM
                have HFO := Lib.hid hFO
                have HDU := Lib.hid hdu
                have HOO := Lib.hid hO
                have HE2M := Lib.hid hE2m
                clear T3 M3 hc3 hFM hFO hdu hO hE2m hE2
                go_wp2_with fail
                go_loopw [78] (fun j wv => ∃ i : Nat, j = .int .i64 i ∧ i ≤ F.length ∧ TiJ w p b E2 wv ∧ MapE wv wb (dropK (F.take i) E') ∧ EntsAt wv g (.slice A3 F.length c3) F) (fun j _ => F.length - (RowKit.intOf j).toNat)
                case atStart => exact ⟨0, rfl, Nat.zero_le _, X3.out.1, X3.out.2.1, X3.out.2.2⟩
                case round =>
                  obtain ⟨i, rfl, hi, hT, hM, hEn⟩ := hrel
                  have Y3 := Lib.hid (And.intro hT (And.intro hM hEn))
                  clear hT hM X3
                  by_cases hlt2 : i < F.length
                  · obtain ⟨A4, c4, hv4, hc4⟩ := hEn
                    cases hv4
                    obtain ⟨hA3, hgl, y0, y1⟩ := hc4 i _ (List.getElem?_eq_getElem hlt2)
                    subst hA3
                    obtain ⟨q1, q2, q3⟩ := drop_take_get HOO.out HFO.out (fun x hx => (HFM.out x hx).1) i hlt2
                    obtain ⟨z1, z2⟩ := HFM.out _ (List.getElem_mem hlt2)
                    have hkf := (HJ.out.tj.tim.fits _ z1).1
                    have hkey := key_strT hkf
                    have hlw : 0 < m → now < F[i].2 := fun h => HLO.out h _ z1
                    obtain ⟨D4, hown4, hh4, ha4, hs4⟩ := (MapE.keep Y3.out.2.1 (Below.heap_alloc wr (.cells #[.string (str F[i].1), .int .i64 F[i].2] 88) wb Y3.out.2.1.lt))
                    have hs := hh4 F[i].1
                    rw [q1] at hs
                    have ha := ha4 F[i].1
                    rw [q2] at ha
                    have HA4 := Lib.hid (show ∀ W', W'.ownsMap Try.prog 9 (plainElem Try.prog 3) wb (dropK (F.take i) E').length (D4.del (.string F[i].1)) → MapE W' wb (dropK (F.take (i + 1)) E') from fun W' h => by
                      rw [q3]
                      exact mapE_del (ord_dropK _ HOO.out) hown4 hh4 ha4 hs4 h)
                    have HQ := Lib.hid ha
                    have HB4 := Lib.hid (show TiJ w p b E2 (wr.alloc (.cells #[.string (str F[i].1), .int .i64 F[i].2] 88)) ∧ EntsAt (wr.alloc (.cells #[.string (str F[i].1), .int .i64 F[i].2] 88)) g (.slice (some ⟨g, 0, none⟩) F.length c3) F from
                      ⟨Y3.out.1.below ((Below.refl _ _).alloc (Nat.le_refl _) _), Y3.out.2.2.keep (Below.heap_alloc _ _ _ hgl) (by simp)⟩)
                    have HGL := Lib.hid hgl
                    clear q1 q2 q3 hh4 ha4 hs4 z1 ha hc4 hgl
                    generalize (dropK (F.take i) E').length = dl at *
                    generalize F[i].1 = fk at *
                    generalize F[i].2 = fa at *
                    by_cases hm0 : 0 < m
                    · have hnf := hlw hm0
                      clear hlw
                      go_wp2_with (first
                        | (at_lookup; refine wpList_lookup_own_ok_int _ rfl _ _ 94 rfl 9 3 .i64 law_strT Try.underlying94 Try.underlying3 (zero_intT _) wb dl D4 rfl hown4 _ _ rfl hkey ?_; intro cc hat hwc;
                            (obtain rfl : cc = fa := by have hx := hat.symm.trans HQ.out; injection hx with hx; injection hx))
                        | (at_delete; refine wpList_delete_own _ rfl _ _ 94 9 rfl 3 law_strT Try.underlying94 _ wb dl D4 rfl hown4 _ _ rfl hkey ?_; intro x5 hown5 hturn5;
                            (have M5 := Lib.hid (HA4.out x5 hown5)); (have T5 := Lib.hid (HB4.out.1.turned HJ.out.n1 HJ.out.n2 HJ.out.hs hturn5)); (have N5 := Lib.hid (HB4.out.2.turned hturn5)); clear hown5 hturn5)
                        | go_in)
                      go_roundw
                      case rel => first | exact ⟨i + 1, by go_num, by omega, T5.out, M5.out, N5.out⟩ | ((repeat apply Exists.intro); exact ⟨⟨i + 1, by go_num, by omega, T5.out, M5.out, N5.out⟩, rfl⟩)
                      case measure => simp [RowKit.intOf]; omega
                    · clear hlw
                      go_wp2_with (first
                        | (at_lookup; refine wpList_lookup_own_ok_int _ rfl _ _ 94 rfl 9 3 .i64 law_strT Try.underlying94 Try.underlying3 (zero_intT _) wb dl D4 rfl hown4 _ _ rfl hkey ?_; intro cc hat hwc;
                            (obtain rfl : cc = fa := by have hx := hat.symm.trans HQ.out; injection hx with hx; injection hx))
                        | (at_delete; refine wpList_delete_own _ rfl _ _ 94 9 rfl 3 law_strT Try.underlying94 _ wb dl D4 rfl hown4 _ _ rfl hkey ?_; intro x5 hown5 hturn5;
                            (have M5 := Lib.hid (HA4.out x5 hown5)); (have T5 := Lib.hid (HB4.out.1.turned HJ.out.n1 HJ.out.n2 HJ.out.hs hturn5)); (have N5 := Lib.hid (HB4.out.2.turned hturn5)); clear hown5 hturn5)
                        | go_in)
                      go_roundw
                      case rel => first | exact ⟨i + 1, by go_num, by omega, T5.out, M5.out, N5.out⟩ | ((repeat apply Exists.intro); exact ⟨⟨i + 1, by go_num, by omega, T5.out, M5.out, N5.out⟩, rfl⟩)
                      case measure => simp [RowKit.intOf]; omega
                  · obtain rfl : i = F.length := by omega
                    have hfin := Y3.out.2.1
                    rw [List.take_length, HDU.out] at hfin
                    have HF3 := Lib.hid hfin
                    clear hfin
                    go_wp2
                    go_roundw
                    case rel =>
                      exact ⟨m + 1, 1000, E2, by go_num, rfl, by omega, by omega, by omega, by omega, by omega, ⟨Y3.out.1, HF3.out, HJ.out.n1, HJ.out.n2, HJ.out.hs⟩, hE2l, fun x hx => HAL'.out x (HE2M.out x hx).1, fun _ x hx => (HE2M.out x hx).2⟩
                    case measure => simp [RowKit.intOf]; omega
              · have hlow2 : ∀ x ∈ E', now < x.2 := HLO.out (by omega)
                have hB1 : m ≤ a1.length := by omega
                clear g3
                obtain ⟨D6, hown6, hh6, ha6, hs6⟩ := HJ.out.want
                have HH6 := Lib.hid hh6
                have HA6 := Lib.hid ha6
                have HT6 := Lib.hid HJ.out.tj
                have hO := Lib.hid HJ.out.tj.tim.ord
                have HL2 := Lib.hid hlow2
                clear hh6 ha6 hlow2 HLO
                have hpl := m_size HT6.out.tim.cells
                have hbl := HT6.out.tim.map.lt
                have hws := HT6.out.bel.size
                go_wp2_with (first | (at_range; refine wpList_range_own _ rfl _ 94 rfl 9 3 law_strT Try.underlying94 _ wb E'.length D6 rfl hown6 ?_; intro w6 hrg6 hg6 hs7) | go_in)
                have T6 := Lib.hid (HT6.out.grown (B := wr.heap.size) hg6 (fun r e => by cases e) hpl hbl hws)
                have R6 := Lib.hid hrg6
                clear hrg6 hg6 hs7
                try go_frame
                generalize wr.heap.size = rr at *
                go_loopw [18] (fun _ wv => ∃ left cnt, wv.ranges Try.prog 9 (plainElem Try.prog 3) wb rr E'.length D6 left cnt ∧ TiJ w p b E' wv) (fun _ wv => wv.rangeLeft wb rr)
                case atStart => exact ⟨_, _, R6.out, T6.out⟩
                case round =>
                  obtain ⟨left, cnt, hrg, hT⟩ := hrel
                  have HR := Lib.hid hrg
                  have HT := Lib.hid hT
                  have hle := Lib.hid hrg.left_eq
                  clear hT R6 T6 hown6
                  go_wp2_with (first
                    | (at_next; refine wpList_next_ranges _ rfl _ rfl 9 law_strT (plainElem Try.prog 3) (fun x : List UInt8 => .string (str x)) (Value.int .i64) invK_str invV_int wb rr E'.length D6 left cnt rfl hrg ?_ ?_)
                    | go_in)
                  · intro _ hl0
                    have hown7 := hrg.owns
                    clear hl0 hrg
                    go_wp2_with (first
                      | (go_at_call 41; refine (tiLen_calls _ p b E' HT.out.tim).mono ?_; rintro e x1 ⟨rfl, rfl⟩)
                      | (at_len; refine wpList_len_own _ rfl _ 94 rfl 9 3 Try.underlying94 _ wb E'.length D6 rfl hown7 ?_)
                      | go_in)
                    go_ret
                    exact ⟨rfl, HT.out.bel⟩
                  · intro x c kl y ys w7 cnt7 hkey hlx hy hat hrg7 hlt7 hg7 hs7 hen
                    obtain rfl := key_is hkey
                    have hyv := val_is hy
                    have hx : (x, c) ∈ E' := up_next hO.out HH6.out HA6.out (fun zd => (hat zd).trans hyv)
                    have hnc : now < c := HL2.out _ hx
                    have R7 := Lib.hid hrg7
                    have T7 := Lib.hid (HT.out.grown (B := rr) hg7 (fun r e => by cases e; exact Nat.le_refl _) hpl hbl hws)
                    clear hkey hyv hy hat hx hlx hrg7 hg7 hs7 hrg
                    go_wp2
                    go_roundw
                    case rel => first | exact ⟨_, _, R7.out, T7.out⟩ | ((repeat apply Exists.intro); exact ⟨⟨_, _, R7.out, T7.out⟩, rfl⟩)
                    case measure => rw [R7.out.left_eq, hle.out]; exact hlt7
            · have hlow2 : ∀ x ∈ E', now < x.2 := HLO.out (by omega)
              have hB1 : ¬ m ≤ a1.length := by omega
              obtain ⟨D6, hown6, hh6, ha6, hs6⟩ := HJ.out.want
              have HH6 := Lib.hid hh6
              have HA6 := Lib.hid ha6
              have HT6 := Lib.hid HJ.out.tj
              have hO := Lib.hid HJ.out.tj.tim.ord
              have HL2 := Lib.hid hlow2
              clear hh6 ha6 hlow2 HLO
              have hpl := m_size HT6.out.tim.cells
              have hbl := HT6.out.tim.map.lt
              have hws := HT6.out.bel.size
              go_wp2_with (first | (at_range; refine wpList_range_own _ rfl _ 94 rfl 9 3 law_strT Try.underlying94 _ wb E'.length D6 rfl hown6 ?_; intro w6 hrg6 hg6 hs7) | go_in)
              have T6 := Lib.hid (HT6.out.grown (B := wr.heap.size) hg6 (fun r e => by cases e) hpl hbl hws)
              have R6 := Lib.hid hrg6
              clear hrg6 hg6 hs7
              try go_frame
              generalize wr.heap.size = rr at *
              go_loopw [18] (fun _ wv => ∃ left cnt, wv.ranges Try.prog 9 (plainElem Try.prog 3) wb rr E'.length D6 left cnt ∧ TiJ w p b E' wv) (fun _ wv => wv.rangeLeft wb rr)
              case atStart => exact ⟨_, _, R6.out, T6.out⟩
              case round =>
                obtain ⟨left, cnt, hrg, hT⟩ := hrel
                have HR := Lib.hid hrg
                have HT := Lib.hid hT
                have hle := Lib.hid hrg.left_eq
                clear hT R6 T6 hown6
                go_wp2_with (first
                  | (at_next; refine wpList_next_ranges _ rfl _ rfl 9 law_strT (plainElem Try.prog 3) (fun x : List UInt8 => .string (str x)) (Value.int .i64) invK_str invV_int wb rr E'.length D6 left cnt rfl hrg ?_ ?_)
                  | go_in)
                · intro _ hl0
                  have hown7 := hrg.owns
                  clear hl0 hrg
                  go_wp2_with (first
                    | (go_at_call 41; refine (tiLen_calls _ p b E' HT.out.tim).mono ?_; rintro e x1 ⟨rfl, rfl⟩)
                    | (at_len; refine wpList_len_own _ rfl _ 94 rfl 9 3 Try.underlying94 _ wb E'.length D6 rfl hown7 ?_)
                    | go_in)
                  go_ret
                  exact ⟨rfl, HT.out.bel⟩
                · intro x c kl y ys w7 cnt7 hkey hlx hy hat hrg7 hlt7 hg7 hs7 hen
                  obtain rfl := key_is hkey
                  have hyv := val_is hy
                  have hx : (x, c) ∈ E' := up_next hO.out HH6.out HA6.out (fun zd => (hat zd).trans hyv)
                  have hnc : now < c := HL2.out _ hx
                  have R7 := Lib.hid hrg7
                  have T7 := Lib.hid (HT.out.grown (B := rr) hg7 (fun r e => by cases e; exact Nat.le_refl _) hpl hbl hws)
                  clear hkey hyv hy hat hx hlx hrg7 hg7 hs7 hrg
                  go_wp2
                  go_roundw
                  case rel => first | exact ⟨_, _, R7.out, T7.out⟩ | ((repeat apply Exists.intro); exact ⟨⟨_, _, R7.out, T7.out⟩, rfl⟩)
                  case measure => rw [R7.out.left_eq, hle.out]; exact hlt7

set_option maxRecDepth 100000 in
theorem lifted (os : Os) (started : os.Started) (H : Type) (enc : TypeId × Value → H) :
    ReturnsInHanded {} Try.checked os 9 .any (Rows.timerOnceSpec.pre6 enc Try.prog Try.f9 Rows.timerOnceRow.domain false) (Rows.timerOnceSpec.post enc Try.prog Try.f9 false true false false) := by
  refine returnsInHanded_of_change (C := Try.checked) own started (by kernel_rfl) Try.func9
    (ChangeSpec.witness6 (enc := enc) (C := Try.checked) false ⟨#[], #[.slice none 0 0, .slice none 0 0], []⟩ 8 (by kernel_rfl) (by kernel_rfl) (by kernel_rfl) (by kernel_rfl)) ?_
  intro W base args ds gs before hval0 hW hcnd _
  have hval : ∀ (j : Nat) t v, Try.f9.params[j]? = some t → args[j]? = some v → Value.okWide Try.prog W .any base t v := hval0
  have hW' := hW
  obtain ⟨p, q, hA0, hV, rfl, hfz, hnd⟩ := hW
  have hA : DataW.TrodAll enc Try.prog W 0 (fun _ => true) true Try.f9.params.toList args.toList ds p := hA0
  rw [Try.params9] at hA hval
  obtain ⟨v0, vs0, d0, ds0, p0, q0, hargs, rfl, rfl, h0, r0⟩ := trodAll_cons hA
  obtain ⟨v1, vs1, d1, ds1, p1, q1, rfl, rfl, rfl, h1, r1⟩ := trodAll_cons r0
  obtain ⟨rfl, rfl, rfl⟩ := trodAll_nil r1
  obtain rfl : args = #[v0, v1] := by cases args; simp_all
  obtain ⟨rfl, rfl⟩ := trodVars_none hV
  have k0 := h0
  have lt0 : ∀ x ∈ p0, x.block < W.heap.size := by obtain ⟨m, hm⟩ := k0; exact DataW.trod_lt m _ _ _ hm
  obtain ⟨a0, w0⟩ := open_tactsIn (hval 0 66 v0 rfl rfl) h0
  have k1 := h1
  have lt1 : ∀ x ∈ p1, x.block < W.heap.size := by obtain ⟨m, hm⟩ := k1; exact DataW.trod_lt m _ _ _ hm
  obtain ⟨a1, w1⟩ := open_i64sIn (hval 1 25 v1 rfl rfl) h1
  clear hA0 hval0
  refine (walk v0 a0 v1 a1 W w0 w1).mono fun e W' ⟨he, bel⟩ => ?_
  subst he
  exact ⟨_, rfl, _, _, _, [], _, [], hW', trodAll_mk1 (shut_bool Try.underlying4 _), (trodAll_cons_mk (Below.trod laidOut (by kernel_rfl) (of_decide_eq_true (by kernel_rfl)) k0 bel lt0) (trodAll_cons_mk (Below.trod laidOut (by kernel_rfl) (of_decide_eq_true (by kernel_rfl)) k1 bel lt1) trodAll_mk0)), rfl, bel.frame _, fun h => by cases h⟩

theorem over : Rows.timerOnceRow.holds Try.pinned (OpenSpec.ofChange Rows.timerOnceSpec) :=
  OpenClaim.holds_of_wide 9 Try.f9 rfl rfl rfl rfl rfl rfl rfl ⟨rfl, rfl, rfl, rfl, rfl⟩ rfl rfl rfl rfl rfl (by kernel_rfl) Try.func9 (by kernel_rfl)
    (of_decide_eq_true (by kernel_rfl)) (by unfold Func.isWrapper; first | (rw [if_pos (by decide +kernel)]; kernel_rfl) | (rw [if_neg (by decide +kernel)]; exact ⟨rfl, rfl⟩))
    (fun os started H enc _ => lifted os started H enc)

end Go.Proofs.Ytbjhdfincoadaaa.timerOnce
namespace Go.Proofs.Ytbjhdfincoadaaa
/-- The statement. -/
theorem timerOnce_holds : Rows.TimerOnceSaid := timerOnce.over
#print axioms timerOnce_holds
end Go.Proofs.Ytbjhdfincoadaaa
