/-
  Does a name meet a filter? (No statement: contracts that the proofs of the statements use.)
-/
import Derived.Test.YtephoadjnmmbnaaDoorJTop4
namespace Go.Proofs.YtephoadjnmmbnaaDoor
open Go.RowKit Go.Lib

/-- What holds in Match's loop. -/
structure MatJ (w : World) (p q : Nat) (fs ns : List (List UInt8)) (wr : World) : Prop where
  lf : LevAt wr p fs
  ln : LevAt wr q ns
  pl : p < wr.heap.size
  ql : q < wr.heap.size
  be : Below w.heap.size w wr
theorem MatJ.below {w wr w' : World} {p q : Nat} {fs ns : List (List UInt8)} (h : MatJ w p q fs ns wr) (hb : Below wr.heap.size wr w') : MatJ w p q fs ns w' :=
  ⟨h.lf.below hb h.pl, h.ln.below hb h.ql, Nat.lt_of_lt_of_le h.pl hb.size, Nat.lt_of_lt_of_le h.ql hb.size, h.be.trans (hb.mono h.be.size)⟩
theorem meet_end (ns : List (List UInt8)) : meetB [] ns = decide (ns.length = 0) := by cases ns <;> simp [meetB]

set_option maxHeartbeats 2000000 in
set_option maxRecDepth 100000 in
theorem match_loop (w : World) (f n : List UInt8) (hf : f.length ≤ 10000) (hn : n.length ≤ 10000) (hT : T10 w) (M : Bool) (hM : matchB f n = M) :
    Calls Tryd.prog 25 #[.string (str f), .string (str n)] w fun e w' => e = .returned (.bool M) ∧ Below w.heap.size w w' := by
  have hm1 : (lev f).length ≤ 10001 := by rw [lev_length]; have := List.count_le_length (a := 47) (l := f); omega
  have hm2 : (lev n).length ≤ 10001 := by rw [lev_length]; have := List.count_le_length (a := 47) (l := n); omega
  have hpos : 0 < (lev f).length := by rw [lev_length]; omega
  unfold matchB at hM
  have HM := Lib.hid hM
  clear hM
  go_enter Tryd.func25, Tryd.ntmps25
  go_wp2_with fail
  refine (levels_calls w f (by omega) hT).mono ?_
  rintro e w1 ⟨rfl, L1, b1, z1⟩
  go_wp2_with fail
  refine (levels_calls w1 n (by omega) (hT.below b1)).mono ?_
  rintro e w2 ⟨rfl, L2, b2, z2⟩
  have J := Lib.hid (show MatJ w w.heap.size w1.heap.size (lev f) (lev n) w2 from ⟨L1.below b2 z1, L2, Nat.lt_of_lt_of_le z1 b2.size, z2, b1.trans (b2.mono b1.size)⟩)
  clear L1 L2 b2 z2 b1 z1 hf hn
  generalize w1.heap.size = q at *
  obtain ⟨x0, r0, hx0⟩ : ∃ x r, lev f = x :: r := ⟨_, _, lev_cons f⟩
  have hc0 := J.out.lf 0 x0 (by rw [hx0]; rfl)
  have hhead : (lev f).headD [] = x0 := by rw [hx0]; rfl
  rw [hhead] at HM
  clear hx0 hhead
  generalize lev f = fs at *
  generalize lev n = ns at *
  have hHid := fun w => hidden_calls w n
  have hSig := fun w => isSign_calls w x0
  cases hh : hidB n && sgnL x0 with
  | true =>
    rw [Bool.and_eq_true] at hh
    have HF := Lib.hid (show M = false from by have h := HM.out; rw [hh.1, hh.2] at h; exact h.symm)
    rw [hh.1] at hHid
    rw [hh.2] at hSig
    clear HM hh
    have HB := Lib.hid J.out.be
    go_wp2_with (first
      | (go_at_call 24; refine (hHid _).mono ?_; rintro e v1 ⟨rfl, hw⟩; rw [hw]; clear hw)
      | (go_at_call 94; refine (hSig _).mono ?_; rintro e v2 ⟨rfl, hw⟩; rw [hw]; clear hw))
    go_ret
    exact ⟨by rw [HF.out]; rfl, HB.out⟩
  | false =>
    have HE := Lib.hid (show meetB fs ns = M from by have h := HM.out; rw [hh] at h; simpa using h)
    clear HM
    cases h1 : hidB n with
    | false =>
      rw [h1] at hHid
      clear h1 hh
      go_wp2_with (first
        | (go_at_call 24; refine (hHid _).mono ?_; rintro e v1 ⟨rfl, hw⟩; rw [hw]; clear hw))
      go_loopw [23] (fun i wr => ∃ k : Nat, k ≤ fs.length ∧ i = .int .i64 k ∧ Hid (k ≤ ns.length ∧ meetB (fs.drop k) (ns.drop k) = M) ∧ Hid (MatJ w w.heap.size q fs ns wr)) (fun i _ => fs.length - (RowKit.intOf i).toNat)
      case atStart => exact ⟨0, by omega, rfl, Lib.hid ⟨by omega, HE.out⟩, J⟩
      case round =>
        clear J HE hc0
        obtain ⟨k, hk, rfl, HE, J⟩ := hrel
        have hkn := HE.out.1
        by_cases hlt : k < fs.length
        · obtain ⟨x, hx⟩ : ∃ x, fs[k]? = some x := ⟨_, List.getElem?_eq_getElem hlt⟩
          have hcell := J.out.lf k x hx
          have e1 : (str x).toList = x := str_list x
          have HX := Lib.hid (drop_at hx)
          have HB := Lib.hid J.out.be
          clear hx
          by_cases h35 : x = [35]
          · subst h35
            have HT := Lib.hid (show true = M from by have h := HE.out.2; rw [HX.out] at h; simpa [meetB] using h)
            go_wp2
            go_ret
            exact ⟨by rw [← HT.out]; rfl, HB.out⟩
          · have d35 : (x == [35]) = false := beq_eq_false_iff_ne.2 h35
            by_cases hkl : k < ns.length
            · obtain ⟨y, hy⟩ : ∃ y, ns[k]? = some y := ⟨_, List.getElem?_eq_getElem hkl⟩
              have hcelly := J.out.ln k y hy
              have e2 : (str y).toList = y := str_list y
              have HY := Lib.hid (drop_at hy)
              clear hy
              have hkq : ((k : Int) == (ns.length : Int)) = false := by rw [beq_eq_false_iff_ne]; omega
              have HE2 := Lib.hid (show ((x == [43] || x == y) && meetB (fs.drop (k + 1)) (ns.drop (k + 1))) = M from by have h := HE.out.2; rw [HX.out, HY.out] at h; simpa [meetB, d35] using h)
              clear HE HX HY
              by_cases h43 : x = [43]
              · subst h43
                have HN := Lib.hid (show k + 1 ≤ ns.length ∧ meetB (fs.drop (k + 1)) (ns.drop (k + 1)) = M from ⟨by omega, by have h := HE2.out; simpa using h⟩)
                clear HE2
                go_wp2
                go_round
                case rel => exact ⟨k + 1, by omega, by go_num, HN, J⟩
                case measure => simp [RowKit.intOf]; omega
              · have d43 : (x == [43]) = false := beq_eq_false_iff_ne.2 h43
                by_cases hxy : x = y
                · subst hxy
                  have HN := Lib.hid (show k + 1 ≤ ns.length ∧ meetB (fs.drop (k + 1)) (ns.drop (k + 1)) = M from ⟨by omega, by have h := HE2.out; simpa using h⟩)
                  clear HE2
                  go_wp2
                  go_round
                  case rel => exact ⟨k + 1, by omega, by go_num, HN, J⟩
                  case measure => simp [RowKit.intOf]; omega
                · have dxy : (x == y) = false := beq_eq_false_iff_ne.2 hxy
                  have HF := Lib.hid (show false = M from by have h := HE2.out; rw [d43, dxy] at h; simpa using h)
                  clear HE2
                  go_wp2
                  go_ret
                  exact ⟨by rw [← HF.out]; rfl, HB.out⟩
            · obtain rfl : k = ns.length := by omega
              have HF := Lib.hid (show false = M from by have h := HE.out.2; rw [HX.out, List.drop_length] at h; simpa [meetB, d35] using h)
              clear HE HX
              go_wp2
              go_ret
              exact ⟨by rw [← HF.out]; rfl, HB.out⟩
        · obtain rfl : k = fs.length := by omega
          have HF := Lib.hid (show ((fs.length : Int) == (ns.length : Int)) = M from by
            have h := HE.out.2
            rw [List.drop_length, meet_end, List.length_drop] at h
            rw [← h]
            by_cases e : fs.length = ns.length
            · rw [e]; simp
            · have h1 := HE.out.1
              rw [beq_eq_false_iff_ne.2 (by omega), decide_eq_false (by omega)])
          have HB := Lib.hid J.out.be
          go_wp2
          go_ret
          exact ⟨by rw [← HF.out]; rfl, HB.out⟩
    | true =>
      have h2 : sgnL x0 = false := by rw [h1] at hh; simpa using hh
      rw [h1] at hHid
      rw [h2] at hSig
      clear h1 h2 hh
      go_wp2_with (first
        | (go_at_call 24; refine (hHid _).mono ?_; rintro e v1 ⟨rfl, hw⟩; rw [hw]; clear hw)
        | (go_at_call 94; refine (hSig _).mono ?_; rintro e v2 ⟨rfl, hw⟩; rw [hw]; clear hw))
      go_loopw [23] (fun i wr => ∃ k : Nat, k ≤ fs.length ∧ i = .int .i64 k ∧ Hid (k ≤ ns.length ∧ meetB (fs.drop k) (ns.drop k) = M) ∧ Hid (MatJ w w.heap.size q fs ns wr)) (fun i _ => fs.length - (RowKit.intOf i).toNat)
      case atStart => exact ⟨0, by omega, rfl, Lib.hid ⟨by omega, HE.out⟩, J⟩
      case round =>
        clear J HE hc0
        obtain ⟨k, hk, rfl, HE, J⟩ := hrel
        have hkn := HE.out.1
        by_cases hlt : k < fs.length
        · obtain ⟨x, hx⟩ : ∃ x, fs[k]? = some x := ⟨_, List.getElem?_eq_getElem hlt⟩
          have hcell := J.out.lf k x hx
          have e1 : (str x).toList = x := str_list x
          have HX := Lib.hid (drop_at hx)
          have HB := Lib.hid J.out.be
          clear hx
          by_cases h35 : x = [35]
          · subst h35
            have HT := Lib.hid (show true = M from by have h := HE.out.2; rw [HX.out] at h; simpa [meetB] using h)
            go_wp2
            go_ret
            exact ⟨by rw [← HT.out]; rfl, HB.out⟩
          · have d35 : (x == [35]) = false := beq_eq_false_iff_ne.2 h35
            by_cases hkl : k < ns.length
            · obtain ⟨y, hy⟩ : ∃ y, ns[k]? = some y := ⟨_, List.getElem?_eq_getElem hkl⟩
              have hcelly := J.out.ln k y hy
              have e2 : (str y).toList = y := str_list y
              have HY := Lib.hid (drop_at hy)
              clear hy
              have hkq : ((k : Int) == (ns.length : Int)) = false := by rw [beq_eq_false_iff_ne]; omega
              have HE2 := Lib.hid (show ((x == [43] || x == y) && meetB (fs.drop (k + 1)) (ns.drop (k + 1))) = M from by have h := HE.out.2; rw [HX.out, HY.out] at h; simpa [meetB, d35] using h)
              clear HE HX HY
              by_cases h43 : x = [43]
              · subst h43
                have HN := Lib.hid (show k + 1 ≤ ns.length ∧ meetB (fs.drop (k + 1)) (ns.drop (k + 1)) = M from ⟨by omega, by have h := HE2.out; simpa using h⟩)
                clear HE2
                go_wp2
                go_round
                case rel => exact ⟨k + 1, by omega, by go_num, HN, J⟩
                case measure => simp [RowKit.intOf]; omega
              · have d43 : (x == [43]) = false := beq_eq_false_iff_ne.2 h43
                by_cases hxy : x = y
                · subst hxy
                  have HN := Lib.hid (show k + 1 ≤ ns.length ∧ meetB (fs.drop (k + 1)) (ns.drop (k + 1)) = M from ⟨by omega, by have h := HE2.out; simpa using h⟩)
                  clear HE2
                  go_wp2
                  go_round
                  case rel => exact ⟨k + 1, by omega, by go_num, HN, J⟩
                  case measure => simp [RowKit.intOf]; omega
                · have dxy : (x == y) = false := beq_eq_false_iff_ne.2 hxy
                  have HF := Lib.hid (show false = M from by have h := HE2.out; rw [d43, dxy] at h; simpa using h)
                  clear HE2
                  go_wp2
                  go_ret
                  exact ⟨by rw [← HF.out]; rfl, HB.out⟩
            · obtain rfl : k = ns.length := by omega
              have HF := Lib.hid (show false = M from by have h := HE.out.2; rw [HX.out, List.drop_length] at h; simpa [meetB, d35] using h)
              clear HE HX
              go_wp2
              go_ret
              exact ⟨by rw [← HF.out]; rfl, HB.out⟩
        · obtain rfl : k = fs.length := by omega
          have HF := Lib.hid (show ((fs.length : Int) == (ns.length : Int)) = M from by
            have h := HE.out.2
            rw [List.drop_length, meet_end, List.length_drop] at h
            rw [← h]
            by_cases e : fs.length = ns.length
            · rw [e]; simp
            · have h1 := HE.out.1
              rw [beq_eq_false_iff_ne.2 (by omega), decide_eq_false (by omega)])
          have HB := Lib.hid J.out.be
          go_wp2
          go_ret
          exact ⟨by rw [← HF.out]; rfl, HB.out⟩

theorem match_calls (w : World) (f n : List UInt8) (hf : f.length ≤ 10000) (hn : n.length ≤ 10000) (hT : T10 w) :
    Calls Tryd.prog 25 #[.string (str f), .string (str n)] w fun e w' => e = .returned (.bool (matchB f n)) ∧ Below w.heap.size w w' := match_loop w f n hf hn hT _ rfl

#print axioms match_loop
end Go.Proofs.YtephoadjnmmbnaaDoor
