/-
  The document's layer 10: name, filter, shared filters; the law's same. (No statement: contracts that the proofs of the statements use.)
-/
import Derived.Test.YtephoadjnmmbnaaDoorJRt0
import Derived.Test.YtephoadjnmmbnaaDoorJTop6
namespace Go.Proofs.YtephoadjnmmbnaaDoor
open Go.RowKit Go.Lib

set_option maxHeartbeats 1000000 in
theorem r10text_calls (w : World) (l : List UInt8) (hl : l.length ≤ 70000) :
    Calls Tryd.prog 92 #[.string (str l)] w fun e w' => e = .returned (.bool (mayT l)) ∧ Below w.heap.size w w' := by
  have hem := empty_str l
  by_cases h0 : l = []
  · have e : mayT l = false := by simp [mayT, h0]
    rw [e]
    rw [decide_eq_true h0] at hem
    clear h0 e hl
    generalize str l = s at *
    go_enter Tryd.func92, Tryd.ntmps92
    go_wp2
    go_ret
    exact ⟨rfl, Below.refl _ _⟩
  · rw [decide_eq_false h0] at hem
    have c := r2good_calls w l hl
    cases hg : goodB (str l) with
    | false =>
      have e : mayT l = false := by simp [mayT, hg]
      rw [e]
      rw [hg] at c
      go_enter Tryd.func92, Tryd.ntmps92
      go_wp2_with (go_at_call 88; refine c.mono ?_; rintro e w' ⟨rfl, hw⟩)
      go_ret
      exact ⟨rfl, hw⟩
    | true =>
      have e : mayT l = decide ((lev l).length ≤ 32) := by rw [lev_length]; simp only [mayT, hg, Bool.true_and, decide_eq_true h0]; apply decide_eq_decide.2; omega
      rw [e]
      rw [hg] at c
      have c2 := fun w => r10levels_calls w l hl
      clear e
      generalize lev l = ls at *
      have hd : decide ((ls.length : Int) ≤ 32) = decide (ls.length ≤ 32) := by by_cases h : ls.length ≤ 32 <;> simp [h] <;> omega
      go_enter Tryd.func92, Tryd.ntmps92
      go_wp2_with (first
        | (go_at_call 88; refine c.mono ?_; rintro e w1 ⟨rfl, hw⟩)
        | (go_at_call 19; refine (c2 _).mono ?_; rintro e w' ⟨g, cap, rfl, _, _, _, hw2⟩; have HW := Lib.hid (hw.trans (hw2.mono hw.size)); clear hw hw2))
      go_ret
      exact ⟨rfl, HW.out⟩

set_option maxHeartbeats 1000000 in
theorem r10name_calls (w : World) (l : List UInt8) (hl : l.length ≤ 70000) :
    Calls Tryd.prog 21 #[.string (str l)] w fun e w' => e = .returned (.bool (nameB l)) ∧ Below w.heap.size w w' := by
  have c := r10text_calls w l hl
  have c2 := fun w => r10signs_calls w l hl
  unfold nameB
  cases hm : mayT l with
  | false =>
    rw [hm] at c
    rw [Bool.false_and]
    go_enter Tryd.func21, Tryd.ntmps21
    go_wp2_with (go_at_call 92; refine c.mono ?_; rintro e w' ⟨rfl, hw⟩)
    go_ret
    exact ⟨rfl, hw⟩
  | true =>
    rw [hm] at c
    rw [Bool.true_and]
    generalize hasS l = b at *
    go_enter Tryd.func21, Tryd.ntmps21
    go_wp2_with (first
      | (go_at_call 92; refine c.mono ?_; rintro e w1 ⟨rfl, hw⟩)
      | (go_at_call 87; refine (c2 _).mono ?_; rintro e w2 ⟨rfl, hw2⟩; rw [hw2]; clear hw2))
    go_ret
    exact ⟨rfl, hw⟩

/-- What holds in the document's Filter's loop. -/
structure FilJ10 (w : World) (p : Nat) (ls : List (List UInt8)) (M : Bool) (k : Nat) (wr : World) : Prop where
  lv : LevAt wr p ls
  pl : p < wr.heap.size
  be : Below w.heap.size w wr
  eq : M = (filtR (ls.drop k))
theorem FilJ10.next {w wr : World} {p : Nat} {ls : List (List UInt8)} {M : Bool} {k : Nat} {x : List UInt8} (h : FilJ10 w p ls M k wr) (hx : ls[k]? = some x) (ht : ((x == [43] || (x == [35] && (ls.drop (k + 1)).isEmpty)) || !hasS x) = true) : FilJ10 w p ls M (k + 1) wr :=
  ⟨h.lv, h.pl, h.be, by rw [h.eq, drop_at hx, filtR_step, ht, Bool.true_and]⟩

set_option maxHeartbeats 2000000 in
set_option maxRecDepth 100000 in
theorem r10filter_calls (w : World) (l : List UInt8) (hl : l.length ≤ 70000) :
    Calls Tryd.prog 23 #[.string (str l)] w fun e w' => e = .returned (.bool (filtB l)) ∧ Below w.heap.size w w' := by
  have HL := Lib.hid hl
  clear hl
  have hcount : (lev l).length ≤ 70001 := by rw [lev_length]; have := List.count_le_length (a := (47 : UInt8)) (l := l); have := HL.out; omega
  have HM := Lib.hid (show ∀ x ∈ lev l, x.length ≤ 70000 from fun x hx => Nat.le_trans (lev_len l x hx) HL.out)
  obtain ⟨M, hM⟩ : ∃ M, filtR (lev l) = M := ⟨_, rfl⟩
  have HR := Lib.hid (show filtB l = (M && mayT l) by rw [← hM, Bool.and_comm]; rfl)
  have HR0 := Lib.hid hM
  have CT := Lib.hid (fun w => r10text_calls w l HL.out)
  obtain ⟨R, hR⟩ : ∃ R, filtB l = R := ⟨_, rfl⟩
  rw [hR] at HR ⊢
  obtain ⟨T, hT⟩ : ∃ T, mayT l = T := ⟨_, rfl⟩
  rw [hT] at HR CT
  clear hM hR hT
  go_enter Tryd.func23, Tryd.ntmps23
  go_wp2_with fail
  refine (r10levels_calls w l HL.out).mono ?_
  rintro e w1 ⟨p, cap, rfl, L2, z1, z2, b2⟩
  have J := Lib.hid (show FilJ10 w p (lev l) M 0 w1 from ⟨L2, z2, b2, HR0.out.symm⟩)
  clear L2 b2 z1 z2 HL HR0
  generalize lev l = ls at *
  go_wp2
  go_loopw [10] (fun i wr => ∃ k : Nat, k ≤ ls.length ∧ i = .int .i64 k ∧ Hid (FilJ10 w p ls M k wr)) (fun i _ => ls.length - (RowKit.intOf i).toNat)
  case atStart => exact ⟨0, by omega, rfl, J⟩
  case round =>
    clear J
    obtain ⟨k, hk, rfl, J⟩ := hrel
    by_cases hlt : k < ls.length
    · obtain ⟨x, hx⟩ : ∃ x, ls[k]? = some x := ⟨_, List.getElem?_eq_getElem hlt⟩
      have hcell := J.out.lv k x hx
      have e1 : (str x).toList = x := str_list x
      have hxl := Lib.hid (HM.out x (List.mem_of_getElem? hx))
      have HX := Lib.hid hx
      clear hx
      cases hs : hasS x with
      | false =>
        have HS := Lib.hid hs
        have HN := Lib.hid (J.out.next HX.out (by rw [hs]; simp))
        clear hs
        go_wp2_with (go_at_call 87; refine (r10signs_calls _ x hxl.out).mono ?_; rw [HS.out]; rintro e w3 ⟨rfl, hw⟩; rw [hw]; clear hw)
        go_round
        case rel => exact ⟨k + 1, by omega, by go_num, HN⟩
        case measure => simp [RowKit.intOf]; omega
      | true =>
        have HS := Lib.hid hs
        clear hs
        by_cases h43 : x = [43]
        · subst h43
          have HN := Lib.hid (J.out.next HX.out rfl)
          go_wp2_with (go_at_call 87; refine (r10signs_calls _ [43] hxl.out).mono ?_; rw [HS.out]; rintro e w3 ⟨rfl, hw⟩; rw [hw]; clear hw)
          go_round
          case rel => exact ⟨k + 1, by omega, by go_num, HN⟩
          case measure => simp [RowKit.intOf]; omega
        · have d43 : (x == [43]) = false := beq_eq_false_iff_ne.2 h43
          by_cases h35 : x = [35]
          · subst h35
            by_cases hla : k + 1 = ls.length
            · have hq : decide ((k : Int) < (ls.length : Int) - 1) = false := by rw [decide_eq_false]; omega
              have HN := Lib.hid (J.out.next HX.out (by rw [List.drop_of_length_le (by omega)]; rfl))
              clear hla
              go_wp2_with (go_at_call 87; refine (r10signs_calls _ [35] hxl.out).mono ?_; rw [HS.out]; rintro e w3 ⟨rfl, hw⟩; rw [hw]; clear hw)
              go_round
              case rel => exact ⟨k + 1, by omega, by go_num, HN⟩
              case measure => simp [RowKit.intOf]; omega
            · have hq : decide ((k : Int) < (ls.length : Int) - 1) = true := by rw [decide_eq_true]; omega
              have HF := Lib.hid (show M = false from by
                have h := J.out.eq
                rw [drop_at HX.out, filtR_step] at h
                cases hd : ls.drop (k + 1) with
                | nil => have := congrArg List.length hd; simp at this; omega
                | cons y r => rw [hd] at h; simpa [hasS] using h)
              have HB := Lib.hid J.out.be
              clear hla
              go_wp2_with (go_at_call 87; refine (r10signs_calls _ [35] hxl.out).mono ?_; rw [HS.out]; rintro e w3 ⟨rfl, hw⟩; rw [hw]; clear hw)
              go_ret
              exact ⟨by rw [HR.out, HF.out]; rfl, HB.out⟩
          · have d35 : (x == [35]) = false := beq_eq_false_iff_ne.2 h35
            have HF := Lib.hid (show M = false from by
              have h := J.out.eq
              rw [drop_at HX.out, filtR_step, d43, d35, HS.out] at h
              exact h)
            have HB := Lib.hid J.out.be
            go_wp2_with (go_at_call 87; refine (r10signs_calls _ x hxl.out).mono ?_; rw [HS.out]; rintro e w3 ⟨rfl, hw⟩; rw [hw]; clear hw)
            go_ret
            exact ⟨by rw [HR.out, HF.out]; rfl, HB.out⟩
    · obtain rfl : k = ls.length := by omega
      have HM1 := Lib.hid (show M = true by have := J.out.eq; rw [List.drop_length] at this; exact this)
      have HB := Lib.hid J.out.be
      go_wp2_with (go_at_call 92; refine (CT.out _).mono ?_; rintro e w3 ⟨rfl, hw⟩; have HW := Lib.hid (HB.out.trans (hw.mono HB.out.size)); clear hw)
      go_ret
      exact ⟨by rw [HR.out, HM1.out, Bool.true_and]; rfl, HW.out⟩

#print axioms r10filter_calls
end Go.Proofs.YtephoadjnmmbnaaDoor
