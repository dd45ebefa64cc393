/-
  The document's layer 10: shared filters; the law's same. (No statement: contracts that the proofs of the statements use.)
-/
import Derived.Test.YtephoadjnmmbnaaDoorJRt1
import Derived.BigRegion
namespace Go.Proofs.YtephoadjnmmbnaaDoor
open Go.RowKit Go.Lib

/-- What the document's loop makes of a group's part and of what is left. -/
def spR (part rest : List UInt8) : List UInt8 × List UInt8 × Bool :=
  if grpB (part ++ rest.takeWhile (· != 47)) && filtB ((rest.dropWhile (· != 47)).drop 1) then (part ++ rest.takeWhile (· != 47), (rest.dropWhile (· != 47)).drop 1, true) else ([], [], false)
theorem spR_slash (part r : List UInt8) : spR part (47 :: r) = if grpB part && filtB r then (part, r, true) else ([], [], false) := by
  unfold spR
  rw [show (47 :: r : List UInt8).takeWhile (· != 47) = [] from rfl, show ((47 :: r : List UInt8).dropWhile (· != 47)).drop 1 = r from rfl, List.append_nil]
theorem spR_other (part r : List UInt8) (c : UInt8) (h : c ≠ 47) : spR part (c :: r) = spR (part ++ [c]) r := by
  have hb : (c != 47) = true := by simpa using h
  unfold spR
  rw [List.takeWhile_cons_of_pos (p := fun x => x != 47) hb, List.dropWhile_cons_of_pos (p := fun x => x != 47) hb, List.append_assoc]
  rfl
theorem spR_nil (part : List UInt8) : spR part [] = ([], [], false) := by
  unfold spR
  rw [show filtB (([] : List UInt8).dropWhile (· != 47) |>.drop 1) = false from rfl, Bool.and_false]
  rfl
theorem spR_start (l : List UInt8) (h : shareL.isPrefixOf l = true) : splitT l = spR [] (l.drop 7) := by
  unfold splitT spR
  rw [if_pos h, List.nil_append]
theorem pre_share (l : List UInt8) (h : 7 ≤ l.length) : shareL.isPrefixOf l = (l.take 7 == shareL) := by
  match l, h with
  | a :: b :: c :: d :: e :: f :: g :: r, _ =>
    simp only [shareL, List.isPrefixOf, List.take_succ_cons, List.take_zero]
    rw [Bool.eq_iff_iff]
    simp only [Bool.and_eq_true, beq_iff_eq, List.cons.injEq, and_true]
    constructor
    · rintro ⟨h1, h2, h3, h4, h5, h6, h7⟩
      exact ⟨h1.symm, h2.symm, h3.symm, h4.symm, h5.symm, h6.symm, h7.symm⟩
    · rintro ⟨h1, h2, h3, h4, h5, h6, h7⟩
      exact ⟨h1.symm, h2.symm, h3.symm, h4.symm, h5.symm, h6.symm, h7.symm⟩
theorem pre_short (l : List UInt8) (h : l.length < 7) : shareL.isPrefixOf l = false := by
  cases e : shareL.isPrefixOf l with
  | false => rfl
  | true =>
    have := (List.isPrefixOf_iff_prefix.1 e).length_le
    have h7 : shareL.length = 7 := rfl
    omega

set_option maxHeartbeats 2000000 in
set_option maxRecDepth 100000 in
theorem r10split_no (w : World) (l : List UInt8) (hl : l.length ≤ 70000) (hp : shareL.isPrefixOf l = false) :
    Calls Tryd.prog 15 #[.string (str l)] w fun e w' => e = .returned (.tuple #[.string (str []), .string (str l), .bool (filtB l)]) ∧ Below w.heap.size w w' := by
  have c2 := r10filter_calls w l hl
  have hz := str_size l
  generalize filtB l = b at *
  by_cases h7 : l.length < 7
  · have d1 : decide ((l.length : Int) < 7) = true := by rw [decide_eq_true]; omega
    clear hp h7
    go_enter Tryd.func15, Tryd.ntmps15
    go_wp2_with (go_at_call 23; refine c2.mono ?_; rintro e v2 ⟨rfl, hw⟩)
    go_ret3
    exact ⟨rfl, hw⟩
  · have d1 : decide ((l.length : Int) < 7) = false := by rw [decide_eq_false]; omega
    have h7' : 7 ≤ l.length := by omega
    have e1 : (str l).extract 0 7 = str (l.take 7) := by rw [ba_take, str_data]
    have e2 : (str (l.take 7)).toList = l.take 7 := str_list _
    have e3 : (l.take 7 == [36, 115, 104, 97, 114, 101, 47]) = false := by rw [← hp, pre_share l h7']; rfl
    generalize l.take 7 = m at *
    clear hp h7
    go_enter Tryd.func15, Tryd.ntmps15
    go_wp2_with (go_at_call 23; refine c2.mono ?_; rintro e v2 ⟨rfl, hw⟩)
    go_ret3
    exact ⟨rfl, hw⟩

set_option maxHeartbeats 2000000 in
set_option maxRecDepth 100000 in
theorem r10split_yes (w : World) (l : List UInt8) (hl : l.length ≤ 70000) (hp : shareL.isPrefixOf l = true) (R : List UInt8 × List UInt8 × Bool) (hR : spR [] (l.drop 7) = R) :
    Calls Tryd.prog 15 #[.string (str l)] w fun e w' => e = .returned (.tuple #[.string (str R.1), .string (str R.2.1), .bool R.2.2]) ∧ Below w.heap.size w w' := by
  have hz := str_size l
  have h7' : 7 ≤ l.length := by
    rcases Nat.lt_or_ge l.length 7 with h | h
    · rw [pre_short l h] at hp; cases hp
    · exact h
  have d1 : decide ((l.length : Int) < 7) = false := by rw [decide_eq_false]; omega
  have e1 : (str l).extract 0 7 = str (l.take 7) := by rw [ba_take, str_data]
  have e2 : (str (l.take 7)).toList = l.take 7 := str_list _
  have e3 : l.take 7 = [36, 115, 104, 97, 114, 101, 47] := by have := (pre_share l h7').symm.trans hp; exact beq_iff_eq.1 this
  rw [e3] at e1 e2
  have HR := Lib.hid hR
  clear e3 hR hp
  go_enter Tryd.func15, Tryd.ntmps15
  go_wp2
  go_loopw [5, 6] (fun g i wr => ∃ (k : Nat) (part : List UInt8), 7 ≤ k ∧ k ≤ l.length ∧ part.length ≤ k ∧ g = .string (str part) ∧ i = .int .i64 k ∧ wr = w ∧ Hid (spR part (l.drop k) = R)) (fun _ i _ => l.length - (RowKit.intOf i).toNat)
  case atStart => exact ⟨7, [], by omega, by omega, by simp, rfl, rfl, rfl, HR⟩
  case round =>
    clear HR
    obtain ⟨k, part, hk7, hk, hpk, rfl, rfl, rfl, HR⟩ := hrel
    by_cases hlt : k < l.length
    · have hks : k < (str l).size := by omega
      obtain ⟨b, hb⟩ : ∃ b, (str l)[k] = b := ⟨_, rfl⟩
      have hdr := drop_str l k b hks hb
      rw [hdr] at HR
      have hmid := mid_str l k b _ hdr
      have hem := empty_str part
      have hps := str_size part
      clear hdr
      by_cases h1 : b = 47
      · subst h1
        have hr := HR.out
        rw [spR_slash] at hr
        have HR2 := Lib.hid hr
        have e5 : (str l).extract (k + 1) l.length = str (l.drop (k + 1)) := by rw [← hz, ba_drop, str_data]
        have HF := Lib.hid (show (l.drop (k + 1)).length ≤ 70000 by rw [List.length_drop]; omega)
        clear hr HR hmid
        generalize l.drop (k + 1) = F at *
        by_cases hp0 : part = []
        · rw [decide_eq_true hp0] at hem
          have HR3 := Lib.hid (show R = ([], [], false) by rw [← HR2.out, hp0]; rfl)
          clear HR2 hp0
          go_wp2
          go_ret3
          exact ⟨by rw [HR3.out]; rfl, Below.refl _ _⟩
        · rw [decide_eq_false hp0] at hem
          have c1 := fun w => r10signs_calls w part (by omega)
          have c2 := fun w => r2good_calls w part (by omega)
          have c3 := fun w => r10filter_calls w F HF.out
          have HR3 := Lib.hid (show (if (goodB (str part) && !hasS part) && filtB F then (part, F, true) else ([], [], false)) = R by rw [← HR2.out]; simp [grpB, hp0])
          clear HR2 hp0
          generalize goodB (str part) = gb at *
          generalize filtB F = fb at *
          generalize hasS part = sb at *
          cases sb with
          | true =>
            have HR4 := Lib.hid (show R = ([], [], false) by rw [← HR3.out]; simp)
            clear HR3
            go_wp2_with (go_at_call 87; refine (c1 _).mono ?_; rintro e w2 ⟨rfl, hw⟩; rw [hw]; clear hw)
            go_ret3
            exact ⟨by rw [HR4.out]; rfl, Below.refl _ _⟩
          | false =>
            cases gb with
            | false =>
              have HR4 := Lib.hid (show R = ([], [], false) by rw [← HR3.out]; simp)
              clear HR3
              go_wp2_with (first
                | (go_at_call 87; refine (c1 _).mono ?_; rintro e w2 ⟨rfl, hw⟩; rw [hw]; clear hw)
                | (go_at_call 88; refine (c2 _).mono ?_; rintro e w3 ⟨rfl, hw⟩; have B3 := Lib.hid hw; clear hw))
              go_ret3
              exact ⟨by rw [HR4.out]; rfl, B3.out⟩
            | true =>
              cases fb with
              | false =>
                have HR4 := Lib.hid (show R = ([], [], false) by rw [← HR3.out]; simp)
                clear HR3
                go_wp2_with (first
                  | (go_at_call 87; refine (c1 _).mono ?_; rintro e w2 ⟨rfl, hw⟩; rw [hw]; clear hw)
                  | (go_at_call 88; refine (c2 _).mono ?_; rintro e w3 ⟨rfl, hw⟩; have B3 := Lib.hid hw; clear hw)
                  | (go_at_call 23; refine (c3 _).mono ?_; rintro e w4 ⟨rfl, hw⟩; have B4 := Lib.hid (B3.out.trans (hw.mono B3.out.size)); clear hw))
                go_ret3
                exact ⟨by rw [HR4.out]; rfl, B4.out⟩
              | true =>
                have HR4 := Lib.hid (show R = (part, F, true) by rw [← HR3.out]; simp)
                clear HR3
                go_wp2_with (first
                  | (go_at_call 87; refine (c1 _).mono ?_; rintro e w2 ⟨rfl, hw⟩; rw [hw]; clear hw)
                  | (go_at_call 88; refine (c2 _).mono ?_; rintro e w3 ⟨rfl, hw⟩; have B3 := Lib.hid hw; clear hw)
                  | (go_at_call 23; refine (c3 _).mono ?_; rintro e w4 ⟨rfl, hw⟩; have B4 := Lib.hid (B3.out.trans (hw.mono B3.out.size)); clear hw))
                go_ret3
                exact ⟨by rw [HR4.out]; rfl, B4.out⟩
      · have n1 : ((b.toNat : Int) == 47) = false := by rw [beq_eq_false_iff_ne]; intro e; exact h1 (UInt8.toNat_inj.1 (by show _ = (_ : Nat); simp at e ⊢; omega))
        have J9 := Lib.hid (show spR (part ++ [b]) (l.drop (k + 1)) = R by rw [← HR.out, spR_other part _ b h1])
        have hsum : str part ++ str [b] = str (part ++ [b]) := str_append _ _
        have hadd := str_sum10 (str part) (str [b]) (by rw [hps, str_size]; simp; omega)
        rw [hsum] at hadd
        have hlen : (part ++ [b]).length ≤ k + 1 := by simp; omega
        clear HR h1 hsum
        go_wp2
        go_round
        case rel => exact ⟨k + 1, part ++ [b], by omega, by omega, hlen, rfl, by go_num, trivial, J9⟩
        case measure => simp [RowKit.intOf]; omega
    · have hke : k = l.length := by omega
      have HR3 := Lib.hid (show R = ([], [], false) by rw [← HR.out, hke, List.drop_length, spR_nil])
      clear HR
      go_wp2
      go_ret3
      exact ⟨by rw [HR3.out]; rfl, Below.refl _ _⟩

theorem r10split_calls (w : World) (l : List UInt8) (hl : l.length ≤ 70000) :
    Calls Tryd.prog 15 #[.string (str l)] w fun e w' => e = .returned (.tuple #[.string (str (splitT l).1), .string (str (splitT l).2.1), .bool (splitT l).2.2]) ∧ Below w.heap.size w w' := by
  cases hp : shareL.isPrefixOf l with
  | false =>
    have e : splitT l = ([], l, filtB l) := by unfold splitT; rw [hp]; rfl
    rw [e]
    exact r10split_no w l hl hp
  | true => exact r10split_yes w l hl hp _ (spR_start l hp).symm

set_option maxHeartbeats 2000000 in
set_option maxRecDepth 100000 in
theorem same10_calls (w : World) (p q c d : Nat) (ls : List (List UInt8)) (hls : ls.length ≤ 100000) (hp : LevAt w p ls) (hq : LevAt w q ls) (hp0 : p < w.heap.size) (hq0 : q < w.heap.size) :
    Calls Tryd.prog 17 #[.slice (some ⟨p, 0, none⟩) ls.length c, .slice (some ⟨q, 0, none⟩) ls.length d] w fun e w' => e = .returned (.bool true) ∧ Below w.heap.size w w' := by
  have HP := Lib.hid hp
  have HQ := Lib.hid hq
  clear hp hq
  go_enter Tryd.func17, Tryd.ntmps17
  go_wp2
  go_loopw [13] (fun i wr => ∃ k : Nat, k ≤ ls.length ∧ i = .int .i64 k ∧ Hid (Below w.heap.size w wr)) (fun i _ => ls.length - (RowKit.intOf i).toNat)
  case atStart => exact ⟨0, by omega, rfl, Lib.hid (Below.refl _ _)⟩
  case round =>
    obtain ⟨k, hk, rfl, HB⟩ := hrel
    by_cases hlt : k < ls.length
    · obtain ⟨x, hx⟩ : ∃ x, ls[k]? = some x := ⟨_, List.getElem?_eq_getElem hlt⟩
      have c1 := (HP.out.below HB.out hp0) k x hx
      have c2 := (HQ.out.below HB.out hq0) k x hx
      have e1 : (str x).toList = x := str_list x
      have HD := Lib.hid HB.out.drew
      clear hx
      go_wp2
      go_region
      go_wp2
      go_round
      case rel => exact ⟨k + 1, by omega, by go_num, HD⟩
      case measure => simp [RowKit.intOf]; omega
    · obtain rfl : k = ls.length := by omega
      go_wp2
      go_ret
      exact ⟨rfl, HB.out⟩

#print axioms r10split_calls
end Go.Proofs.YtephoadjnmmbnaaDoor
