/-
  Filters. (No statement: contracts that the proofs of the statements use.)
-/
import Derived.Test.YtephoadjnmmbnaaDoorJTop3
namespace Go.Proofs.YtephoadjnmmbnaaDoor
open Go.RowKit Go.Lib

def filtB (l : List UInt8) : Bool := mayT l && filtR (lev l)
theorem filtR_step (x : List UInt8) (r : List (List UInt8)) : filtR (x :: r) = (((x == [43] || (x == [35] && r.isEmpty)) || !hasS x) && filtR r) := by
  cases r with
  | nil => simp [filtR]
  | cons y r => simp [filtR]

/-- What holds in Filter's loop. -/
structure FilJ (w : World) (p : Nat) (ls : List (List UInt8)) (R : Bool) (k : Nat) (wr : World) : Prop where
  lv : LevAt wr p ls
  pl : p < wr.heap.size
  be : Below w.heap.size w wr
  eq : R = filtR (ls.drop k)
theorem FilJ.below {w wr w' : World} {p : Nat} {ls : List (List UInt8)} {R : Bool} {k : Nat} (h : FilJ w p ls R k wr) (hb : Below wr.heap.size wr w') : FilJ w p ls R k w' :=
  ⟨h.lv.below hb h.pl, Nat.lt_of_lt_of_le h.pl hb.size, h.be.trans (hb.mono h.be.size), h.eq⟩
theorem FilJ.next {w wr : World} {p : Nat} {ls : List (List UInt8)} {R : Bool} {k : Nat} {x : List UInt8} (h : FilJ w p ls R k wr) (hx : ls[k]? = some x) (ht : ((x == [43] || (x == [35] && (ls.drop (k + 1)).isEmpty)) || !hasS x) = true) : FilJ w p ls R (k + 1) wr :=
  ⟨h.lv, h.pl, h.be, by rw [h.eq, drop_at hx, filtR_step, ht, Bool.true_and]⟩

set_option maxHeartbeats 2000000 in
set_option maxRecDepth 100000 in
theorem filter_calls (w : World) (l : List UInt8) (hl : l.length ≤ 1000000) (hT : T10 w) :
    Calls Tryd.prog 22 #[.string (str l)] w fun e w' => e = .returned (.bool (filtB l)) ∧ Below w.heap.size w w' := by
  have c := mayBe_calls w l hl hT
  have HL := Lib.hid hl
  unfold filtB
  cases hm : mayT l with
  | false =>
    rw [hm] at c
    rw [Bool.false_and]
    clear hl
    go_enter Tryd.func22, Tryd.ntmps22
    go_wp2_with (go_at_call 90; refine c.mono ?_; rintro e w' ⟨rfl, hw⟩)
    go_ret
    exact ⟨rfl, hw⟩
  | true =>
    rw [hm] at c
    rw [Bool.true_and]
    clear hl
    have hcount : (lev l).length ≤ 32 := by
      rw [lev_length]
      simp only [mayT, Bool.and_eq_true, decide_eq_true_eq] at hm
      omega
    have hmem : ∀ x ∈ lev l, x.length ≤ 1000000 := fun x hx => Nat.le_trans (lev_len l x hx) HL.out
    have HM := Lib.hid hmem
    clear hmem hm
    obtain ⟨R, hR⟩ : ∃ R, filtR (lev l) = R := ⟨_, rfl⟩
    rw [hR]
    have HR0 := Lib.hid hR
    clear hR
    go_enter Tryd.func22, Tryd.ntmps22
    go_wp2_with fail
    refine c.mono ?_
    rintro e w1 ⟨rfl, b1⟩
    go_wp2_with fail
    refine (levels_calls w1 l HL.out (hT.below b1)).mono ?_
    rintro e w2 ⟨rfl, L2, b2, z2⟩
    have J := Lib.hid (show FilJ w w1.heap.size (lev l) R 0 w2 from ⟨L2, z2, b1.trans (b2.mono b1.size), HR0.out.symm⟩)
    clear L2 b2 z2 b1 c HL HR0
    generalize w1.heap.size = p at *
    generalize lev l = ls at *
    go_wp2
    go_loopw [17] (fun i wr => ∃ k : Nat, k ≤ ls.length ∧ i = .int .i64 k ∧ Hid (FilJ w p ls R k wr)) (fun i _ => ls.length - (RowKit.intOf i).toNat)
    case atStart => exact ⟨0, by omega, rfl, J⟩
    case round =>
      clear J
      obtain ⟨k, hk, rfl, J⟩ := hrel
      by_cases hlt : k < ls.length
      · obtain ⟨x, hx⟩ : ∃ x, ls[k]? = some x := ⟨_, List.getElem?_eq_getElem hlt⟩
        have hcell := J.out.lv k x hx
        have e1 : (str x).toList = x := str_list x
        have hxl := Lib.hid (HM.out x (List.mem_of_getElem? hx))
        have HX := Lib.hid hx
        clear hx
        by_cases h43 : x = [43]
        · subst h43
          have HN := Lib.hid (J.out.next HX.out rfl)
          go_wp2
          go_round
          case rel => exact ⟨k + 1, by omega, by go_num, HN⟩
          case measure => simp [RowKit.intOf]; omega
        · have d43 : (x == [43]) = false := beq_eq_false_iff_ne.2 h43
          by_cases h35 : x = [35]
          · subst h35
            by_cases hla : k + 1 = ls.length
            · have hq : ((k : Int) == (ls.length : Int) - 1) = true := by rw [beq_iff_eq]; omega
              have HN := Lib.hid (J.out.next HX.out (by rw [List.drop_of_length_le (by omega)]; rfl))
              clear hla
              go_wp2
              go_round
              case rel => exact ⟨k + 1, by omega, by go_num, HN⟩
              case measure => simp [RowKit.intOf]; omega
            · have hq : ((k : Int) == (ls.length : Int) - 1) = false := by rw [beq_eq_false_iff_ne]; omega
              have HF := Lib.hid (show R = false from by
                have h := J.out.eq
                rw [drop_at HX.out, filtR_step] at h
                cases hd : ls.drop (k + 1) with
                | nil => have := congrArg List.length hd; simp at this; omega
                | cons y r => rw [hd] at h; simpa [hasS] using h)
              clear hla
              go_wp2_with (go_at_call 91; refine (hasSign_calls [35] _ (by decide)).mono ?_; rintro e w3 ⟨rfl, b3⟩; have J3 := Lib.hid (J.out.below b3).be; clear b3)
              go_ret
              exact ⟨by rw [HF.out]; rfl, J3.out⟩
          · have d35 : (x == [35]) = false := beq_eq_false_iff_ne.2 h35
            cases hs : hasS x with
            | true =>
              have HF := Lib.hid (show R = false from by
                have h := J.out.eq
                rw [drop_at HX.out, filtR_step, d43, d35, hs] at h
                exact h)
              have HS := Lib.hid hs
              clear hs
              go_wp2_with (go_at_call 91; refine (hasSign_calls x _ hxl.out).mono ?_; rw [HS.out]; rintro e w3 ⟨rfl, b3⟩; have J3 := Lib.hid (J.out.below b3).be; clear b3)
              go_ret
              exact ⟨by rw [HF.out]; rfl, J3.out⟩
            | false =>
              have HS := Lib.hid hs
              have HN := Lib.hid (J.out.next HX.out (by rw [hs]; simp))
              clear hs
              go_wp2_with (go_at_call 91; refine (hasSign_calls x _ hxl.out).mono ?_; rw [HS.out]; rintro e w3 ⟨rfl, b3⟩; have J3 := Lib.hid (HN.out.below b3); clear b3)
              go_round
              case rel => exact ⟨k + 1, by omega, by go_num, J3⟩
              case measure => simp [RowKit.intOf]; omega
      · obtain rfl : k = ls.length := by omega
        have HR := Lib.hid J.out.eq
        have HB := Lib.hid J.out.be
        go_wp2
        go_ret
        exact ⟨by rw [HR.out, List.drop_length]; rfl, HB.out⟩

#print axioms filter_calls
end Go.Proofs.YtephoadjnmmbnaaDoor
