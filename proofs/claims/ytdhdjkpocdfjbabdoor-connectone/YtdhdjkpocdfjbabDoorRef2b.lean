/-
  The document's sign, string, taken string, as calls. (No statement: contracts that the proofs of the statements use.)
-/
import Derived.Test.YtdhdjkpocdfjbabDoorPure4
import Derived.Deep.QuietTactic
import Derived.BigQuiet
import Derived.RegionCalls
import Derived.Deep.RegionHeld3
namespace Go.Proofs.YtdhdjkpocdfjbabDoor
open Go.RowKit Go.Lib

theorem dec_le4 (l : List UInt8) : (decodeL l).2 ≤ 4 := by
  rw [decodeL_N]
  rcases decodeN_shape l.length (l.getD 0 0).toNat (l.getD 1 0).toNat (l.getD 2 0).toNat (l.getD 3 0).toNat with ⟨c, e⟩ | ⟨c1, c2, c3, cv, e⟩ | ⟨c1, c2, c3, c4, cv, cs, e⟩ | ⟨c1, c2, c3, c4, c5, cv, cw, e⟩ | e
  all_goals (rw [e]; dsimp only; omega)

theorem valL_lt (l : List UInt8) (n : Nat) (h4 : n ≤ 4) : valL l n ≤ 2097151 := by
  have hb := (l.getD 0 0).toNat_lt
  have h1 := Nat.mod_lt (l.getD 1 0).toNat (show 64 > 0 by omega)
  have h2 := Nat.mod_lt (l.getD 2 0).toNat (show 64 > 0 by omega)
  have h3 := Nat.mod_lt (l.getD 3 0).toNat (show 64 > 0 by omega)
  rcases (show n = 0 ∨ n = 1 ∨ n = 2 ∨ n = 3 ∨ n = 4 by omega) with rfl | rfl | rfl | rfl | rfl
  · show (l.getD 0 0).toNat ≤ _; omega
  · show (l.getD 0 0).toNat ≤ _; omega
  · show (l.getD 0 0).toNat % 32 * 64 + (l.getD 1 0).toNat % 64 ≤ _; omega
  · show ((l.getD 0 0).toNat % 16 * 64 + (l.getD 1 0).toNat % 64) * 64 + (l.getD 2 0).toNat % 64 ≤ _; omega
  · show (((l.getD 0 0).toNat % 8 * 64 + (l.getD 1 0).toNat % 64) * 64 + (l.getD 2 0).toNat % 64) * 64 + (l.getD 3 0).toNat % 64 ≤ _; omega

/-- A region that draws, over whatever class of worlds. -/
theorem wp_region_quiet_cls {P : Program} {id : Nat} {Q : Exit → Act → World → Prop} {a : Act} {w : World} {l : List Oper} (C : World → Prop) (hm : P.follows .mixedOrders = true) (hB : Region.lexB .any l.toArray = true) (hC : C w.drew)
    (h : wpQuiet P l.toArray C (fun a' => ∀ w', C w' → Q .normal a' w') l a) : (Code.region id l.toArray true).wp P Q a w :=
  wp_region_quiet (C := C) hm hB hC (by simpa using h)

/-- No sign of less than n bytes stands at the beginning. -/
def NoLess (l : List UInt8) (n : Nat) : Prop := l = [] ∨ Bad l ∨ n ≤ (decodeL l).2

set_option maxRecDepth 100000 in
set_option maxHeartbeats 4000000 in
theorem r2sign_calls (w : World) (l : List UInt8) (hl : l.length ≤ 70000) :
    Calls Tryd.prog 85 #[.string (str l)] w fun e w' => e = .returned (.tuple #[.int .i64 (sgn (str l)).1, .int .i64 (sgn (str l)).2]) ∧ Below w.heap.size w w' := by
  have hz := str_size l
  generalize hS : sgn (str l) = S
  obtain ⟨S1, S2⟩ := S
  have HS := Lib.hid hS
  clear hS
  go_enter Tryd.func85, Tryd.ntmps85
  go_wp2
  go_loopw [4] (fun c wr => ∃ n : Nat, c = .int .i64 n ∧ 1 ≤ n ∧ n ≤ 5 ∧ NoLess l n ∧ Below w.heap.size w wr) (fun c _ => 5 - (RowKit.intOf c).toNat)
  case atStart => exact ⟨1, rfl, by omega, by omega, by unfold NoLess; have := decodeL_width l; exact .inr (.inr this), Below.refl _ _⟩
  case round =>
    obtain ⟨n, rfl, h1, h5, hn, hb⟩ := hrel
    have HN := Lib.hid hn
    have HB := Lib.hid hb
    clear hn hb
    by_cases hc : n ≤ 4 ∧ n ≤ l.length
    · obtain ⟨h4, hln⟩ := hc
      go_wp2_with fail
      refine (value_calls _ l n h1 h4 hln hl).mono ?_
      rintro e w1 ⟨rfl, rfl⟩
      have hvl := valL_lt l n h4
      have hiff := spells_iff l n h1 h4 hln
      rw [show valAcc l (headV l n) (n - 1) = valL l n from rfl]
      have HI := Lib.hid hiff
      have HVD : Hid (¬ Bad l → (decodeL l).2 = n → valL l n = (decodeL l).1) := fun hb hd => val_dec l n h1 h4 hln hb hd
      clear hiff
      have hex : (str l).extract 0 n = str (l.take n) := by rw [ba_take, str_data]
      generalize valL l n = v at *
      have HVL := Lib.hid hvl
      clear hvl
      by_cases he : isSign v ∧ spellL v = l.take n
      · obtain ⟨hs, he⟩ := he
        have hs' : (decide ((v : Int) ≤ 1114111) = true ∧ decide ((v : Int) < 55296) = true) ∨ (decide ((v : Int) ≤ 1114111) = true ∧ decide ((v : Int) < 55296) = false ∧ decide (57343 < (v : Int)) = true) := by
          have hs2 := hs
          unfold isSign at hs2
          simp only [decide_eq_true_eq, decide_eq_false_iff_not]
          omega
        have hq : ((str (spellL v)).toList == (str (l.take n)).toList) = true := by rw [he]; simp
        have hd := HI.out.1 ⟨hs, he⟩
        have hR : S1 = v ∧ S2 = n := by
          have h := HS.out
          have hv := HVD.out hd.1 hd.2
          rw [sgn_str, if_neg (by rintro (h | h); (· rw [h] at hln; simp at hln; omega); exact hd.1 h), ← hd.2] at *
          rw [hv, h]
          exact ⟨rfl, rfl⟩
        have HE := Lib.hid hR
        clear he hd hR HI HVD HS HN hs
        rcases hs' with ⟨d3, d4⟩ | ⟨d3, d4, d5⟩
        all_goals
          go_wp2_with fail
          refine wp_region_quiet_cls (fun wx => Below w.heap.size w wx) (by kernel_rfl) (by kernel_rfl) HB.out.drew ?_
          iterate 18
            refine wpQuiet_step (fun K hK => ?_)
            go_simp
            first
              | (refine hK _ ?_; clear hK K)
              | (apply Exists.intro
                 refine ⟨fun wx hwx => ?_, hK _ ?_⟩
                 · first
                     | exact rfl
                     | exact (spell_calls wx v HVL.out).mono (fun e w2 h => And.intro h.1 (Below.next hwx h.2))
                 clear hK K)
          refine wpQuiet_nil ?_
          intro w2 hb2
          have HB2 := Lib.hid hb2
          clear hb2
          obtain ⟨rfl, rfl⟩ := HE.out
          go_wp2
          go_ret2
          exact ⟨rfl, HB2.out⟩
      · have hn1 : NoLess l (n + 1) := by
          by_cases h0 : l = []
          · exact .inl h0
          by_cases hb : Bad l
          · exact .inr (.inl hb)
          rcases HN.out with h | h | h
          · exact .inl h
          · exact .inr (.inl h)
          · refine .inr (.inr ?_)
            have : (decodeL l).2 ≠ n := fun e => he (HI.out.2 ⟨hb, e⟩)
            omega
        have HN1 := Lib.hid hn1
        have hs' : (decide ((v : Int) ≤ 1114111) = true ∧ decide ((v : Int) < 55296) = true ∧ ((str (spellL v)).toList == (str (l.take n)).toList) = false) ∨ (decide ((v : Int) ≤ 1114111) = true ∧ decide ((v : Int) < 55296) = false ∧ decide (57343 < (v : Int)) = true ∧ ((str (spellL v)).toList == (str (l.take n)).toList) = false) ∨ decide ((v : Int) ≤ 1114111) = false ∨ (decide ((v : Int) ≤ 1114111) = true ∧ decide ((v : Int) < 55296) = false ∧ decide (57343 < (v : Int)) = false) := by
          by_cases hs : isSign v
          · have hne : spellL v ≠ l.take n := fun e => he ⟨hs, e⟩
            have hq : ((str (spellL v)).toList == (str (l.take n)).toList) = false := by
              rw [beq_eq_false_iff_ne]
              intro e
              rw [str_list, str_list] at e
              exact hne e
            have hs2 := hs
            unfold isSign at hs2
            simp only [decide_eq_true_eq, decide_eq_false_iff_not]
            by_cases h : (v : Int) < 55296
            · exact .inl ⟨by omega, h, hq⟩
            · exact .inr (.inl ⟨by omega, h, by omega, hq⟩)
          · unfold isSign at hs
            simp only [decide_eq_true_eq, decide_eq_false_iff_not]
            by_cases h : (v : Int) ≤ 1114111
            · exact .inr (.inr (.inr ⟨h, by omega, by omega⟩))
            · exact .inr (.inr (.inl h))
        clear he hn1 HI HVD HS HN
        rcases hs' with ⟨d3, d4, hq⟩ | ⟨d3, d4, d5, hq⟩ | d3 | ⟨d3, d4, d5⟩
        all_goals
          go_wp2_with fail
          refine wp_region_quiet_cls (fun wx => Below w.heap.size w wx) (by kernel_rfl) (by kernel_rfl) HB.out.drew ?_
          iterate 18
            refine wpQuiet_step (fun K hK => ?_)
            go_simp
            first
              | (refine hK _ ?_; clear hK K)
              | (apply Exists.intro
                 refine ⟨fun wx hwx => ?_, hK _ ?_⟩
                 · first
                     | exact rfl
                     | exact (spell_calls wx v HVL.out).mono (fun e w2 h => And.intro h.1 (Below.next hwx h.2))
                 clear hK K)
          refine wpQuiet_nil ?_
          intro w2 hb2
          have HB2 := Lib.hid hb2
          clear hb2
          go_wp2
          go_roundw
          case rel => exact ⟨n + 1, by go_num, by omega, by omega, HN1.out, HB2.out⟩
          case measure => simp [RowKit.intOf]; omega
    · have hS0 : S1 = 0 ∧ S2 = 0 := by
        have h4 := dec_le4 l
        have he := HS.out
        rw [sgn_str, if_pos] at he
        · injection he with e1 e2; exact ⟨e1.symm, e2.symm⟩
        · rcases HN.out with h | h | h
          · exact .inl h
          · exact .inr h
          · by_cases hne : l = []
            · exact .inl hne
            · have := decodeL_le l hne
              omega
      obtain ⟨rfl, rfl⟩ := hS0
      by_cases h4 : n ≤ 4
      · have h6 : ¬ n ≤ l.length := by omega
        clear hc
        go_wp2
        go_ret2
        exact ⟨rfl, HB.out⟩
      · clear hc
        go_wp2
        go_ret2
        exact ⟨rfl, HB.out⟩

#print axioms r2sign_calls
end Go.Proofs.YtdhdjkpocdfjbabDoor
