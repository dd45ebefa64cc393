/-
  How many signs, is it a string, as calls. (No statement: contracts that the proofs of the statements use.)
-/
import Derived.Test.YtdhdjkpocdfjbabDoorPure5
import Derived.Test.YtdhdjkpocdfjbabDoorRef2b
namespace Go.Proofs.YtdhdjkpocdfjbabDoor
open Go.RowKit Go.Lib

set_option maxRecDepth 100000 in
set_option maxHeartbeats 2000000 in
theorem r2good_calls (w : World) (l : List UInt8) (hl : l.length ≤ 70000) :
    Calls Tryd.prog 65 #[.string (str l)] w fun e w' => e = .returned (.bool (goodB (str l))) ∧ Below w.heap.size w w' := by
  have hz := str_size l
  by_cases hs : l.length ≤ 65535
  · generalize hG : goodB (str l) = G
    have HG := Lib.hid hG
    clear hG
    go_enter Tryd.func65, Tryd.ntmps65
    go_wp2
    go_loopw [3, 4] (fun a b wr => ∃ (t i : Nat), a = .int .i64 t ∧ b = .int .i64 i ∧ i ≤ t ∧ t ≤ l.length ∧ goodB (str (l.drop t)) = G ∧ Below w.heap.size w wr) (fun a _ _ => 70001 - (RowKit.intOf a).toNat)
    case atStart => exact ⟨0, 0, rfl, rfl, by omega, by omega, HG.out, Below.refl _ _⟩
    case round =>
      obtain ⟨t, i, rfl, rfl, hi, ht, hg, hb⟩ := hrel
      have HB := Lib.hid hb
      clear hb
      by_cases hc : t < l.length
      · have hil : i ≤ l.length := by omega
        have hne : l.drop t ≠ [] := fun e => by have := congrArg List.length e; rw [List.length_drop] at this; simp at this; omega
        have hst := good_step (l.drop t) hne (by rw [List.length_drop]; omega)
        have hle := sgn_le (l.drop t)
        rw [List.length_drop] at hle
        have e1 : (str l).extract t (str l).size = str (l.drop t) := by rw [ba_drop, str_data]
        rw [hz] at e1
        have hm : (l.drop t).length ≤ 70000 := by rw [List.length_drop]; omega
        rw [hg, List.drop_drop] at hst
        have HST := Lib.hid hst
        have HM := Lib.hid hm
        clear hg hst hne hm
        go_wp2_with fail
        refine (r2sign_calls _ (l.drop t) HM.out).mono ?_
        rintro e w2 ⟨rfl, b2⟩
        have B2 := Lib.hid (Below.next HB.out b2)
        clear b2
        generalize sgn (str (l.drop t)) = S at *
        obtain ⟨v, n⟩ := S
        dsimp only at *
        by_cases h0 : n = 0
        · have hG := HST.out
          rw [if_pos (.inl h0)] at hG
          subst hG
          subst h0
          clear HST HG
          go_wp2
          go_ret
          exact ⟨rfl, B2.out⟩
        · by_cases hv : v = 0
          · have hG := HST.out
            rw [if_pos (.inr hv)] at hG
            subst hG
            subst hv
            clear HST HG
            go_wp2
            go_ret
            exact ⟨rfl, B2.out⟩
          · have hG := HST.out
            rw [if_neg (by simp [h0, hv])] at hG
            have HG2 := Lib.hid hG.symm
            have d1 : ((n : Int) == 0) = false := by simp; omega
            have d2 : ((v : Int) == 0) = false := by simp; omega
            clear HST HG hG
            go_wp2
            go_roundw
            case rel => exact ⟨t + n, i + 1, by go_num, by go_num, by omega, by omega, HG2.out, B2.out⟩
            case measure => simp [RowKit.intOf]; omega
      · have hG : G = true := by
          rw [← hg, List.drop_of_length_le (by omega)]
          decide +kernel
        subst hG
        clear hg
        by_cases hil : i ≤ l.length
        · go_wp2
          go_ret
          exact ⟨rfl, HB.out⟩
        · exact absurd (show i ≤ l.length by omega) hil
  · have hG : goodB (str l) = false := by
      cases hg : goodB (str l) with
      | false => rfl
      | true => exact absurd ((good_iff l).1 hg).1 hs
    rw [hG]
    clear hG
    have d1 : decide ((65535 : Int) < (l.length : Int)) = true := by simp; omega
    go_enter Tryd.func65, Tryd.ntmps65
    go_wp2
    go_ret
    exact ⟨rfl, Below.refl _ _⟩

#print axioms r2good_calls
end Go.Proofs.YtdhdjkpocdfjbabDoor
