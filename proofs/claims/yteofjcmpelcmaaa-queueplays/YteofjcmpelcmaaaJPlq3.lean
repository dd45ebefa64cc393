/-
  Is of layer 12's statements. (No statement: contracts that the proofs of the statements use.)
-/
import Derived.Test.YteofjcmpelcmaaaJPlq1
namespace Go.Proofs.Yteofjcmpelcmaaa
open Go.RowKit

set_option maxRecDepth 100000 in
set_option maxHeartbeats 4000000 in
theorem l12is_calls (w : World) (A : Option Addr) (b off cap : Nat) (G : List (Ms × Value)) (b2 off2 cap2 : Nat) (Y : List (Ms × Value)) (n : Nat) (hr : RowQ w A b off cap (cellsQ G)) (hb : b < w.heap.size) (he : ∀ e ∈ G, MsAt w e.1 e.2) (hs : RowS w b2 off2 cap2 Y)
    (hG : G.length = n) (hY : Y.length = n) (hm : G.map Prod.fst = Y.map Prod.fst) (hn : n ≤ 1000000) :
    Calls Try.prog 38 #[.slice A n cap, .slice (some ⟨b2, off2, none⟩) n cap2] w fun e w' => e = .returned (.int .i64 0) ∧ Below w.heap.size w w' := by
  have HR := Lib.hid hr
  have HE := Lib.hid he
  have HS := Lib.hid hs
  have HG := Lib.hid hG
  have HY := Lib.hid hY
  have HM := Lib.hid hm
  clear hr he hs hG hY hm
  go_enter Try.func38, Try.ntmps38
  go_wp2
  go_loopw [13] (fun i wr => ∃ k : Nat, k ≤ n ∧ i = .int .i64 k ∧ Below w.heap.size w wr) (fun i _ => n - (intOf i).toNat)
  case atStart => exact ⟨0, by omega, rfl, Below.refl _ _⟩
  case round =>
    obtain ⟨k, hk, rfl, hbe⟩ := hrel
    by_cases hlt : k < n
    · obtain ⟨⟨f, v⟩, hx⟩ : ∃ x, G[k]? = some x := ⟨_, List.getElem?_eq_getElem (by have := HG.out; omega)⟩
      obtain ⟨⟨f', u⟩, hy⟩ : ∃ x, Y[k]? = some x := ⟨_, List.getElem?_eq_getElem (by have := HY.out; omega)⟩
      have hff : f = f' := by
        have h1 : (G.map Prod.fst)[k]? = some f := by rw [List.getElem?_map, hx]; rfl
        have h2 : (Y.map Prod.fst)[k]? = some f' := by rw [List.getElem?_map, hy]; rfl
        rw [HM.out, h2] at h1
        injection h1 with h1
        exact h1.symm
      subst hff
      have hmx := (HE.out _ (List.mem_of_getElem? hx)).below hbe
      have hmy := (HS.out.each _ (List.mem_of_getElem? hy)).below hbe
      dsimp only at hmx hmy
      obtain ⟨Am, cm, rfl⟩ := hmx.ps.form
      obtain ⟨Au, cu, rfl⟩ := hmy.ps.form
      obtain ⟨hA, hrow⟩ := row_get HR.out hx
      obtain ⟨-, hrow2⟩ := row_get HS.out.row hy
      subst hA
      have hb2 := HS.out.lt
      have a0 := (hbe.cell (p := ⟨_, _, none⟩) hb).trans (hrow 0 (by omega))
      have a1 := (hbe.cell (p := ⟨_, _, none⟩) hb).trans (hrow 1 (by omega))
      have a2 := (hbe.cell (p := ⟨_, _, none⟩) hb).trans (hrow 2 (by omega))
      have a3 := (hbe.cell (p := ⟨_, _, none⟩) hb).trans (hrow 3 (by omega))
      have a4 := (hbe.cell (p := ⟨_, _, none⟩) hb).trans (hrow 4 (by omega))
      have a5 := (hbe.cell (p := ⟨_, _, none⟩) hb).trans (hrow 5 (by omega))
      have a6 := (hbe.cell (p := ⟨_, _, none⟩) hb).trans (hrow 6 (by omega))
      have q0 := (hbe.cell (p := ⟨_, _, none⟩) hb2).trans (hrow2 0 (by omega))
      have q1 := (hbe.cell (p := ⟨_, _, none⟩) hb2).trans (hrow2 1 (by omega))
      have q2 := (hbe.cell (p := ⟨_, _, none⟩) hb2).trans (hrow2 2 (by omega))
      have q3 := (hbe.cell (p := ⟨_, _, none⟩) hb2).trans (hrow2 3 (by omega))
      have q4 := (hbe.cell (p := ⟨_, _, none⟩) hb2).trans (hrow2 4 (by omega))
      have q5 := (hbe.cell (p := ⟨_, _, none⟩) hb2).trans (hrow2 5 (by omega))
      have q6 := (hbe.cell (p := ⟨_, _, none⟩) hb2).trans (hrow2 6 (by omega))
      rw [Nat.add_zero] at a0 q0
      simp only [List.getElem?_cons_zero, List.getElem?_cons_succ] at a0 a1 a2 a3 a4 a5 a6 q0 q1 q2 q3 q4 q5 q6
      have hb2r := Nat.lt_of_lt_of_le hb2 hbe.size
      have HROW := Lib.hid (show ∀ V : World, Below wr.heap.size wr.drew V → V.cell? ⟨b2, off2 + k * 7, none⟩ = some (.string f.src) ∧ V.cell? ⟨b2, off2 + k * 7 + 1, none⟩ = some (.int .i64 f.tick) ∧ V.cell? ⟨b2, off2 + k * 7 + 2, none⟩ = some (.int .u8 f.q) ∧ V.cell? ⟨b2, off2 + k * 7 + 3, none⟩ = some (.bool f.rt) ∧ V.cell? ⟨b2, off2 + k * 7 + 4, none⟩ = some (.slice Au f.ps.length cu) ∧ V.cell? ⟨b2, off2 + k * 7 + 5, none⟩ = some (.string f.tp) ∧ V.cell? ⟨b2, off2 + k * 7 + 6, none⟩ = some (.string f.pl) from fun V hV =>
        ⟨(hV.cell (p := ⟨_, _, none⟩) hb2r).trans q0, (hV.cell (p := ⟨_, _, none⟩) hb2r).trans q1, (hV.cell (p := ⟨_, _, none⟩) hb2r).trans q2, (hV.cell (p := ⟨_, _, none⟩) hb2r).trans q3, (hV.cell (p := ⟨_, _, none⟩) hb2r).trans q4, (hV.cell (p := ⟨_, _, none⟩) hb2r).trans q5, (hV.cell (p := ⟨_, _, none⟩) hb2r).trans q6⟩)
      have HMX := Lib.hid (show MsAt wr.drew f (.slice Am f.ps.length cm) from hmx.below (Below.refl _ _).drew)
      have HMY := Lib.hid (show MsAt wr.drew f (.slice Au f.ps.length cu) from hmy.below (Below.refl _ _).drew)
      have HBE := Lib.hid hbe
      have hkl : (k : Int) < n := by omega
      have HLT := Lib.hid hlt
      clear hrow hrow2 hmx hmy hx hy hbe hb2r hlt
      generalize hnf : f.ps.length = nf at *
      have HNF := Lib.hid hnf
      clear hnf
      go_wp2_with fail
      go_region_law (first
        | (go_simp; go_at_call 32; (with_reducible refine (told12_calls wr.drew f (.slice Am nf cm) HMX.out).mono ?_); rintro e V1 ⟨ta, tn, tc, rfl, hta, hb1⟩; have TA := Lib.hid hta; have B1 := Lib.hid hb1; have MB1 := Lib.hid (HMY.out.below hb1); obtain ⟨e0, e1, e2, e3, e4, e5, e6⟩ := HROW.out V1 hb1; clear hta hb1)
        | (go_simp; go_at_call 33; refine (same12_calls V1 f _ _ TA.out MB1.out.ps HMX.out.len).mono ?_; rintro e V3 ⟨rfl, hb3⟩; have B3 := Lib.hid (Below.next B1.out hb3); clear hb3))
      all_goals
        have HB2 := Lib.hid (Below.next HBE.out (Below.trans ((Below.refl _ _).drew) B3.out))
        clear e0 e1 e2 e3 e4 e5 e6 a0 a1 a2 a3 a4 a5 a6 q0 q1 q2 q3 q4 q5 q6
        go_wp2
        go_roundw
        case rel => exact ⟨k + 1, by omega, by go_num, HB2.out⟩
        case measure => simp [intOf]; omega
    · obtain rfl : k = n := by omega
      have HBE := Lib.hid hbe
      have hkk : ¬ ((k : Int) < k) := by omega
      clear hbe hlt
      go_wp2
      go_ret
      exact ⟨rfl, HBE.out⟩

#print axioms l12is_calls
end Go.Proofs.Yteofjcmpelcmaaa
