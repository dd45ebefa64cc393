/-
  The document's Text of a publish. (No statement: contracts that the proofs of the statements use.)
-/
import Derived.Test.YtdbocpkeafcmaaaDoorJWri7
namespace Go.Proofs.YtdbocpkeafcmaaaDoor
open Go.RowKit

theorem str_sum (x y : ByteArray) (h : x.size + y.size ≤ 1000000000) : Op.stringOp .add x y = pure (.string (x ++ y)) := by
  unfold Op.stringOp
  dsimp only
  rw [if_neg (by simp [IntKind.max, IntKind.bits, IntKind.signed]; omega)]

set_option maxRecDepth 100000 in
set_option maxHeartbeats 4000000 in
theorem r7text_calls (w : World) (c : Pb) (va : Option Addr) (vn vc : Nat) (ok : c.ok) (hv : PropsAt w (.slice va vn vc) c.ps) :
    Calls Tryd.prog 63 #[.agg #[.bool c.dup, .bool c.ret, .int .u8 c.q, .int .u32 c.id, .slice va vn vc, .string c.tp, .string c.pl]] w fun e w' => e = .returned (.string (str (pubL c))) ∧ Below w.heap.size w w' := by
  obtain ⟨q0, q1, i0, i1, z1, z2, okp, hpn⟩ := ok
  obtain ⟨D, R, q, i, ps, tp, pl⟩ := c
  dsimp only at *
  have l1 := propsL_len ps okp hpn
  have l2 := datL_len tp z1
  have HV := Lib.hid hv
  have HL0 := Lib.hid (show Loc w 90 w.heap.size #[.bool D, .bool R, .int .u8 q, .int .u32 i, .slice va vn vc, .string tp, .string pl] (w.alloc (.cells #[.bool D, .bool R, .int .u8 q, .int .u32 i, .slice va vn vc, .string tp, .string pl] 90)) from ⟨heap_alloc_new w _, below_one w _, Nat.le_refl _⟩)
  have HD := Lib.hid (show ∀ W, Calls Tryd.prog 128 #[.string tp] W (fun e w' => e = .returned (.string (str (datL tp))) ∧ Below W.heap.size W w') from fun W => r1data_calls W tp z1)
  have HX := Lib.hid (show ∀ W, Below w.heap.size w W → Calls Tryd.prog 129 #[.slice va vn vc] W (fun e w' => e = .returned (.string (str (propsL ps))) ∧ Below W.heap.size W w') from fun W hW => r3text_calls W (.slice va vn vc) ps (HV.out.below hW) okp hpn)
  have KC := Lib.hid (show ∀ V : World, Loc w 90 w.heap.size #[.bool D, .bool R, .int .u8 q, .int .u32 i, .slice va vn vc, .string tp, .string pl] V → V.cell? ⟨w.heap.size, 4, none⟩ = some (.slice va vn vc) ∧ V.cell? ⟨w.heap.size, 6, none⟩ = some (.string pl) from fun V h => by obtain ⟨d0, d1, d2, d3, d4, d5, d6, df⟩ := cells7 h.loc; exact ⟨d4, d6⟩)
  have s1 : (str (datL tp)).size ≤ 65537 := by rw [str_size]; exact l2
  have s2 : (str (propsL ps)).size ≤ 140000004 := by rw [str_size]; exact l1
  have s3 : (str (two i)).size = 2 := by rw [str_size]; rfl
  clear hv
  cases hq : (q != 0)
  · have hq0 : decide (0 < q) = false := by
      have : q = 0 := by simpa using hq
      subst this
      rfl
    have e : str (pubL ⟨D, R, q, i, ps, tp, pl⟩) = str (datL tp) ++ str (propsL ps) ++ pl := by
      unfold pubL
      dsimp only
      rw [hq, if_neg (by simp), List.nil_append, List.append_nil, str_append]
      have := str_append (datL tp ++ propsL ps) pl.data.toList
      rw [← ba_str] at this
      exact this.symm
    rw [e]
    generalize str (datL tp) = SA at *
    generalize str (propsL ps) = SB at *
    have p1 := str_sum SA SB (by omega)
    have p2 := str_sum (SA ++ SB) pl (by rw [ByteArray.size_append]; omega)
    clear e
    go_enter Tryd.func63, Tryd.ntmps63
    go_wp2_with fail
    generalize w.alloc (.cells #[.bool D, .bool R, .int .u8 q, .int .u32 i, .slice va vn vc, .string tp, .string pl] 90) = W0 at *
    refine (HD.out _).mono ?_
    rintro e W1 ⟨rfl, b1⟩
    have HL1 := Lib.hid (HL0.out.below b1)
    obtain ⟨d0, d1, d2, d3, d4, d5, d6, df⟩ := cells7 HL1.out.loc
    clear b1 HL0
    go_wp2_with fail
    clear d0 d1 d2 d3 d4 d5 d6 df
    have HLD := Lib.hid HL1.out.drew
    go_region_held3 (fun V => V.cell? ⟨w.heap.size, 4, none⟩ = some (.slice va vn vc) ∧ V.cell? ⟨w.heap.size, 6, none⟩ = some (.string pl))
      (first | (with_reducible exact KC.out _ HLD.out) | (with_reducible exact KC.out _ HL2.out) | fail)
      (first | (go_at_call 129; (with_reducible refine (HX.out _ HLD.out.bel).mono ?_); rintro e V2 ⟨rfl, b2⟩; have HL2 := Lib.hid (HLD.out.below b2); clear b2))
    all_goals
      go_wp2
      go_ret
      exact ⟨rfl, HL2.out.bel⟩
  · have hq0 : decide (0 < q) = true := by
      have : q ≠ 0 := by simpa using hq
      exact decide_eq_true (by omega)
    have e : str (pubL ⟨D, R, q, i, ps, tp, pl⟩) = str (datL tp) ++ str (two i) ++ str (propsL ps) ++ pl := by
      unfold pubL
      dsimp only
      rw [hq, if_pos rfl, List.nil_append, str_append, str_append]
      have := str_append (datL tp ++ two i ++ propsL ps) pl.data.toList
      rw [← ba_str] at this
      exact this.symm
    rw [e]
    have HW := Lib.hid (show ∀ W, Calls Tryd.prog 130 #[.int .u32 i] W (fun e w' => e = .returned (.string (str (two i))) ∧ Below W.heap.size W w') from fun W => r1two_calls W i i0 i1)
    generalize str (datL tp) = SA at *
    generalize str (propsL ps) = SB at *
    generalize str (two i) = SC at *
    have p0 := str_sum SA SC (by omega)
    have p1 := str_sum (SA ++ SC) SB (by rw [ByteArray.size_append]; omega)
    have p2 := str_sum (SA ++ SC ++ SB) pl (by rw [ByteArray.size_append, ByteArray.size_append]; omega)
    clear e
    go_enter Tryd.func63, Tryd.ntmps63
    go_wp2_with fail
    generalize w.alloc (.cells #[.bool D, .bool R, .int .u8 q, .int .u32 i, .slice va vn vc, .string tp, .string pl] 90) = W0 at *
    refine (HD.out _).mono ?_
    rintro e W1 ⟨rfl, b1⟩
    have HL1 := Lib.hid (HL0.out.below b1)
    obtain ⟨d0, d1, d2, d3, d4, d5, d6, df⟩ := cells7 HL1.out.loc
    clear b1 HL0
    go_wp2_with fail
    clear d0 d1 d2 d3 d4 d5 d6 df
    refine (HW.out _).mono ?_
    rintro e W2 ⟨rfl, b2⟩
    have HL2' := Lib.hid (HL1.out.below b2)
    clear b2 HL1
    go_wp2_with fail
    have HLD := Lib.hid HL2'.out.drew
    go_region_held3 (fun V => V.cell? ⟨w.heap.size, 4, none⟩ = some (.slice va vn vc) ∧ V.cell? ⟨w.heap.size, 6, none⟩ = some (.string pl))
      (first | (with_reducible exact KC.out _ HLD.out) | (with_reducible exact KC.out _ HL2.out) | fail)
      (first | (go_at_call 129; (with_reducible refine (HX.out _ HLD.out.bel).mono ?_); rintro e V2 ⟨rfl, b2⟩; have HL2 := Lib.hid (HLD.out.below b2); clear b2))
    all_goals
      go_wp2
      go_ret
      exact ⟨rfl, HL2.out.bel⟩

#print axioms r7text_calls
end Go.Proofs.YtdbocpkeafcmaaaDoor
