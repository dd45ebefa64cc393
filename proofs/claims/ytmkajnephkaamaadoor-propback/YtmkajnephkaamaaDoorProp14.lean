/-
  Same and Told of layer 3's statements. (No statement: contracts that the proofs of the statements use.)
-/
import Derived.Test.YtmkajnephkaamaaDoorProp12
import Derived.Outline
import Derived.WalkLawsBesides
namespace Go.Proofs.YtmkajnephkaamaaDoor
open Go.RowKit

theorem Tryd.structProp : Tryd.prog.underlying 47 = some (.struct (Tryd.prog.fieldsOf 47)) := by kernel_rfl
theorem Tryd.structRProp : Tryd.prog.underlying 75 = some (.struct (Tryd.prog.fieldsOf 75)) := by kernel_rfl
theorem Tryd.standProp : Tryd.prog.stoodInHeld 47 = false := by kernel_rfl
theorem Tryd.standRProp : Tryd.prog.stoodInHeld 75 = false := by kernel_rfl
theorem Tryd.guardProp : Tryd.prog.eqGuardType Tryd.prog.depth 47 = false := by kernel_rfl
theorem Tryd.guardRProp : Tryd.prog.eqGuardType Tryd.prog.depth 75 = false := by kernel_rfl

set_option maxRecDepth 100000 in
theorem eq_rprop (x : Pr) (w : World) : (Op.equalIn 10000 75 (prV x) (prV x)).run Tryd.prog w = .ok true w := by
  rw [run_equalIn_agg w 9999 75 _ _ Tryd.structRProp Tryd.standRProp]
  simp [Op.eqFields, go_sem]
set_option maxRecDepth 100000 in
theorem eq_prop (x : Pr) (w : World) : (Op.equalIn 10000 47 (prV x) (prV x)).run Tryd.prog w = .ok true w := by
  rw [run_equalIn_agg w 9999 47 _ _ Tryd.structProp Tryd.standProp]
  simp [Op.eqFields, go_sem]
theorem neq_rprop (x : Pr) (w : World) : (binOp .neq 75 (prV x) (prV x)).run Tryd.prog w = .ok (.bool false) w := by
  rw [run_neq_struct, eq_rprop]; rfl
theorem eql_prop (x : Pr) (w : World) : (binOp .eql 47 (prV x) (prV x)).run Tryd.prog w = .ok (.bool true) w := by
  rw [run_eql_struct, eq_prop]; rfl

theorem PropsAt.drewN {w : World} {v : Value} {P : List Pr} (h : PropsAt w v P) (n : Nat) : PropsAt (w.drewN n) v P := h
theorem drewN_below {B : Nat} {a w : World} (h : Below B a w) (n : Nat) : Below B a (w.drewN n) := ⟨h.os, h.tape, h.output, h.size, h.block⟩

set_option maxRecDepth 100000 in
set_option maxHeartbeats 1000000 in
theorem same_calls (w : World) (v u : Value) (P : List Pr) (hv : PropsAt w v P) (hu : PropsAt w u P) (hn : P.length ≤ 1000000) :
    Calls Tryd.prog 13 #[v, u] w fun e w' => e = .returned (.int .i64 0) ∧ Below w.heap.size w w' := by
  obtain ⟨A, cap, rfl, hc⟩ := hv
  obtain ⟨A2, cap2, rfl, hc2⟩ := hu
  have HC := Lib.hid hc
  have HC2 := Lib.hid hc2
  clear hc hc2
  go_enter Tryd.func13, Tryd.ntmps13
  go_wp2
  go_loopw [13] (fun j wr => ∃ k n : Nat, k ≤ P.length ∧ j = .int .i64 k ∧ wr = w.drewN n) (fun j _ => P.length - (intOf j).toNat)
  case atStart => exact ⟨0, 0, by omega, rfl, rfl⟩
  case round =>
    obtain ⟨k, n, hk, rfl, rfl⟩ := hrel
    by_cases hlt : k < P.length
    · obtain ⟨x, hx⟩ : ∃ x, P[k]? = some x := ⟨_, List.getElem?_eq_getElem hlt⟩
      obtain ⟨b, off, hA, hbl, c0, c1, c2, c3⟩ := HC.out k x hx
      obtain ⟨b', off', hA', hbl', d0, d1, d2, d3⟩ := HC2.out k x hx
      subst hA hA'
      have hq := neq_rprop x
      have hltI : (k : Int) < P.length := by omega
      clear HC HC2 hx
      go_wp2_with fail
      go_quiet (fail)
      go_wp2
      go_roundw
      case rel => exact ⟨k + 1, _, by omega, by go_num, rfl⟩
      case measure => simp [intOf]; omega
    · obtain rfl : k = P.length := by omega
      clear HC HC2
      go_wp2
      go_ret
      exact ⟨rfl, drewN_below (Below.refl _ _) n⟩

end Go.Proofs.YtmkajnephkaamaaDoor
