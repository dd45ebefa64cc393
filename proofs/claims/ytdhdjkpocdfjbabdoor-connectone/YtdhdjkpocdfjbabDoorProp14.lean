/-
  Same and Told of layer 3's statements. (No statement: contracts that the proofs of the statements use.)
-/
import Derived.Test.YtdhdjkpocdfjbabDoorProp12
import Derived.Outline
import Derived.WalkLawsBesides
namespace Go.Proofs.YtdhdjkpocdfjbabDoor
open Go.RowKit

theorem Tryd.structProp : Tryd.prog.underlying 87 = some (.struct (Tryd.prog.fieldsOf 87)) := by kernel_rfl
theorem Tryd.structRProp : Tryd.prog.underlying 88 = some (.struct (Tryd.prog.fieldsOf 88)) := by kernel_rfl
theorem Tryd.standProp : Tryd.prog.stoodInHeld 87 = false := by kernel_rfl
theorem Tryd.standRProp : Tryd.prog.stoodInHeld 88 = false := by kernel_rfl
theorem Tryd.guardProp : Tryd.prog.eqGuardType Tryd.prog.depth 87 = false := by kernel_rfl
theorem Tryd.guardRProp : Tryd.prog.eqGuardType Tryd.prog.depth 88 = false := by kernel_rfl

set_option maxRecDepth 100000 in
theorem eq_rprop (x : Pr) (w : World) : (Op.equalIn 10000 88 (prV x) (prV x)).run Tryd.prog w = .ok true w := by
  rw [run_equalIn_agg w 9999 88 _ _ Tryd.structRProp Tryd.standRProp]
  simp [Op.eqFields, go_sem]
set_option maxRecDepth 100000 in
theorem eq_prop (x : Pr) (w : World) : (Op.equalIn 10000 87 (prV x) (prV x)).run Tryd.prog w = .ok true w := by
  rw [run_equalIn_agg w 9999 87 _ _ Tryd.structProp Tryd.standProp]
  simp [Op.eqFields, go_sem]
theorem neq_rprop (x : Pr) (w : World) : (binOp .neq 88 (prV x) (prV x)).run Tryd.prog w = .ok (.bool false) w := by
  rw [run_neq_struct, eq_rprop]; rfl
theorem eql_prop (x : Pr) (w : World) : (binOp .eql 87 (prV x) (prV x)).run Tryd.prog w = .ok (.bool true) w := by
  rw [run_eql_struct, eq_prop]; rfl

theorem PropsAt.drewN {w : World} {v : Value} {P : List Pr} (h : PropsAt w v P) (n : Nat) : PropsAt (w.drewN n) v P := h
theorem drewN_below {B : Nat} {a w : World} (h : Below B a w) (n : Nat) : Below B a (w.drewN n) := ⟨h.os, h.tape, h.output, h.size, h.block⟩

end Go.Proofs.YtdhdjkpocdfjbabDoor
