/-
  The cells of the row. (No statement: facts that the statement's proof uses.)
-/
import Derived.Test.YtephoadjnmmbnaaDoorCards
import Derived.Test.YtephoadjnmmbnaaDoorTie
import Derived.Test.YtephoadjnmmbnaaDoorJFac
import Derived.ProofKit
import Derived.OpenShut
import Derived.ShutString
import Derived.ChangeOld
import Derived.Deep.DeepHandedRow
import Derived.Deep.DeepWitnessRowRef
import Derived.Lib.LaidU8T
import Derived.Lib.LaidTab
import Derived.Lib.LaidIn
import Derived.JoinedCond
namespace Go.Proofs.YtephoadjnmmbnaaDoor.subscribeAcks
open Go.ChangeShapes Go.WideShapes Go.ChangeAt Go.RowKit Go.Lib
open Go.ChangeMaps (open_string shut_string)
set_option linter.unusedVariables false

theorem inp : (Rows.subscribeAcksRow.inPlace == Tryd.pinned.checked.prog.inPlace 12) = true := by kernel_rfl
theorem unf : (Rows.subscribeAcksRow.unfollowed == Tryd.pinned.checked.prog.unfollowed 12) = true := by kernel_rfl
theorem rec1 : (Rows.subscribeAcksRow.recurses == Tryd.pinned.checked.prog.recurses 12) = true := by kernel_rfl
theorem named : (Rows.subscribeAcksRow.named == Tryd.pinned.checked.prog.varsNamed 12) = true := by kernel_rfl
theorem goes : false = Rows.subscribeAcksRow.goesBy Tryd.pinned.checked.prog := by kernel_rfl
theorem mk : (Tryd.pinned.checked.prog.make == some Rows.subscribeAcksRow.make) = true := by rw [fac_make0]; kernel_rfl
theorem lf : (Rows.subscribeAcksRow.lifted == Tryd.pinned.checked.prog.liftsFinal) = true := by rw [fac_final]; kernel_rfl
theorem wft : Rows.subscribeAcksRow.wfByText (OpenSpec.ofChange Rows.subscribeAcksSpec) = true := by kernel_rfl
theorem closed : joinedFacts Tryd.pinned.checked.prog 12 Tryd.f12 (OpenSpec.ofChange Rows.subscribeAcksSpec).bare Rows.subscribeAcksRow = true := by
  unfold joinedFacts
  simp only [Bool.and_eq_true]
  repeat' apply And.intro
  all_goals first | (with_reducible exact inp) | (with_reducible exact unf) | (with_reducible exact rec1) | (with_reducible exact named) | (with_reducible exact fac_laid) | (with_reducible exact fac_maps) | (with_reducible exact fac_stops) | (with_reducible exact fac_knobs) | (with_reducible exact fac_heard) | (with_reducible exact fac_enter) | (with_reducible exact mk) | (with_reducible exact lf) | kernel_rfl
#print axioms closed
end Go.Proofs.YtephoadjnmmbnaaDoor.subscribeAcks
