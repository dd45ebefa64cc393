/-
  The cells of the row. (No statement: facts that the statement's proof uses.)
-/
import Derived.Test.YtnpkiknidmhciaaDoorCards
import Derived.Test.YtnpkiknidmhciaaDoorTie
import Derived.Test.YtnpkiknidmhciaaDoorJFac
import Derived.ProofKit
import Derived.OpenShut
import Derived.ShutString
import Derived.ChangeOld
import Derived.Deep.DeepHandedRow
import Derived.Deep.DeepWitnessRowRef
import Derived.Lib.LaidU8T
import Derived.Lib.LaidTab
import Derived.Lib.LaidIn
import Derived.JoinedCond
namespace Go.Proofs.YtnpkiknidmhciaaDoor.aliasPlays
open Go.ChangeShapes Go.WideShapes Go.ChangeAt Go.RowKit Go.Lib
open Go.ChangeMaps (open_string shut_string)
set_option linter.unusedVariables false

theorem inp : (Rows.aliasPlaysRow.inPlace == Tryd.pinned.checked.prog.inPlace 3) = true := by kernel_rfl
theorem unf : (Rows.aliasPlaysRow.unfollowed == Tryd.pinned.checked.prog.unfollowed 3) = true := by kernel_rfl
theorem rec1 : (Rows.aliasPlaysRow.recurses == Tryd.pinned.checked.prog.recurses 3) = true := by kernel_rfl
theorem named : (Rows.aliasPlaysRow.named == Tryd.pinned.checked.prog.varsNamed 3) = true := by kernel_rfl
theorem goes : false = Rows.aliasPlaysRow.goesBy Tryd.pinned.checked.prog := by kernel_rfl
theorem mk : (Tryd.pinned.checked.prog.make == some Rows.aliasPlaysRow.make) = true := by rw [fac_make0]; kernel_rfl
theorem lf : (Rows.aliasPlaysRow.lifted == Tryd.pinned.checked.prog.liftsFinal) = true := by rw [fac_final]; kernel_rfl
theorem wft : Rows.aliasPlaysRow.wfByText (OpenSpec.ofChange Rows.aliasPlaysSpec) = true := by kernel_rfl
theorem closed : joinedFacts Tryd.pinned.checked.prog 3 Tryd.f3 (OpenSpec.ofChange Rows.aliasPlaysSpec).bare Rows.aliasPlaysRow = true := by
  unfold joinedFacts
  simp only [Bool.and_eq_true]
  repeat' apply And.intro
  all_goals first | (with_reducible exact inp) | (with_reducible exact unf) | (with_reducible exact rec1) | (with_reducible exact named) | (with_reducible exact fac_laid) | (with_reducible exact fac_maps) | (with_reducible exact fac_stops) | (with_reducible exact fac_knobs) | (with_reducible exact fac_heard) | (with_reducible exact fac_enter) | (with_reducible exact mk) | (with_reducible exact lf) | kernel_rfl
#print axioms closed
end Go.Proofs.YtnpkiknidmhciaaDoor.aliasPlays
