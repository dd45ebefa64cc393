/-
  The cells of the row. (No statement: facts that the statement's proof uses.)
-/
import Derived.Test.YtacffjimkplieaaDoorCards
import Derived.Test.YtacffjimkplieaaDoorTie
import Derived.Test.YtacffjimkplieaaDoorJFac
import Derived.ProofKit
import Derived.OpenShut
import Derived.ShutString
import Derived.ChangeOld
import Derived.Deep.DeepHandedRow
import Derived.Deep.DeepWitnessRowRef
import Derived.Lib.LaidU8T
import Derived.Lib.LaidTab
import Derived.Lib.LaidIn
import Derived.JoinedCond
namespace Go.Proofs.YtacffjimkplieaaDoor.publishBack
open Go.ChangeShapes Go.WideShapes Go.ChangeAt Go.RowKit Go.Lib
open Go.ChangeMaps (open_string shut_string)
set_option linter.unusedVariables false

theorem inp : (Rows.publishBackRow.inPlace == Tryd.pinned.checked.prog.inPlace 7) = true := by kernel_rfl
theorem unf : (Rows.publishBackRow.unfollowed == Tryd.pinned.checked.prog.unfollowed 7) = true := by kernel_rfl
theorem rec1 : (Rows.publishBackRow.recurses == Tryd.pinned.checked.prog.recurses 7) = true := by kernel_rfl
theorem named : (Rows.publishBackRow.named == Tryd.pinned.checked.prog.varsNamed 7) = true := by kernel_rfl
theorem goes : false = Rows.publishBackRow.goesBy Tryd.pinned.checked.prog := by kernel_rfl
theorem mk : (Tryd.pinned.checked.prog.make == some Rows.publishBackRow.make) = true := by rw [fac_make0]; kernel_rfl
theorem lf : (Rows.publishBackRow.lifted == Tryd.pinned.checked.prog.liftsFinal) = true := by rw [fac_final]; kernel_rfl
theorem wft : Rows.publishBackRow.wfByText (OpenSpec.ofChange Rows.publishBackSpec) = true := by kernel_rfl
theorem closed : joinedFacts Tryd.pinned.checked.prog 7 Tryd.f7 (OpenSpec.ofChange Rows.publishBackSpec).bare Rows.publishBackRow = true := by
  unfold joinedFacts
  simp only [Bool.and_eq_true]
  repeat' apply And.intro
  all_goals first | (with_reducible exact inp) | (with_reducible exact unf) | (with_reducible exact rec1) | (with_reducible exact named) | (with_reducible exact fac_laid) | (with_reducible exact fac_maps) | (with_reducible exact fac_stops) | (with_reducible exact fac_knobs) | (with_reducible exact fac_heard) | (with_reducible exact fac_enter) | (with_reducible exact mk) | (with_reducible exact lf) | kernel_rfl
#print axioms closed
end Go.Proofs.YtacffjimkplieaaDoor.publishBack
