/-
  No cell of these rows narrows 'for every input' (looked for: loops, veiled, ifaces, maps, wideKeys, modest, calm, conditions, laid).
  DERIVED. THE GIVEN ROWS OF THIS SEAT. 3 by the template 'for every input the law returns true; each argument reads behind the call as it read before'; 0 by the template 'total and deterministic' (their statements: YtmkajnephkaamabTotals.lean).
  GIVEN WITH THE SEED: the statements are not yours to turn. If you find one false, say at which input.
  Laid BY PROGRAM, IN A SANDBOX (cutbox-rows.mjs): the forced cells as the released guide's own fill.sh prints them over the translation af7a6464884510dc… (all of the seat's roots in one cut). By AI agents, Wed Nov 11 2026. No macro, syntax, notation, axiom, sorry.
-/
import Derived.Test.YtmkajnephkaamabChecked
import GoSem.Claim
import GoSem.ClaimJoined
import GoSem.ClaimMapViews
import Derived.JoinedTies
import Derived.KernelRfl
namespace Go.Proofs.Ytmkajnephkaamab
/- THE CELL 'sum', in the pinned program and in every row, IS THE sha256 OF THE DUMP (.gsa) THAT YtmkajnephkaamabProg.lean LOADS. Nothing in Lean hashes anything: it is a label: what it is worth is what the hold of that sum in a sandbox is worth. -/
noncomputable def Try.pinned : Pinned := { name := "ytmkajnephkaamab", sum := "af7a6464884510dcc489d382fc9ca524c49faca781f66e561e7445803d958837", checked := Try.checked }
namespace Rows
def none {H : Type} : Left H := { results := [], args := [] }

/-- 'switchboardlaw04.ReasonOf': WHATEVER THE INPUT: true; the input reads as it did. -/
def reasonOfSpec : ChangeSpec := { name := "reasonOf", fn := fun _ => fun
  | [d] => { results := [.lit (.bool true)], args := [d] }
  | _ => none }
def reasonOfRow : OpenClaim := { program := "ytmkajnephkaamab", sum := "af7a6464884510dcc489d382fc9ca524c49faca781f66e561e7445803d958837", func := "switchboard/switchboardlaw04.ReasonOf", spec := "reasonOf", inPlace := ["internal/bytealg.IndexByteString"], apart := false }
def ReasonOfSaid : Prop := reasonOfRow.holds Try.pinned (OpenSpec.ofChange reasonOfSpec)

/-- ITS FALSE NEIGHBOUR: 'it returns false'. Refute it at one input. -/
def reasonOfWrong : ChangeSpec := { name := "reasonOf", fn := fun _ => fun
  | [d] => { results := [.lit (.bool false)], args := [d] }
  | _ => none }
def ReasonOfWrongFalsely : Prop := reasonOfRow.holds Try.pinned (OpenSpec.ofChange reasonOfWrong)

/-- 'switchboardlaw04.ReasonApart': WHATEVER THE INPUT: true; the input reads as it did. -/
def reasonApartSpec : ChangeSpec := { name := "reasonApart", fn := fun _ => fun
  | [d1, d2] => { results := [.lit (.bool true)], args := [d1, d2] }
  | _ => none }
def reasonApartRow : OpenClaim := { program := "ytmkajnephkaamab", sum := "af7a6464884510dcc489d382fc9ca524c49faca781f66e561e7445803d958837", func := "switchboard/switchboardlaw04.ReasonApart", spec := "reasonApart", inPlace := ["internal/bytealg.IndexByteString"], apart := false }
def ReasonApartSaid : Prop := reasonApartRow.holds Try.pinned (OpenSpec.ofChange reasonApartSpec)

/-- ITS FALSE NEIGHBOUR: 'it returns false'. Refute it at one input. -/
def reasonApartWrong : ChangeSpec := { name := "reasonApart", fn := fun _ => fun
  | [d1, d2] => { results := [.lit (.bool false)], args := [d1, d2] }
  | _ => none }
def ReasonApartWrongFalsely : Prop := reasonApartRow.holds Try.pinned (OpenSpec.ofChange reasonApartWrong)

/-- 'switchboardlaw04.ReasonZero': WHATEVER THE INPUT: true; the input reads as it did. -/
def reasonZeroSpec : ChangeSpec := { name := "reasonZero", fn := fun _ => fun
  | [d] => { results := [.lit (.bool true)], args := [d] }
  | _ => none }
def reasonZeroRow : OpenClaim := { program := "ytmkajnephkaamab", sum := "af7a6464884510dcc489d382fc9ca524c49faca781f66e561e7445803d958837", func := "switchboard/switchboardlaw04.ReasonZero", spec := "reasonZero", inPlace := ["internal/bytealg.IndexByteString"], apart := false }
def ReasonZeroSaid : Prop := reasonZeroRow.holds Try.pinned (OpenSpec.ofChange reasonZeroSpec)

/-- ITS FALSE NEIGHBOUR: 'it returns false'. Refute it at one input. -/
def reasonZeroWrong : ChangeSpec := { name := "reasonZero", fn := fun _ => fun
  | [d] => { results := [.lit (.bool false)], args := [d] }
  | _ => none }
def ReasonZeroWrongFalsely : Prop := reasonZeroRow.holds Try.pinned (OpenSpec.ofChange reasonZeroWrong)

/- THE SECOND FORM. 'bulk': how many values and letters a reading holds, each counted each time it is reached (what is shared counts as often as it is met; a slice's spare places count too). A statement '..UptoSaid' is the law's where the arguments, and the package variables that the reading takes, are together of bulk at most 1048576: NARROWER than '..Said'. Prove '..Said' where nothing that the law and all that it calls make is longer than what came in: it says more and counts as full. Else prove '..UptoSaid'. A law counts once. -/
mutual
def uptoBulk {H : Type} : DataW H → Nat
  | .lit (.string bytes) => bytes.length + 1
  | .lit _ => 1
  | .nil => 1
  | .ptr d => uptoBulk d + 1
  | .slice elems spare => uptoBulkAll elems + uptoBulkAll spare + 1
  | .agg parts => uptoBulkAll parts + 1
  | .iface _ d => uptoBulk d + 1
  | .map entries => uptoBulkEntries entries + 1
  | .held _ => 1
def uptoBulkAll {H : Type} : List (DataW H) → Nat
  | [] => 0
  | d :: r => uptoBulk d + uptoBulkAll r
def uptoBulkEntries {H : Type} : List (Lit × DataW H) → Nat
  | [] => 0
  | x :: r => uptoBulkEntry x + uptoBulkEntries r
def uptoBulkEntry {H : Type} : Lit × DataW H → Nat
  | (.string bytes, d) => bytes.length + uptoBulk d + 1
  | (_, d) => uptoBulk d + 1
 end
def uptoSmall : (H : Type) → List (DataW H) → Bool := fun _ ds => decide (uptoBulkAll ds ≤ 1048576)
def OpenSpec.upto (s : _root_.Go.ChangeSpec) : _root_.Go.OpenSpec := { _root_.Go.OpenSpec.ofChange s with cond := some uptoSmall }

/-- 'switchboardlaw04.ReasonOf', WHERE WHAT IT READS IS OF BULK AT MOST 1048576: true; the input reads as it did. -/
def reasonOfUptoRow : OpenClaim := { program := "ytmkajnephkaamab", sum := "af7a6464884510dcc489d382fc9ca524c49faca781f66e561e7445803d958837", func := "switchboard/switchboardlaw04.ReasonOf", spec := "reasonOf", inPlace := ["internal/bytealg.IndexByteString"], apart := false, narrowed := true }
def ReasonOfUptoSaid : Prop := reasonOfUptoRow.holds Try.pinned (OpenSpec.upto reasonOfSpec)

/-- 'switchboardlaw04.ReasonApart', WHERE WHAT IT READS IS OF BULK AT MOST 1048576: true; the input reads as it did. -/
def reasonApartUptoRow : OpenClaim := { program := "ytmkajnephkaamab", sum := "af7a6464884510dcc489d382fc9ca524c49faca781f66e561e7445803d958837", func := "switchboard/switchboardlaw04.ReasonApart", spec := "reasonApart", inPlace := ["internal/bytealg.IndexByteString"], apart := false, narrowed := true }
def ReasonApartUptoSaid : Prop := reasonApartUptoRow.holds Try.pinned (OpenSpec.upto reasonApartSpec)

/-- 'switchboardlaw04.ReasonZero', WHERE WHAT IT READS IS OF BULK AT MOST 1048576: true; the input reads as it did. -/
def reasonZeroUptoRow : OpenClaim := { program := "ytmkajnephkaamab", sum := "af7a6464884510dcc489d382fc9ca524c49faca781f66e561e7445803d958837", func := "switchboard/switchboardlaw04.ReasonZero", spec := "reasonZero", inPlace := ["internal/bytealg.IndexByteString"], apart := false, narrowed := true }
def ReasonZeroUptoSaid : Prop := reasonZeroUptoRow.holds Try.pinned (OpenSpec.upto reasonZeroSpec)

end Rows
end Go.Proofs.Ytmkajnephkaamab
