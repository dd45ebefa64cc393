/-
  NARROWER THAN 'FOR EVERY INPUT', by the rows' own cells (each row's printed sentence says how): ConnectReads: laid · ConnectWrites: laid · ConnectBack: laid · ConnectOne: laid · ConnectFlags: laid.
  DERIVED. THE GIVEN ROWS OF THIS SEAT. 5 by the template 'for every input the law returns true; each argument reads behind the call as it read before'; 0 by the template 'total and deterministic' (their statements: YtdhdjkpocdfjbabDoorTotals.lean).
  GIVEN WITH THE SEED: the statements are not yours to turn. If you find one false, say at which input.
  Laid BY PROGRAM, IN A SANDBOX (cutbox-rows.mjs): the forced cells as the released guide's own fill.sh prints them over the translation 7efd35bc355da313… (all of the seat's roots in one cut). By AI agents, Wed Nov 11 2026. No macro, syntax, notation, axiom, sorry.
-/
import Derived.Test.YtdhdjkpocdfjbabDoorChecked
import GoSem.PinnedTables
import GoSem.Claim
import GoSem.ClaimJoined
import GoSem.ClaimMapViews
import Derived.JoinedTies
import Derived.KernelRfl
namespace Go.Proofs.YtdhdjkpocdfjbabDoor
/- THE CELL 'sum', in the pinned program and in every row, IS THE sha256 OF THE DUMP (.gsa) THAT YtdhdjkpocdfjbabDoorProg.lean LOADS. Nothing in Lean hashes anything: it is a label: what it is worth is what the hold of that sum in a sandbox is worth. -/
noncomputable def Tryd.pinned : Pinned := { name := "ytdhdjkpocdfjbabdoor", sum := "7efd35bc355da3138350b4ae734522f622276610b14b5a54a7ba7728e9bca9ed", checked := Tryd.checked }
namespace Rows
def none {H : Type} : Left H := { results := [], args := [] }

/- WHAT THE LISTED PACKAGE-LEVEL VARIABLES READ AS WHEN THE CALL BEGINS. Each datum BY PROGRAM (the guide's laid-datum.mjs) off the statement by which the dump's own 'gosem.cut.vars' lays the variable. In a bare row this is a premise. The card (YtdhdjkpocdfjbabDoorCards.lean) ties it to the program's text. -/
def laid_unicode_utf8_acceptRanges {H : Type} : DataW H := .agg [.agg [.lit (.int .u8 128), .lit (.int .u8 191)], .agg [.lit (.int .u8 160), .lit (.int .u8 191)], .agg [.lit (.int .u8 128), .lit (.int .u8 159)], .agg [.lit (.int .u8 144), .lit (.int .u8 191)], .agg [.lit (.int .u8 128), .lit (.int .u8 143)], .agg [.lit (.int .u8 0), .lit (.int .u8 0)], .agg [.lit (.int .u8 0), .lit (.int .u8 0)], .agg [.lit (.int .u8 0), .lit (.int .u8 0)], .agg [.lit (.int .u8 0), .lit (.int .u8 0)], .agg [.lit (.int .u8 0), .lit (.int .u8 0)], .agg [.lit (.int .u8 0), .lit (.int .u8 0)], .agg [.lit (.int .u8 0), .lit (.int .u8 0)], .agg [.lit (.int .u8 0), .lit (.int .u8 0)], .agg [.lit (.int .u8 0), .lit (.int .u8 0)], .agg [.lit (.int .u8 0), .lit (.int .u8 0)], .agg [.lit (.int .u8 0), .lit (.int .u8 0)]]
/-- One of Go's own tables, pinned by name: the form's constant. -/
def laid_unicode_utf8_first : DataW Unit := Go.Pinned.utf8First

/-- 'switchboardlaw06.ConnectReads': WHATEVER THE INPUT: true; the input reads as it did. -/
def connectReadsSpec : ChangeSpec := { name := "connectReads", fn := fun _ => fun
  | [d] => { results := [.lit (.bool true)], args := [d] }
  | _ => none }
def connectReadsRow : OpenClaim := { program := "ytdhdjkpocdfjbabdoor", sum := "7efd35bc355da3138350b4ae734522f622276610b14b5a54a7ba7728e9bca9ed", func := "switchboard/switchboardlaw06.ConnectReads", spec := "connectReads", inPlace := ["internal/bytealg.IndexByteString"], named := ["unicode/utf8.first", "unicode/utf8.acceptRanges"], apart := false, laid := [("unicode/utf8.acceptRanges", laid_unicode_utf8_acceptRanges), ("unicode/utf8.first", laid_unicode_utf8_first)] }
def ConnectReadsSaid : Prop := connectReadsRow.holds Tryd.pinned (OpenSpec.ofChange connectReadsSpec)

/-- ITS FALSE NEIGHBOUR: 'it returns false'. Refute it at one input. -/
def connectReadsWrong : ChangeSpec := { name := "connectReads", fn := fun _ => fun
  | [d] => { results := [.lit (.bool false)], args := [d] }
  | _ => none }
def ConnectReadsWrongFalsely : Prop := connectReadsRow.holds Tryd.pinned (OpenSpec.ofChange connectReadsWrong)

/-- 'switchboardlaw06.ConnectWrites': WHATEVER THE INPUT: true; the input reads as it did. -/
def connectWritesSpec : ChangeSpec := { name := "connectWrites", fn := fun _ => fun
  | [d1, d2] => { results := [.lit (.bool true)], args := [d1, d2] }
  | _ => none }
def connectWritesRow : OpenClaim := { program := "ytdhdjkpocdfjbabdoor", sum := "7efd35bc355da3138350b4ae734522f622276610b14b5a54a7ba7728e9bca9ed", func := "switchboard/switchboardlaw06.ConnectWrites", spec := "connectWrites", inPlace := ["internal/bytealg.IndexByteString"], named := ["unicode/utf8.first", "unicode/utf8.acceptRanges"], apart := false, laid := [("unicode/utf8.acceptRanges", laid_unicode_utf8_acceptRanges), ("unicode/utf8.first", laid_unicode_utf8_first)] }
def ConnectWritesSaid : Prop := connectWritesRow.holds Tryd.pinned (OpenSpec.ofChange connectWritesSpec)

/-- ITS FALSE NEIGHBOUR: 'it returns false'. Refute it at one input. -/
def connectWritesWrong : ChangeSpec := { name := "connectWrites", fn := fun _ => fun
  | [d1, d2] => { results := [.lit (.bool false)], args := [d1, d2] }
  | _ => none }
def ConnectWritesWrongFalsely : Prop := connectWritesRow.holds Tryd.pinned (OpenSpec.ofChange connectWritesWrong)

/-- 'switchboardlaw06.ConnectBack': WHATEVER THE INPUT: true; the input reads as it did. -/
def connectBackSpec : ChangeSpec := { name := "connectBack", fn := fun _ => fun
  | [d1, d2] => { results := [.lit (.bool true)], args := [d1, d2] }
  | _ => none }
def connectBackRow : OpenClaim := { program := "ytdhdjkpocdfjbabdoor", sum := "7efd35bc355da3138350b4ae734522f622276610b14b5a54a7ba7728e9bca9ed", func := "switchboard/switchboardlaw06.ConnectBack", spec := "connectBack", inPlace := ["internal/bytealg.IndexByteString"], named := ["unicode/utf8.first", "unicode/utf8.acceptRanges"], apart := false, laid := [("unicode/utf8.acceptRanges", laid_unicode_utf8_acceptRanges), ("unicode/utf8.first", laid_unicode_utf8_first)] }
def ConnectBackSaid : Prop := connectBackRow.holds Tryd.pinned (OpenSpec.ofChange connectBackSpec)

/-- ITS FALSE NEIGHBOUR: 'it returns false'. Refute it at one input. -/
def connectBackWrong : ChangeSpec := { name := "connectBack", fn := fun _ => fun
  | [d1, d2] => { results := [.lit (.bool false)], args := [d1, d2] }
  | _ => none }
def ConnectBackWrongFalsely : Prop := connectBackRow.holds Tryd.pinned (OpenSpec.ofChange connectBackWrong)

/-- 'switchboardlaw06.ConnectOne': WHATEVER THE INPUT: true; the input reads as it did. -/
def connectOneSpec : ChangeSpec := { name := "connectOne", fn := fun _ => fun
  | [d] => { results := [.lit (.bool true)], args := [d] }
  | _ => none }
def connectOneRow : OpenClaim := { program := "ytdhdjkpocdfjbabdoor", sum := "7efd35bc355da3138350b4ae734522f622276610b14b5a54a7ba7728e9bca9ed", func := "switchboard/switchboardlaw06.ConnectOne", spec := "connectOne", inPlace := ["internal/bytealg.IndexByteString"], named := ["unicode/utf8.first", "unicode/utf8.acceptRanges"], apart := false, laid := [("unicode/utf8.acceptRanges", laid_unicode_utf8_acceptRanges), ("unicode/utf8.first", laid_unicode_utf8_first)] }
def ConnectOneSaid : Prop := connectOneRow.holds Tryd.pinned (OpenSpec.ofChange connectOneSpec)

/-- ITS FALSE NEIGHBOUR: 'it returns false'. Refute it at one input. -/
def connectOneWrong : ChangeSpec := { name := "connectOne", fn := fun _ => fun
  | [d] => { results := [.lit (.bool false)], args := [d] }
  | _ => none }
def ConnectOneWrongFalsely : Prop := connectOneRow.holds Tryd.pinned (OpenSpec.ofChange connectOneWrong)

/-- 'switchboardlaw06.ConnectFlags': WHATEVER THE INPUT: true; the input reads as it did. -/
def connectFlagsSpec : ChangeSpec := { name := "connectFlags", fn := fun _ => fun
  | [d] => { results := [.lit (.bool true)], args := [d] }
  | _ => none }
def connectFlagsRow : OpenClaim := { program := "ytdhdjkpocdfjbabdoor", sum := "7efd35bc355da3138350b4ae734522f622276610b14b5a54a7ba7728e9bca9ed", func := "switchboard/switchboardlaw06.ConnectFlags", spec := "connectFlags", inPlace := ["internal/bytealg.IndexByteString"], named := ["unicode/utf8.first", "unicode/utf8.acceptRanges"], apart := false, laid := [("unicode/utf8.acceptRanges", laid_unicode_utf8_acceptRanges), ("unicode/utf8.first", laid_unicode_utf8_first)] }
def ConnectFlagsSaid : Prop := connectFlagsRow.holds Tryd.pinned (OpenSpec.ofChange connectFlagsSpec)

/-- ITS FALSE NEIGHBOUR: 'it returns false'. Refute it at one input. -/
def connectFlagsWrong : ChangeSpec := { name := "connectFlags", fn := fun _ => fun
  | [d] => { results := [.lit (.bool false)], args := [d] }
  | _ => none }
def ConnectFlagsWrongFalsely : Prop := connectFlagsRow.holds Tryd.pinned (OpenSpec.ofChange connectFlagsWrong)

/- THE SECOND FORM. 'bulk': how many values and letters a reading holds, each counted each time it is reached (what is shared counts as often as it is met; a slice's spare places count too). A statement '..UptoSaid' is the law's where the arguments, and the package variables that the reading takes, are together of bulk at most 1048576: NARROWER than '..Said'. Prove '..Said' where nothing that the law and all that it calls make is longer than what came in: it says more and counts as full. Else prove '..UptoSaid'. A law counts once. -/
mutual
def uptoBulk {H : Type} : DataW H → Nat
  | .lit (.string bytes) => bytes.length + 1
  | .lit _ => 1
  | .nil => 1
  | .ptr d => uptoBulk d + 1
  | .slice elems spare => uptoBulkAll elems + uptoBulkAll spare + 1
  | .agg parts => uptoBulkAll parts + 1
  | .iface _ d => uptoBulk d + 1
  | .map entries => uptoBulkEntries entries + 1
  | .held _ => 1
def uptoBulkAll {H : Type} : List (DataW H) → Nat
  | [] => 0
  | d :: r => uptoBulk d + uptoBulkAll r
def uptoBulkEntries {H : Type} : List (Lit × DataW H) → Nat
  | [] => 0
  | x :: r => uptoBulkEntry x + uptoBulkEntries r
def uptoBulkEntry {H : Type} : Lit × DataW H → Nat
  | (.string bytes, d) => bytes.length + uptoBulk d + 1
  | (_, d) => uptoBulk d + 1
 end
def uptoSmall : (H : Type) → List (DataW H) → Bool := fun _ ds => decide (uptoBulkAll ds ≤ 1048576)
def OpenSpec.upto (s : _root_.Go.ChangeSpec) : _root_.Go.OpenSpec := { _root_.Go.OpenSpec.ofChange s with cond := some uptoSmall }

/-- 'switchboardlaw06.ConnectReads', WHERE WHAT IT READS IS OF BULK AT MOST 1048576: true; the input reads as it did. -/
def connectReadsUptoRow : OpenClaim := { program := "ytdhdjkpocdfjbabdoor", sum := "7efd35bc355da3138350b4ae734522f622276610b14b5a54a7ba7728e9bca9ed", func := "switchboard/switchboardlaw06.ConnectReads", spec := "connectReads", inPlace := ["internal/bytealg.IndexByteString"], named := ["unicode/utf8.first", "unicode/utf8.acceptRanges"], apart := false, laid := [("unicode/utf8.acceptRanges", laid_unicode_utf8_acceptRanges), ("unicode/utf8.first", laid_unicode_utf8_first)], narrowed := true }
def ConnectReadsUptoSaid : Prop := connectReadsUptoRow.holds Tryd.pinned (OpenSpec.upto connectReadsSpec)

/-- 'switchboardlaw06.ConnectWrites', WHERE WHAT IT READS IS OF BULK AT MOST 1048576: true; the input reads as it did. -/
def connectWritesUptoRow : OpenClaim := { program := "ytdhdjkpocdfjbabdoor", sum := "7efd35bc355da3138350b4ae734522f622276610b14b5a54a7ba7728e9bca9ed", func := "switchboard/switchboardlaw06.ConnectWrites", spec := "connectWrites", inPlace := ["internal/bytealg.IndexByteString"], named := ["unicode/utf8.first", "unicode/utf8.acceptRanges"], apart := false, laid := [("unicode/utf8.acceptRanges", laid_unicode_utf8_acceptRanges), ("unicode/utf8.first", laid_unicode_utf8_first)], narrowed := true }
def ConnectWritesUptoSaid : Prop := connectWritesUptoRow.holds Tryd.pinned (OpenSpec.upto connectWritesSpec)

/-- 'switchboardlaw06.ConnectBack', WHERE WHAT IT READS IS OF BULK AT MOST 1048576: true; the input reads as it did. -/
def connectBackUptoRow : OpenClaim := { program := "ytdhdjkpocdfjbabdoor", sum := "7efd35bc355da3138350b4ae734522f622276610b14b5a54a7ba7728e9bca9ed", func := "switchboard/switchboardlaw06.ConnectBack", spec := "connectBack", inPlace := ["internal/bytealg.IndexByteString"], named := ["unicode/utf8.first", "unicode/utf8.acceptRanges"], apart := false, laid := [("unicode/utf8.acceptRanges", laid_unicode_utf8_acceptRanges), ("unicode/utf8.first", laid_unicode_utf8_first)], narrowed := true }
def ConnectBackUptoSaid : Prop := connectBackUptoRow.holds Tryd.pinned (OpenSpec.upto connectBackSpec)

/-- 'switchboardlaw06.ConnectOne', WHERE WHAT IT READS IS OF BULK AT MOST 1048576: true; the input reads as it did. -/
def connectOneUptoRow : OpenClaim := { program := "ytdhdjkpocdfjbabdoor", sum := "7efd35bc355da3138350b4ae734522f622276610b14b5a54a7ba7728e9bca9ed", func := "switchboard/switchboardlaw06.ConnectOne", spec := "connectOne", inPlace := ["internal/bytealg.IndexByteString"], named := ["unicode/utf8.first", "unicode/utf8.acceptRanges"], apart := false, laid := [("unicode/utf8.acceptRanges", laid_unicode_utf8_acceptRanges), ("unicode/utf8.first", laid_unicode_utf8_first)], narrowed := true }
def ConnectOneUptoSaid : Prop := connectOneUptoRow.holds Tryd.pinned (OpenSpec.upto connectOneSpec)

/-- 'switchboardlaw06.ConnectFlags', WHERE WHAT IT READS IS OF BULK AT MOST 1048576: true; the input reads as it did. -/
def connectFlagsUptoRow : OpenClaim := { program := "ytdhdjkpocdfjbabdoor", sum := "7efd35bc355da3138350b4ae734522f622276610b14b5a54a7ba7728e9bca9ed", func := "switchboard/switchboardlaw06.ConnectFlags", spec := "connectFlags", inPlace := ["internal/bytealg.IndexByteString"], named := ["unicode/utf8.first", "unicode/utf8.acceptRanges"], apart := false, laid := [("unicode/utf8.acceptRanges", laid_unicode_utf8_acceptRanges), ("unicode/utf8.first", laid_unicode_utf8_first)], narrowed := true }
def ConnectFlagsUptoSaid : Prop := connectFlagsUptoRow.holds Tryd.pinned (OpenSpec.upto connectFlagsSpec)

end Rows
end Go.Proofs.YtdhdjkpocdfjbabDoor
