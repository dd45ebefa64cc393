/-
  NARROWER THAN 'FOR EVERY INPUT', by the rows' own cells (each row's printed sentence says how): AliasPlays: laid · AliasLast: laid · AliasNone: laid · AliasRange: laid · AliasMany: laid · ConnectReads: laid · ConnectWrites: laid · ConnectBack: laid · SubscribeReads: laid · SubscribeWrites: laid · SubscribeBack: laid.
  DERIVED. THE GIVEN ROWS OF THIS SEAT. 11 by the template 'for every input the law returns true; each argument reads behind the call as it read before'; 0 by the template 'total and deterministic' (their statements: YtnpkiknidmhciaaDoorTotals.lean).
  GIVEN WITH THE SEED: the statements are not yours to turn. If you find one false, say at which input.
  Laid BY PROGRAM, IN A SANDBOX (cutbox-rows.mjs): the forced cells as the released guide's own fill.sh prints them over the translation 2bde2fa4bcf03dc3… (all of the seat's roots in one cut). By AI agents, Wed Nov 11 2026. No macro, syntax, notation, axiom, sorry.
-/
import Derived.Test.YtnpkiknidmhciaaDoorChecked
import GoSem.PinnedTables
import GoSem.Claim
import GoSem.ClaimJoined
import GoSem.ClaimMapViews
import Derived.JoinedTies
import Derived.KernelRfl
namespace Go.Proofs.YtnpkiknidmhciaaDoor
/- THE CELL 'sum', in the pinned program and in every row, IS THE sha256 OF THE DUMP (.gsa) THAT YtnpkiknidmhciaaDoorProg.lean LOADS. Nothing in Lean hashes anything: it is a label: what it is worth is what the hold of that sum in a sandbox is worth. -/
noncomputable def Tryd.pinned : Pinned := { name := "ytnpkiknidmhciaadoor", sum := "2bde2fa4bcf03dc3e308d7564480c096366069f0beef0ed0a846c50b0ed7b689", checked := Tryd.checked }
namespace Rows
def none {H : Type} : Left H := { results := [], args := [] }

/- WHAT THE LISTED PACKAGE-LEVEL VARIABLES READ AS WHEN THE CALL BEGINS. Each datum BY PROGRAM (the guide's laid-datum.mjs) off the statement by which the dump's own 'gosem.cut.vars' lays the variable. In a bare row this is a premise. The card (YtnpkiknidmhciaaDoorCards.lean) ties it to the program's text. -/
def laid_unicode_utf8_acceptRanges {H : Type} : DataW H := .agg [.agg [.lit (.int .u8 128), .lit (.int .u8 191)], .agg [.lit (.int .u8 160), .lit (.int .u8 191)], .agg [.lit (.int .u8 128), .lit (.int .u8 159)], .agg [.lit (.int .u8 144), .lit (.int .u8 191)], .agg [.lit (.int .u8 128), .lit (.int .u8 143)], .agg [.lit (.int .u8 0), .lit (.int .u8 0)], .agg [.lit (.int .u8 0), .lit (.int .u8 0)], .agg [.lit (.int .u8 0), .lit (.int .u8 0)], .agg [.lit (.int .u8 0), .lit (.int .u8 0)], .agg [.lit (.int .u8 0), .lit (.int .u8 0)], .agg [.lit (.int .u8 0), .lit (.int .u8 0)], .agg [.lit (.int .u8 0), .lit (.int .u8 0)], .agg [.lit (.int .u8 0), .lit (.int .u8 0)], .agg [.lit (.int .u8 0), .lit (.int .u8 0)], .agg [.lit (.int .u8 0), .lit (.int .u8 0)], .agg [.lit (.int .u8 0), .lit (.int .u8 0)]]
/-- One of Go's own tables, pinned by name: the form's constant. -/
def laid_unicode_utf8_first : DataW Unit := Go.Pinned.utf8First

/-- 'switchboardlaw17.AliasPlays': WHATEVER THE INPUT: true; the input reads as it did. -/
def aliasPlaysSpec : ChangeSpec := { name := "aliasPlays", fn := fun _ => fun
  | [d1, d2] => { results := [.lit (.bool true)], args := [d1, d2] }
  | _ => none }
def aliasPlaysRow : OpenClaim := { program := "ytnpkiknidmhciaadoor", sum := "2bde2fa4bcf03dc3e308d7564480c096366069f0beef0ed0a846c50b0ed7b689", func := "switchboard/switchboardlaw17.AliasPlays", spec := "aliasPlays", inPlace := ["internal/bytealg.IndexByteString", "internal/bytealg.CountString", "internal/bytealg.IndexString"], named := ["unicode/utf8.first", "unicode/utf8.acceptRanges", "internal/bytealg.MaxLen"], apart := false, laid := [("unicode/utf8.acceptRanges", laid_unicode_utf8_acceptRanges), ("unicode/utf8.first", laid_unicode_utf8_first)] }
def AliasPlaysSaid : Prop := aliasPlaysRow.holds Tryd.pinned (OpenSpec.ofChange aliasPlaysSpec)

/-- ITS FALSE NEIGHBOUR: 'it returns false'. Refute it at one input. -/
def aliasPlaysWrong : ChangeSpec := { name := "aliasPlays", fn := fun _ => fun
  | [d1, d2] => { results := [.lit (.bool false)], args := [d1, d2] }
  | _ => none }
def AliasPlaysWrongFalsely : Prop := aliasPlaysRow.holds Tryd.pinned (OpenSpec.ofChange aliasPlaysWrong)

/-- 'switchboardlaw17.AliasLast': WHATEVER THE INPUT: true; the input reads as it did. -/
def aliasLastSpec : ChangeSpec := { name := "aliasLast", fn := fun _ => fun
  | [d1, d2, d3] => { results := [.lit (.bool true)], args := [d1, d2, d3] }
  | _ => none }
def aliasLastRow : OpenClaim := { program := "ytnpkiknidmhciaadoor", sum := "2bde2fa4bcf03dc3e308d7564480c096366069f0beef0ed0a846c50b0ed7b689", func := "switchboard/switchboardlaw17.AliasLast", spec := "aliasLast", inPlace := ["internal/bytealg.IndexByteString", "internal/bytealg.CountString", "internal/bytealg.IndexString"], named := ["unicode/utf8.first", "unicode/utf8.acceptRanges", "internal/bytealg.MaxLen"], apart := false, laid := [("unicode/utf8.acceptRanges", laid_unicode_utf8_acceptRanges), ("unicode/utf8.first", laid_unicode_utf8_first)] }
def AliasLastSaid : Prop := aliasLastRow.holds Tryd.pinned (OpenSpec.ofChange aliasLastSpec)

/-- ITS FALSE NEIGHBOUR: 'it returns false'. Refute it at one input. -/
def aliasLastWrong : ChangeSpec := { name := "aliasLast", fn := fun _ => fun
  | [d1, d2, d3] => { results := [.lit (.bool false)], args := [d1, d2, d3] }
  | _ => none }
def AliasLastWrongFalsely : Prop := aliasLastRow.holds Tryd.pinned (OpenSpec.ofChange aliasLastWrong)

/-- 'switchboardlaw17.AliasNone': WHATEVER THE INPUT: true; the input reads as it did. -/
def aliasNoneSpec : ChangeSpec := { name := "aliasNone", fn := fun _ => fun
  | [d1, d2] => { results := [.lit (.bool true)], args := [d1, d2] }
  | _ => none }
def aliasNoneRow : OpenClaim := { program := "ytnpkiknidmhciaadoor", sum := "2bde2fa4bcf03dc3e308d7564480c096366069f0beef0ed0a846c50b0ed7b689", func := "switchboard/switchboardlaw17.AliasNone", spec := "aliasNone", inPlace := ["internal/bytealg.IndexByteString", "internal/bytealg.CountString", "internal/bytealg.IndexString"], named := ["unicode/utf8.first", "unicode/utf8.acceptRanges", "internal/bytealg.MaxLen"], apart := false, laid := [("unicode/utf8.acceptRanges", laid_unicode_utf8_acceptRanges), ("unicode/utf8.first", laid_unicode_utf8_first)] }
def AliasNoneSaid : Prop := aliasNoneRow.holds Tryd.pinned (OpenSpec.ofChange aliasNoneSpec)

/-- ITS FALSE NEIGHBOUR: 'it returns false'. Refute it at one input. -/
def aliasNoneWrong : ChangeSpec := { name := "aliasNone", fn := fun _ => fun
  | [d1, d2] => { results := [.lit (.bool false)], args := [d1, d2] }
  | _ => none }
def AliasNoneWrongFalsely : Prop := aliasNoneRow.holds Tryd.pinned (OpenSpec.ofChange aliasNoneWrong)

/-- 'switchboardlaw17.AliasRange': WHATEVER THE INPUT: true; the input reads as it did. -/
def aliasRangeSpec : ChangeSpec := { name := "aliasRange", fn := fun _ => fun
  | [d1, d2] => { results := [.lit (.bool true)], args := [d1, d2] }
  | _ => none }
def aliasRangeRow : OpenClaim := { program := "ytnpkiknidmhciaadoor", sum := "2bde2fa4bcf03dc3e308d7564480c096366069f0beef0ed0a846c50b0ed7b689", func := "switchboard/switchboardlaw17.AliasRange", spec := "aliasRange", inPlace := ["internal/bytealg.IndexByteString", "internal/bytealg.CountString", "internal/bytealg.IndexString"], named := ["unicode/utf8.first", "unicode/utf8.acceptRanges", "internal/bytealg.MaxLen"], apart := false, laid := [("unicode/utf8.acceptRanges", laid_unicode_utf8_acceptRanges), ("unicode/utf8.first", laid_unicode_utf8_first)] }
def AliasRangeSaid : Prop := aliasRangeRow.holds Tryd.pinned (OpenSpec.ofChange aliasRangeSpec)

/-- ITS FALSE NEIGHBOUR: 'it returns false'. Refute it at one input. -/
def aliasRangeWrong : ChangeSpec := { name := "aliasRange", fn := fun _ => fun
  | [d1, d2] => { results := [.lit (.bool false)], args := [d1, d2] }
  | _ => none }
def AliasRangeWrongFalsely : Prop := aliasRangeRow.holds Tryd.pinned (OpenSpec.ofChange aliasRangeWrong)

/-- 'switchboardlaw17.AliasMany': WHATEVER THE INPUT: true; the input reads as it did. -/
def aliasManySpec : ChangeSpec := { name := "aliasMany", fn := fun _ => fun
  | [d] => { results := [.lit (.bool true)], args := [d] }
  | _ => none }
def aliasManyRow : OpenClaim := { program := "ytnpkiknidmhciaadoor", sum := "2bde2fa4bcf03dc3e308d7564480c096366069f0beef0ed0a846c50b0ed7b689", func := "switchboard/switchboardlaw17.AliasMany", spec := "aliasMany", inPlace := ["internal/bytealg.IndexByteString", "internal/bytealg.CountString", "internal/bytealg.IndexString"], named := ["unicode/utf8.first", "unicode/utf8.acceptRanges", "internal/bytealg.MaxLen"], apart := false, laid := [("unicode/utf8.acceptRanges", laid_unicode_utf8_acceptRanges), ("unicode/utf8.first", laid_unicode_utf8_first)] }
def AliasManySaid : Prop := aliasManyRow.holds Tryd.pinned (OpenSpec.ofChange aliasManySpec)

/-- ITS FALSE NEIGHBOUR: 'it returns false'. Refute it at one input. -/
def aliasManyWrong : ChangeSpec := { name := "aliasMany", fn := fun _ => fun
  | [d] => { results := [.lit (.bool false)], args := [d] }
  | _ => none }
def AliasManyWrongFalsely : Prop := aliasManyRow.holds Tryd.pinned (OpenSpec.ofChange aliasManyWrong)

/-- 'switchboardlaw06.ConnectReads': WHATEVER THE INPUT: true; the input reads as it did. -/
def connectReadsSpec : ChangeSpec := { name := "connectReads", fn := fun _ => fun
  | [d] => { results := [.lit (.bool true)], args := [d] }
  | _ => none }
def connectReadsRow : OpenClaim := { program := "ytnpkiknidmhciaadoor", sum := "2bde2fa4bcf03dc3e308d7564480c096366069f0beef0ed0a846c50b0ed7b689", func := "switchboard/switchboardlaw06.ConnectReads", spec := "connectReads", inPlace := ["internal/bytealg.IndexByteString"], named := ["unicode/utf8.first", "unicode/utf8.acceptRanges"], apart := false, laid := [("unicode/utf8.acceptRanges", laid_unicode_utf8_acceptRanges), ("unicode/utf8.first", laid_unicode_utf8_first)] }
def ConnectReadsSaid : Prop := connectReadsRow.holds Tryd.pinned (OpenSpec.ofChange connectReadsSpec)

/-- ITS FALSE NEIGHBOUR: 'it returns false'. Refute it at one input. -/
def connectReadsWrong : ChangeSpec := { name := "connectReads", fn := fun _ => fun
  | [d] => { results := [.lit (.bool false)], args := [d] }
  | _ => none }
def ConnectReadsWrongFalsely : Prop := connectReadsRow.holds Tryd.pinned (OpenSpec.ofChange connectReadsWrong)

/-- 'switchboardlaw06.ConnectWrites': WHATEVER THE INPUT: true; the input reads as it did. -/
def connectWritesSpec : ChangeSpec := { name := "connectWrites", fn := fun _ => fun
  | [d1, d2] => { results := [.lit (.bool true)], args := [d1, d2] }
  | _ => none }
def connectWritesRow : OpenClaim := { program := "ytnpkiknidmhciaadoor", sum := "2bde2fa4bcf03dc3e308d7564480c096366069f0beef0ed0a846c50b0ed7b689", func := "switchboard/switchboardlaw06.ConnectWrites", spec := "connectWrites", inPlace := ["internal/bytealg.IndexByteString"], named := ["unicode/utf8.first", "unicode/utf8.acceptRanges"], apart := false, laid := [("unicode/utf8.acceptRanges", laid_unicode_utf8_acceptRanges), ("unicode/utf8.first", laid_unicode_utf8_first)] }
def ConnectWritesSaid : Prop := connectWritesRow.holds Tryd.pinned (OpenSpec.ofChange connectWritesSpec)

/-- ITS FALSE NEIGHBOUR: 'it returns false'. Refute it at one input. -/
def connectWritesWrong : ChangeSpec := { name := "connectWrites", fn := fun _ => fun
  | [d1, d2] => { results := [.lit (.bool false)], args := [d1, d2] }
  | _ => none }
def ConnectWritesWrongFalsely : Prop := connectWritesRow.holds Tryd.pinned (OpenSpec.ofChange connectWritesWrong)

/-- 'switchboardlaw06.ConnectBack': WHATEVER THE INPUT: true; the input reads as it did. -/
def connectBackSpec : ChangeSpec := { name := "connectBack", fn := fun _ => fun
  | [d1, d2] => { results := [.lit (.bool true)], args := [d1, d2] }
  | _ => none }
def connectBackRow : OpenClaim := { program := "ytnpkiknidmhciaadoor", sum := "2bde2fa4bcf03dc3e308d7564480c096366069f0beef0ed0a846c50b0ed7b689", func := "switchboard/switchboardlaw06.ConnectBack", spec := "connectBack", inPlace := ["internal/bytealg.IndexByteString"], named := ["unicode/utf8.first", "unicode/utf8.acceptRanges"], apart := false, laid := [("unicode/utf8.acceptRanges", laid_unicode_utf8_acceptRanges), ("unicode/utf8.first", laid_unicode_utf8_first)] }
def ConnectBackSaid : Prop := connectBackRow.holds Tryd.pinned (OpenSpec.ofChange connectBackSpec)

/-- ITS FALSE NEIGHBOUR: 'it returns false'. Refute it at one input. -/
def connectBackWrong : ChangeSpec := { name := "connectBack", fn := fun _ => fun
  | [d1, d2] => { results := [.lit (.bool false)], args := [d1, d2] }
  | _ => none }
def ConnectBackWrongFalsely : Prop := connectBackRow.holds Tryd.pinned (OpenSpec.ofChange connectBackWrong)

/-- 'switchboardlaw08.SubscribeReads': WHATEVER THE INPUT: true; the input reads as it did. -/
def subscribeReadsSpec : ChangeSpec := { name := "subscribeReads", fn := fun _ => fun
  | [d1, d2] => { results := [.lit (.bool true)], args := [d1, d2] }
  | _ => none }
def subscribeReadsRow : OpenClaim := { program := "ytnpkiknidmhciaadoor", sum := "2bde2fa4bcf03dc3e308d7564480c096366069f0beef0ed0a846c50b0ed7b689", func := "switchboard/switchboardlaw08.SubscribeReads", spec := "subscribeReads", inPlace := ["internal/bytealg.IndexByteString"], named := ["unicode/utf8.first", "unicode/utf8.acceptRanges"], apart := false, laid := [("unicode/utf8.acceptRanges", laid_unicode_utf8_acceptRanges), ("unicode/utf8.first", laid_unicode_utf8_first)] }
def SubscribeReadsSaid : Prop := subscribeReadsRow.holds Tryd.pinned (OpenSpec.ofChange subscribeReadsSpec)

/-- ITS FALSE NEIGHBOUR: 'it returns false'. Refute it at one input. -/
def subscribeReadsWrong : ChangeSpec := { name := "subscribeReads", fn := fun _ => fun
  | [d1, d2] => { results := [.lit (.bool false)], args := [d1, d2] }
  | _ => none }
def SubscribeReadsWrongFalsely : Prop := subscribeReadsRow.holds Tryd.pinned (OpenSpec.ofChange subscribeReadsWrong)

/-- 'switchboardlaw08.SubscribeWrites': WHATEVER THE INPUT: true; the input reads as it did. -/
def subscribeWritesSpec : ChangeSpec := { name := "subscribeWrites", fn := fun _ => fun
  | [d1, d2] => { results := [.lit (.bool true)], args := [d1, d2] }
  | _ => none }
def subscribeWritesRow : OpenClaim := { program := "ytnpkiknidmhciaadoor", sum := "2bde2fa4bcf03dc3e308d7564480c096366069f0beef0ed0a846c50b0ed7b689", func := "switchboard/switchboardlaw08.SubscribeWrites", spec := "subscribeWrites", inPlace := ["internal/bytealg.IndexByteString"], named := ["unicode/utf8.first", "unicode/utf8.acceptRanges"], apart := false, laid := [("unicode/utf8.acceptRanges", laid_unicode_utf8_acceptRanges), ("unicode/utf8.first", laid_unicode_utf8_first)] }
def SubscribeWritesSaid : Prop := subscribeWritesRow.holds Tryd.pinned (OpenSpec.ofChange subscribeWritesSpec)

/-- ITS FALSE NEIGHBOUR: 'it returns false'. Refute it at one input. -/
def subscribeWritesWrong : ChangeSpec := { name := "subscribeWrites", fn := fun _ => fun
  | [d1, d2] => { results := [.lit (.bool false)], args := [d1, d2] }
  | _ => none }
def SubscribeWritesWrongFalsely : Prop := subscribeWritesRow.holds Tryd.pinned (OpenSpec.ofChange subscribeWritesWrong)

/-- 'switchboardlaw08.SubscribeBack': WHATEVER THE INPUT: true; the input reads as it did. -/
def subscribeBackSpec : ChangeSpec := { name := "subscribeBack", fn := fun _ => fun
  | [d1, d2] => { results := [.lit (.bool true)], args := [d1, d2] }
  | _ => none }
def subscribeBackRow : OpenClaim := { program := "ytnpkiknidmhciaadoor", sum := "2bde2fa4bcf03dc3e308d7564480c096366069f0beef0ed0a846c50b0ed7b689", func := "switchboard/switchboardlaw08.SubscribeBack", spec := "subscribeBack", inPlace := ["internal/bytealg.IndexByteString"], named := ["unicode/utf8.first", "unicode/utf8.acceptRanges"], apart := false, laid := [("unicode/utf8.acceptRanges", laid_unicode_utf8_acceptRanges), ("unicode/utf8.first", laid_unicode_utf8_first)] }
def SubscribeBackSaid : Prop := subscribeBackRow.holds Tryd.pinned (OpenSpec.ofChange subscribeBackSpec)

/-- ITS FALSE NEIGHBOUR: 'it returns false'. Refute it at one input. -/
def subscribeBackWrong : ChangeSpec := { name := "subscribeBack", fn := fun _ => fun
  | [d1, d2] => { results := [.lit (.bool false)], args := [d1, d2] }
  | _ => none }
def SubscribeBackWrongFalsely : Prop := subscribeBackRow.holds Tryd.pinned (OpenSpec.ofChange subscribeBackWrong)

/- THE SECOND FORM. 'bulk': how many values and letters a reading holds, each counted each time it is reached (what is shared counts as often as it is met; a slice's spare places count too). A statement '..UptoSaid' is the law's where the arguments, and the package variables that the reading takes, are together of bulk at most 1048576: NARROWER than '..Said'. Prove '..Said' where nothing that the law and all that it calls make is longer than what came in: it says more and counts as full. Else prove '..UptoSaid'. A law counts once. -/
mutual
def uptoBulk {H : Type} : DataW H → Nat
  | .lit (.string bytes) => bytes.length + 1
  | .lit _ => 1
  | .nil => 1
  | .ptr d => uptoBulk d + 1
  | .slice elems spare => uptoBulkAll elems + uptoBulkAll spare + 1
  | .agg parts => uptoBulkAll parts + 1
  | .iface _ d => uptoBulk d + 1
  | .map entries => uptoBulkEntries entries + 1
  | .held _ => 1
def uptoBulkAll {H : Type} : List (DataW H) → Nat
  | [] => 0
  | d :: r => uptoBulk d + uptoBulkAll r
def uptoBulkEntries {H : Type} : List (Lit × DataW H) → Nat
  | [] => 0
  | x :: r => uptoBulkEntry x + uptoBulkEntries r
def uptoBulkEntry {H : Type} : Lit × DataW H → Nat
  | (.string bytes, d) => bytes.length + uptoBulk d + 1
  | (_, d) => uptoBulk d + 1
 end
def uptoSmall : (H : Type) → List (DataW H) → Bool := fun _ ds => decide (uptoBulkAll ds ≤ 1048576)
def OpenSpec.upto (s : _root_.Go.ChangeSpec) : _root_.Go.OpenSpec := { _root_.Go.OpenSpec.ofChange s with cond := some uptoSmall }

/-- 'switchboardlaw17.AliasPlays', WHERE WHAT IT READS IS OF BULK AT MOST 1048576: true; the input reads as it did. -/
def aliasPlaysUptoRow : OpenClaim := { program := "ytnpkiknidmhciaadoor", sum := "2bde2fa4bcf03dc3e308d7564480c096366069f0beef0ed0a846c50b0ed7b689", func := "switchboard/switchboardlaw17.AliasPlays", spec := "aliasPlays", inPlace := ["internal/bytealg.IndexByteString", "internal/bytealg.CountString", "internal/bytealg.IndexString"], named := ["unicode/utf8.first", "unicode/utf8.acceptRanges", "internal/bytealg.MaxLen"], apart := false, laid := [("unicode/utf8.acceptRanges", laid_unicode_utf8_acceptRanges), ("unicode/utf8.first", laid_unicode_utf8_first)], narrowed := true }
def AliasPlaysUptoSaid : Prop := aliasPlaysUptoRow.holds Tryd.pinned (OpenSpec.upto aliasPlaysSpec)

/-- 'switchboardlaw17.AliasLast', WHERE WHAT IT READS IS OF BULK AT MOST 1048576: true; the input reads as it did. -/
def aliasLastUptoRow : OpenClaim := { program := "ytnpkiknidmhciaadoor", sum := "2bde2fa4bcf03dc3e308d7564480c096366069f0beef0ed0a846c50b0ed7b689", func := "switchboard/switchboardlaw17.AliasLast", spec := "aliasLast", inPlace := ["internal/bytealg.IndexByteString", "internal/bytealg.CountString", "internal/bytealg.IndexString"], named := ["unicode/utf8.first", "unicode/utf8.acceptRanges", "internal/bytealg.MaxLen"], apart := false, laid := [("unicode/utf8.acceptRanges", laid_unicode_utf8_acceptRanges), ("unicode/utf8.first", laid_unicode_utf8_first)], narrowed := true }
def AliasLastUptoSaid : Prop := aliasLastUptoRow.holds Tryd.pinned (OpenSpec.upto aliasLastSpec)

/-- 'switchboardlaw17.AliasNone', WHERE WHAT IT READS IS OF BULK AT MOST 1048576: true; the input reads as it did. -/
def aliasNoneUptoRow : OpenClaim := { program := "ytnpkiknidmhciaadoor", sum := "2bde2fa4bcf03dc3e308d7564480c096366069f0beef0ed0a846c50b0ed7b689", func := "switchboard/switchboardlaw17.AliasNone", spec := "aliasNone", inPlace := ["internal/bytealg.IndexByteString", "internal/bytealg.CountString", "internal/bytealg.IndexString"], named := ["unicode/utf8.first", "unicode/utf8.acceptRanges", "internal/bytealg.MaxLen"], apart := false, laid := [("unicode/utf8.acceptRanges", laid_unicode_utf8_acceptRanges), ("unicode/utf8.first", laid_unicode_utf8_first)], narrowed := true }
def AliasNoneUptoSaid : Prop := aliasNoneUptoRow.holds Tryd.pinned (OpenSpec.upto aliasNoneSpec)

/-- 'switchboardlaw17.AliasRange', WHERE WHAT IT READS IS OF BULK AT MOST 1048576: true; the input reads as it did. -/
def aliasRangeUptoRow : OpenClaim := { program := "ytnpkiknidmhciaadoor", sum := "2bde2fa4bcf03dc3e308d7564480c096366069f0beef0ed0a846c50b0ed7b689", func := "switchboard/switchboardlaw17.AliasRange", spec := "aliasRange", inPlace := ["internal/bytealg.IndexByteString", "internal/bytealg.CountString", "internal/bytealg.IndexString"], named := ["unicode/utf8.first", "unicode/utf8.acceptRanges", "internal/bytealg.MaxLen"], apart := false, laid := [("unicode/utf8.acceptRanges", laid_unicode_utf8_acceptRanges), ("unicode/utf8.first", laid_unicode_utf8_first)], narrowed := true }
def AliasRangeUptoSaid : Prop := aliasRangeUptoRow.holds Tryd.pinned (OpenSpec.upto aliasRangeSpec)

/-- 'switchboardlaw17.AliasMany', WHERE WHAT IT READS IS OF BULK AT MOST 1048576: true; the input reads as it did. -/
def aliasManyUptoRow : OpenClaim := { program := "ytnpkiknidmhciaadoor", sum := "2bde2fa4bcf03dc3e308d7564480c096366069f0beef0ed0a846c50b0ed7b689", func := "switchboard/switchboardlaw17.AliasMany", spec := "aliasMany", inPlace := ["internal/bytealg.IndexByteString", "internal/bytealg.CountString", "internal/bytealg.IndexString"], named := ["unicode/utf8.first", "unicode/utf8.acceptRanges", "internal/bytealg.MaxLen"], apart := false, laid := [("unicode/utf8.acceptRanges", laid_unicode_utf8_acceptRanges), ("unicode/utf8.first", laid_unicode_utf8_first)], narrowed := true }
def AliasManyUptoSaid : Prop := aliasManyUptoRow.holds Tryd.pinned (OpenSpec.upto aliasManySpec)

/-- 'switchboardlaw06.ConnectReads', WHERE WHAT IT READS IS OF BULK AT MOST 1048576: true; the input reads as it did. -/
def connectReadsUptoRow : OpenClaim := { program := "ytnpkiknidmhciaadoor", sum := "2bde2fa4bcf03dc3e308d7564480c096366069f0beef0ed0a846c50b0ed7b689", func := "switchboard/switchboardlaw06.ConnectReads", spec := "connectReads", inPlace := ["internal/bytealg.IndexByteString"], named := ["unicode/utf8.first", "unicode/utf8.acceptRanges"], apart := false, laid := [("unicode/utf8.acceptRanges", laid_unicode_utf8_acceptRanges), ("unicode/utf8.first", laid_unicode_utf8_first)], narrowed := true }
def ConnectReadsUptoSaid : Prop := connectReadsUptoRow.holds Tryd.pinned (OpenSpec.upto connectReadsSpec)

/-- 'switchboardlaw06.ConnectWrites', WHERE WHAT IT READS IS OF BULK AT MOST 1048576: true; the input reads as it did. -/
def connectWritesUptoRow : OpenClaim := { program := "ytnpkiknidmhciaadoor", sum := "2bde2fa4bcf03dc3e308d7564480c096366069f0beef0ed0a846c50b0ed7b689", func := "switchboard/switchboardlaw06.ConnectWrites", spec := "connectWrites", inPlace := ["internal/bytealg.IndexByteString"], named := ["unicode/utf8.first", "unicode/utf8.acceptRanges"], apart := false, laid := [("unicode/utf8.acceptRanges", laid_unicode_utf8_acceptRanges), ("unicode/utf8.first", laid_unicode_utf8_first)], narrowed := true }
def ConnectWritesUptoSaid : Prop := connectWritesUptoRow.holds Tryd.pinned (OpenSpec.upto connectWritesSpec)

/-- 'switchboardlaw06.ConnectBack', WHERE WHAT IT READS IS OF BULK AT MOST 1048576: true; the input reads as it did. -/
def connectBackUptoRow : OpenClaim := { program := "ytnpkiknidmhciaadoor", sum := "2bde2fa4bcf03dc3e308d7564480c096366069f0beef0ed0a846c50b0ed7b689", func := "switchboard/switchboardlaw06.ConnectBack", spec := "connectBack", inPlace := ["internal/bytealg.IndexByteString"], named := ["unicode/utf8.first", "unicode/utf8.acceptRanges"], apart := false, laid := [("unicode/utf8.acceptRanges", laid_unicode_utf8_acceptRanges), ("unicode/utf8.first", laid_unicode_utf8_first)], narrowed := true }
def ConnectBackUptoSaid : Prop := connectBackUptoRow.holds Tryd.pinned (OpenSpec.upto connectBackSpec)

/-- 'switchboardlaw08.SubscribeReads', WHERE WHAT IT READS IS OF BULK AT MOST 1048576: true; the input reads as it did. -/
def subscribeReadsUptoRow : OpenClaim := { program := "ytnpkiknidmhciaadoor", sum := "2bde2fa4bcf03dc3e308d7564480c096366069f0beef0ed0a846c50b0ed7b689", func := "switchboard/switchboardlaw08.SubscribeReads", spec := "subscribeReads", inPlace := ["internal/bytealg.IndexByteString"], named := ["unicode/utf8.first", "unicode/utf8.acceptRanges"], apart := false, laid := [("unicode/utf8.acceptRanges", laid_unicode_utf8_acceptRanges), ("unicode/utf8.first", laid_unicode_utf8_first)], narrowed := true }
def SubscribeReadsUptoSaid : Prop := subscribeReadsUptoRow.holds Tryd.pinned (OpenSpec.upto subscribeReadsSpec)

/-- 'switchboardlaw08.SubscribeWrites', WHERE WHAT IT READS IS OF BULK AT MOST 1048576: true; the input reads as it did. -/
def subscribeWritesUptoRow : OpenClaim := { program := "ytnpkiknidmhciaadoor", sum := "2bde2fa4bcf03dc3e308d7564480c096366069f0beef0ed0a846c50b0ed7b689", func := "switchboard/switchboardlaw08.SubscribeWrites", spec := "subscribeWrites", inPlace := ["internal/bytealg.IndexByteString"], named := ["unicode/utf8.first", "unicode/utf8.acceptRanges"], apart := false, laid := [("unicode/utf8.acceptRanges", laid_unicode_utf8_acceptRanges), ("unicode/utf8.first", laid_unicode_utf8_first)], narrowed := true }
def SubscribeWritesUptoSaid : Prop := subscribeWritesUptoRow.holds Tryd.pinned (OpenSpec.upto subscribeWritesSpec)

/-- 'switchboardlaw08.SubscribeBack', WHERE WHAT IT READS IS OF BULK AT MOST 1048576: true; the input reads as it did. -/
def subscribeBackUptoRow : OpenClaim := { program := "ytnpkiknidmhciaadoor", sum := "2bde2fa4bcf03dc3e308d7564480c096366069f0beef0ed0a846c50b0ed7b689", func := "switchboard/switchboardlaw08.SubscribeBack", spec := "subscribeBack", inPlace := ["internal/bytealg.IndexByteString"], named := ["unicode/utf8.first", "unicode/utf8.acceptRanges"], apart := false, laid := [("unicode/utf8.acceptRanges", laid_unicode_utf8_acceptRanges), ("unicode/utf8.first", laid_unicode_utf8_first)], narrowed := true }
def SubscribeBackUptoSaid : Prop := subscribeBackUptoRow.holds Tryd.pinned (OpenSpec.upto subscribeBackSpec)

end Rows
end Go.Proofs.YtnpkiknidmhciaaDoor
