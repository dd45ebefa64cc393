/-
  No cell of these rows narrows 'for every input' (looked for: loops, veiled, ifaces, maps, wideKeys, modest, calm, conditions, laid).
  DERIVED. THE GIVEN ROWS OF THIS SEAT. 9 by the template 'for every input the law returns true; each argument reads behind the call as it read before'; 0 by the template 'total and deterministic' (their statements: YticlenpgokajdaaTotals.lean).
  GIVEN WITH THE SEED: the statements are not yours to turn. If you find one false, say at which input.
  Laid BY PROGRAM, IN A SANDBOX (cutbox-rows.mjs): the forced cells as the released guide's own fill.sh prints them over the translation 830224fcba34583a… (all of the seat's roots in one cut). By AI agents, Wed Nov 11 2026. No macro, syntax, notation, axiom, sorry.
-/
import Derived.Test.YticlenpgokajdaaChecked
import GoSem.Claim
import GoSem.ClaimJoined
import GoSem.ClaimMapViews
import Derived.JoinedTies
import Derived.KernelRfl
namespace Go.Proofs.Yticlenpgokajdaa
/- THE CELL 'sum', in the pinned program and in every row, IS THE sha256 OF THE DUMP (.gsa) THAT YticlenpgokajdaaProg.lean LOADS. Nothing in Lean hashes anything: it is a label: what it is worth is what the hold of that sum in a sandbox is worth. -/
noncomputable def Try.pinned : Pinned := { name := "yticlenpgokajdaa", sum := "830224fcba34583a8d03baa19169dc8a519512414709a2b95ea7471315765099", checked := Try.checked }
namespace Rows
def none {H : Type} : Left H := { results := [], args := [] }

/-- 'switchboardlaw13.IdsPlays': WHATEVER THE INPUT: true; the input reads as it did. -/
def idsPlaysSpec : ChangeSpec := { name := "idsPlays", fn := fun _ => fun
  | [d1, d2] => { results := [.lit (.bool true)], args := [d1, d2] }
  | _ => none }
def idsPlaysRow : OpenClaim := { program := "yticlenpgokajdaa", sum := "830224fcba34583a8d03baa19169dc8a519512414709a2b95ea7471315765099", func := "switchboard/switchboardlaw13.IdsPlays", spec := "idsPlays", unfollowed := true, recurses := true, apart := false }
def IdsPlaysSaid : Prop := idsPlaysRow.holds Try.pinned (OpenSpec.ofChange idsPlaysSpec)

/-- ITS FALSE NEIGHBOUR: 'it returns false'. Refute it at one input. -/
def idsPlaysWrong : ChangeSpec := { name := "idsPlays", fn := fun _ => fun
  | [d1, d2] => { results := [.lit (.bool false)], args := [d1, d2] }
  | _ => none }
def IdsPlaysWrongFalsely : Prop := idsPlaysRow.holds Try.pinned (OpenSpec.ofChange idsPlaysWrong)

/-- 'switchboardlaw13.IdsAll': WHATEVER THE INPUT: true; the input reads as it did. -/
def idsAllSpec : ChangeSpec := { name := "idsAll", fn := fun _ => fun
  | [d1, d2] => { results := [.lit (.bool true)], args := [d1, d2] }
  | _ => none }
def idsAllRow : OpenClaim := { program := "yticlenpgokajdaa", sum := "830224fcba34583a8d03baa19169dc8a519512414709a2b95ea7471315765099", func := "switchboard/switchboardlaw13.IdsAll", spec := "idsAll", apart := false }
def IdsAllSaid : Prop := idsAllRow.holds Try.pinned (OpenSpec.ofChange idsAllSpec)

/-- ITS FALSE NEIGHBOUR: 'it returns false'. Refute it at one input. -/
def idsAllWrong : ChangeSpec := { name := "idsAll", fn := fun _ => fun
  | [d1, d2] => { results := [.lit (.bool false)], args := [d1, d2] }
  | _ => none }
def IdsAllWrongFalsely : Prop := idsAllRow.holds Try.pinned (OpenSpec.ofChange idsAllWrong)

/-- 'switchboardlaw13.IdsRound': WHATEVER THE INPUT: true; the input reads as it did. -/
def idsRoundSpec : ChangeSpec := { name := "idsRound", fn := fun _ => fun
  | [d1, d2] => { results := [.lit (.bool true)], args := [d1, d2] }
  | _ => none }
def idsRoundRow : OpenClaim := { program := "yticlenpgokajdaa", sum := "830224fcba34583a8d03baa19169dc8a519512414709a2b95ea7471315765099", func := "switchboard/switchboardlaw13.IdsRound", spec := "idsRound", apart := false }
def IdsRoundSaid : Prop := idsRoundRow.holds Try.pinned (OpenSpec.ofChange idsRoundSpec)

/-- ITS FALSE NEIGHBOUR: 'it returns false'. Refute it at one input. -/
def idsRoundWrong : ChangeSpec := { name := "idsRound", fn := fun _ => fun
  | [d1, d2] => { results := [.lit (.bool false)], args := [d1, d2] }
  | _ => none }
def IdsRoundWrongFalsely : Prop := idsRoundRow.holds Try.pinned (OpenSpec.ofChange idsRoundWrong)

/-- 'switchboardlaw13.IdsGreat': WHATEVER THE INPUT: true; the input reads as it did. -/
def idsGreatSpec : ChangeSpec := { name := "idsGreat", fn := fun _ => fun
  | [d1, d2] => { results := [.lit (.bool true)], args := [d1, d2] }
  | _ => none }
def idsGreatRow : OpenClaim := { program := "yticlenpgokajdaa", sum := "830224fcba34583a8d03baa19169dc8a519512414709a2b95ea7471315765099", func := "switchboard/switchboardlaw13.IdsGreat", spec := "idsGreat", apart := false }
def IdsGreatSaid : Prop := idsGreatRow.holds Try.pinned (OpenSpec.ofChange idsGreatSpec)

/-- ITS FALSE NEIGHBOUR: 'it returns false'. Refute it at one input. -/
def idsGreatWrong : ChangeSpec := { name := "idsGreat", fn := fun _ => fun
  | [d1, d2] => { results := [.lit (.bool false)], args := [d1, d2] }
  | _ => none }
def IdsGreatWrongFalsely : Prop := idsGreatRow.holds Try.pinned (OpenSpec.ofChange idsGreatWrong)

/-- 'switchboardlaw13.IdsHole': WHATEVER THE INPUT: true; the input reads as it did. -/
def idsHoleSpec : ChangeSpec := { name := "idsHole", fn := fun _ => fun
  | [d1, d2, d3] => { results := [.lit (.bool true)], args := [d1, d2, d3] }
  | _ => none }
def idsHoleRow : OpenClaim := { program := "yticlenpgokajdaa", sum := "830224fcba34583a8d03baa19169dc8a519512414709a2b95ea7471315765099", func := "switchboard/switchboardlaw13.IdsHole", spec := "idsHole", apart := false }
def IdsHoleSaid : Prop := idsHoleRow.holds Try.pinned (OpenSpec.ofChange idsHoleSpec)

/-- ITS FALSE NEIGHBOUR: 'it returns false'. Refute it at one input. -/
def idsHoleWrong : ChangeSpec := { name := "idsHole", fn := fun _ => fun
  | [d1, d2, d3] => { results := [.lit (.bool false)], args := [d1, d2, d3] }
  | _ => none }
def IdsHoleWrongFalsely : Prop := idsHoleRow.holds Try.pinned (OpenSpec.ofChange idsHoleWrong)

/-- 'switchboardlaw14.InboundPlays': WHATEVER THE INPUT: true; the input reads as it did. -/
def inboundPlaysSpec : ChangeSpec := { name := "inboundPlays", fn := fun _ => fun
  | [d1, d2] => { results := [.lit (.bool true)], args := [d1, d2] }
  | _ => none }
def inboundPlaysRow : OpenClaim := { program := "yticlenpgokajdaa", sum := "830224fcba34583a8d03baa19169dc8a519512414709a2b95ea7471315765099", func := "switchboard/switchboardlaw14.InboundPlays", spec := "inboundPlays", unfollowed := true, recurses := true, apart := false }
def InboundPlaysSaid : Prop := inboundPlaysRow.holds Try.pinned (OpenSpec.ofChange inboundPlaysSpec)

/-- ITS FALSE NEIGHBOUR: 'it returns false'. Refute it at one input. -/
def inboundPlaysWrong : ChangeSpec := { name := "inboundPlays", fn := fun _ => fun
  | [d1, d2] => { results := [.lit (.bool false)], args := [d1, d2] }
  | _ => none }
def InboundPlaysWrongFalsely : Prop := inboundPlaysRow.holds Try.pinned (OpenSpec.ofChange inboundPlaysWrong)

/-- 'switchboardlaw14.InboundOnce': WHATEVER THE INPUT: true; the input reads as it did. -/
def inboundOnceSpec : ChangeSpec := { name := "inboundOnce", fn := fun _ => fun
  | [d1, d2, d3] => { results := [.lit (.bool true)], args := [d1, d2, d3] }
  | _ => none }
def inboundOnceRow : OpenClaim := { program := "yticlenpgokajdaa", sum := "830224fcba34583a8d03baa19169dc8a519512414709a2b95ea7471315765099", func := "switchboard/switchboardlaw14.InboundOnce", spec := "inboundOnce", apart := false }
def InboundOnceSaid : Prop := inboundOnceRow.holds Try.pinned (OpenSpec.ofChange inboundOnceSpec)

/-- ITS FALSE NEIGHBOUR: 'it returns false'. Refute it at one input. -/
def inboundOnceWrong : ChangeSpec := { name := "inboundOnce", fn := fun _ => fun
  | [d1, d2, d3] => { results := [.lit (.bool false)], args := [d1, d2, d3] }
  | _ => none }
def InboundOnceWrongFalsely : Prop := inboundOnceRow.holds Try.pinned (OpenSpec.ofChange inboundOnceWrong)

/-- 'switchboardlaw14.InboundQuota': WHATEVER THE INPUT: true; the input reads as it did. -/
def inboundQuotaSpec : ChangeSpec := { name := "inboundQuota", fn := fun _ => fun
  | [d1, d2] => { results := [.lit (.bool true)], args := [d1, d2] }
  | _ => none }
def inboundQuotaRow : OpenClaim := { program := "yticlenpgokajdaa", sum := "830224fcba34583a8d03baa19169dc8a519512414709a2b95ea7471315765099", func := "switchboard/switchboardlaw14.InboundQuota", spec := "inboundQuota", apart := false }
def InboundQuotaSaid : Prop := inboundQuotaRow.holds Try.pinned (OpenSpec.ofChange inboundQuotaSpec)

/-- ITS FALSE NEIGHBOUR: 'it returns false'. Refute it at one input. -/
def inboundQuotaWrong : ChangeSpec := { name := "inboundQuota", fn := fun _ => fun
  | [d1, d2] => { results := [.lit (.bool false)], args := [d1, d2] }
  | _ => none }
def InboundQuotaWrongFalsely : Prop := inboundQuotaRow.holds Try.pinned (OpenSpec.ofChange inboundQuotaWrong)

/-- 'switchboardlaw14.InboundRelease': WHATEVER THE INPUT: true; the input reads as it did. -/
def inboundReleaseSpec : ChangeSpec := { name := "inboundRelease", fn := fun _ => fun
  | [d] => { results := [.lit (.bool true)], args := [d] }
  | _ => none }
def inboundReleaseRow : OpenClaim := { program := "yticlenpgokajdaa", sum := "830224fcba34583a8d03baa19169dc8a519512414709a2b95ea7471315765099", func := "switchboard/switchboardlaw14.InboundRelease", spec := "inboundRelease", unfollowed := true, recurses := true, apart := false }
def InboundReleaseSaid : Prop := inboundReleaseRow.holds Try.pinned (OpenSpec.ofChange inboundReleaseSpec)

/-- ITS FALSE NEIGHBOUR: 'it returns false'. Refute it at one input. -/
def inboundReleaseWrong : ChangeSpec := { name := "inboundRelease", fn := fun _ => fun
  | [d] => { results := [.lit (.bool false)], args := [d] }
  | _ => none }
def InboundReleaseWrongFalsely : Prop := inboundReleaseRow.holds Try.pinned (OpenSpec.ofChange inboundReleaseWrong)

/- THE SECOND FORM. 'bulk': how many values and letters a reading holds, each counted each time it is reached (what is shared counts as often as it is met; a slice's spare places count too). A statement '..UptoSaid' is the law's where the arguments, and the package variables that the reading takes, are together of bulk at most 1048576: NARROWER than '..Said'. Prove '..Said' where nothing that the law and all that it calls make is longer than what came in: it says more and counts as full. Else prove '..UptoSaid'. A law counts once. -/
mutual
def uptoBulk {H : Type} : DataW H → Nat
  | .lit (.string bytes) => bytes.length + 1
  | .lit _ => 1
  | .nil => 1
  | .ptr d => uptoBulk d + 1
  | .slice elems spare => uptoBulkAll elems + uptoBulkAll spare + 1
  | .agg parts => uptoBulkAll parts + 1
  | .iface _ d => uptoBulk d + 1
  | .map entries => uptoBulkEntries entries + 1
  | .held _ => 1
def uptoBulkAll {H : Type} : List (DataW H) → Nat
  | [] => 0
  | d :: r => uptoBulk d + uptoBulkAll r
def uptoBulkEntries {H : Type} : List (Lit × DataW H) → Nat
  | [] => 0
  | x :: r => uptoBulkEntry x + uptoBulkEntries r
def uptoBulkEntry {H : Type} : Lit × DataW H → Nat
  | (.string bytes, d) => bytes.length + uptoBulk d + 1
  | (_, d) => uptoBulk d + 1
 end
def uptoSmall : (H : Type) → List (DataW H) → Bool := fun _ ds => decide (uptoBulkAll ds ≤ 1048576)
def OpenSpec.upto (s : _root_.Go.ChangeSpec) : _root_.Go.OpenSpec := { _root_.Go.OpenSpec.ofChange s with cond := some uptoSmall }

/-- 'switchboardlaw13.IdsPlays', WHERE WHAT IT READS IS OF BULK AT MOST 1048576: true; the input reads as it did. -/
def idsPlaysUptoRow : OpenClaim := { program := "yticlenpgokajdaa", sum := "830224fcba34583a8d03baa19169dc8a519512414709a2b95ea7471315765099", func := "switchboard/switchboardlaw13.IdsPlays", spec := "idsPlays", unfollowed := true, recurses := true, apart := false, narrowed := true }
def IdsPlaysUptoSaid : Prop := idsPlaysUptoRow.holds Try.pinned (OpenSpec.upto idsPlaysSpec)

/-- 'switchboardlaw13.IdsAll', WHERE WHAT IT READS IS OF BULK AT MOST 1048576: true; the input reads as it did. -/
def idsAllUptoRow : OpenClaim := { program := "yticlenpgokajdaa", sum := "830224fcba34583a8d03baa19169dc8a519512414709a2b95ea7471315765099", func := "switchboard/switchboardlaw13.IdsAll", spec := "idsAll", apart := false, narrowed := true }
def IdsAllUptoSaid : Prop := idsAllUptoRow.holds Try.pinned (OpenSpec.upto idsAllSpec)

/-- 'switchboardlaw13.IdsRound', WHERE WHAT IT READS IS OF BULK AT MOST 1048576: true; the input reads as it did. -/
def idsRoundUptoRow : OpenClaim := { program := "yticlenpgokajdaa", sum := "830224fcba34583a8d03baa19169dc8a519512414709a2b95ea7471315765099", func := "switchboard/switchboardlaw13.IdsRound", spec := "idsRound", apart := false, narrowed := true }
def IdsRoundUptoSaid : Prop := idsRoundUptoRow.holds Try.pinned (OpenSpec.upto idsRoundSpec)

/-- 'switchboardlaw13.IdsGreat', WHERE WHAT IT READS IS OF BULK AT MOST 1048576: true; the input reads as it did. -/
def idsGreatUptoRow : OpenClaim := { program := "yticlenpgokajdaa", sum := "830224fcba34583a8d03baa19169dc8a519512414709a2b95ea7471315765099", func := "switchboard/switchboardlaw13.IdsGreat", spec := "idsGreat", apart := false, narrowed := true }
def IdsGreatUptoSaid : Prop := idsGreatUptoRow.holds Try.pinned (OpenSpec.upto idsGreatSpec)

/-- 'switchboardlaw13.IdsHole', WHERE WHAT IT READS IS OF BULK AT MOST 1048576: true; the input reads as it did. -/
def idsHoleUptoRow : OpenClaim := { program := "yticlenpgokajdaa", sum := "830224fcba34583a8d03baa19169dc8a519512414709a2b95ea7471315765099", func := "switchboard/switchboardlaw13.IdsHole", spec := "idsHole", apart := false, narrowed := true }
def IdsHoleUptoSaid : Prop := idsHoleUptoRow.holds Try.pinned (OpenSpec.upto idsHoleSpec)

/-- 'switchboardlaw14.InboundPlays', WHERE WHAT IT READS IS OF BULK AT MOST 1048576: true; the input reads as it did. -/
def inboundPlaysUptoRow : OpenClaim := { program := "yticlenpgokajdaa", sum := "830224fcba34583a8d03baa19169dc8a519512414709a2b95ea7471315765099", func := "switchboard/switchboardlaw14.InboundPlays", spec := "inboundPlays", unfollowed := true, recurses := true, apart := false, narrowed := true }
def InboundPlaysUptoSaid : Prop := inboundPlaysUptoRow.holds Try.pinned (OpenSpec.upto inboundPlaysSpec)

/-- 'switchboardlaw14.InboundOnce', WHERE WHAT IT READS IS OF BULK AT MOST 1048576: true; the input reads as it did. -/
def inboundOnceUptoRow : OpenClaim := { program := "yticlenpgokajdaa", sum := "830224fcba34583a8d03baa19169dc8a519512414709a2b95ea7471315765099", func := "switchboard/switchboardlaw14.InboundOnce", spec := "inboundOnce", apart := false, narrowed := true }
def InboundOnceUptoSaid : Prop := inboundOnceUptoRow.holds Try.pinned (OpenSpec.upto inboundOnceSpec)

/-- 'switchboardlaw14.InboundQuota', WHERE WHAT IT READS IS OF BULK AT MOST 1048576: true; the input reads as it did. -/
def inboundQuotaUptoRow : OpenClaim := { program := "yticlenpgokajdaa", sum := "830224fcba34583a8d03baa19169dc8a519512414709a2b95ea7471315765099", func := "switchboard/switchboardlaw14.InboundQuota", spec := "inboundQuota", apart := false, narrowed := true }
def InboundQuotaUptoSaid : Prop := inboundQuotaUptoRow.holds Try.pinned (OpenSpec.upto inboundQuotaSpec)

/-- 'switchboardlaw14.InboundRelease', WHERE WHAT IT READS IS OF BULK AT MOST 1048576: true; the input reads as it did. -/
def inboundReleaseUptoRow : OpenClaim := { program := "yticlenpgokajdaa", sum := "830224fcba34583a8d03baa19169dc8a519512414709a2b95ea7471315765099", func := "switchboard/switchboardlaw14.InboundRelease", spec := "inboundRelease", unfollowed := true, recurses := true, apart := false, narrowed := true }
def InboundReleaseUptoSaid : Prop := inboundReleaseUptoRow.holds Try.pinned (OpenSpec.upto inboundReleaseSpec)

end Rows
end Go.Proofs.Yticlenpgokajdaa
