/-
  DERIVED. GIVEN WITH THE SEED: THE CARDS: each row of YtdhdjkpocdfjbabDoorRows.lean that lists a variable, with what it lists TIED to the program's text (the seventh form; the later family's looks); each row that meets fmt, with fmt's text TOLD by the authors' own Lean function (tested against real Go, not proved from fmt's source: count such statements apart). THE CARD IS WHAT COUNTS. Prove the row's statement (the work); the ties are given (YtdhdjkpocdfjbabDoorTie.lean); close each card by the builder's one call (the guide's Derived/Test/ToyasCard.lean, 'card_holds'). Laid BY PROGRAM, IN A SANDBOX (cutbox-door.mjs). By AI agents, Wed Nov 11 2026. No macro, syntax, notation, axiom, sorry.
-/
import Derived.Test.YtdhdjkpocdfjbabDoorRows
import GoSem.ClaimSeven
namespace Go.Proofs.YtdhdjkpocdfjbabDoor
namespace Rows

/-- THE TIED CARD OF 'switchboardlaw06.ConnectReads'. -/
def connectReadsCard : Claim7 := { stood := { row := connectReadsRow, standIns := [], harness := (true, "62fa3f2950c62cf07fafeedb451df68d44602f6626ca8a99952258fb242e2877"), looks := false }, kinds := [], alts := [], laidByText := true, laidKinds := [.data, .pinned], laidTests := true, laidLooks := .later }
def ConnectReadsCardSaid : Prop := Claim7.holds Tryd.pinned (.plain (OpenSpec.ofChange connectReadsSpec)) connectReadsCard

/-- THE TIED CARD OF 'switchboardlaw06.ConnectWrites'. -/
def connectWritesCard : Claim7 := { stood := { row := connectWritesRow, standIns := [], harness := (true, "62fa3f2950c62cf07fafeedb451df68d44602f6626ca8a99952258fb242e2877"), looks := false }, kinds := [], alts := [], laidByText := true, laidKinds := [.data, .pinned], laidTests := true, laidLooks := .later }
def ConnectWritesCardSaid : Prop := Claim7.holds Tryd.pinned (.plain (OpenSpec.ofChange connectWritesSpec)) connectWritesCard

/-- THE TIED CARD OF 'switchboardlaw06.ConnectBack'. -/
def connectBackCard : Claim7 := { stood := { row := connectBackRow, standIns := [], harness := (true, "62fa3f2950c62cf07fafeedb451df68d44602f6626ca8a99952258fb242e2877"), looks := false }, kinds := [], alts := [], laidByText := true, laidKinds := [.data, .pinned], laidTests := true, laidLooks := .later }
def ConnectBackCardSaid : Prop := Claim7.holds Tryd.pinned (.plain (OpenSpec.ofChange connectBackSpec)) connectBackCard

/-- THE TIED CARD OF 'switchboardlaw06.ConnectOne'. -/
def connectOneCard : Claim7 := { stood := { row := connectOneRow, standIns := [], harness := (true, "62fa3f2950c62cf07fafeedb451df68d44602f6626ca8a99952258fb242e2877"), looks := false }, kinds := [], alts := [], laidByText := true, laidKinds := [.data, .pinned], laidTests := true, laidLooks := .later }
def ConnectOneCardSaid : Prop := Claim7.holds Tryd.pinned (.plain (OpenSpec.ofChange connectOneSpec)) connectOneCard

/-- THE TIED CARD OF 'switchboardlaw06.ConnectFlags'. -/
def connectFlagsCard : Claim7 := { stood := { row := connectFlagsRow, standIns := [], harness := (true, "62fa3f2950c62cf07fafeedb451df68d44602f6626ca8a99952258fb242e2877"), looks := false }, kinds := [], alts := [], laidByText := true, laidKinds := [.data, .pinned], laidTests := true, laidLooks := .later }
def ConnectFlagsCardSaid : Prop := Claim7.holds Tryd.pinned (.plain (OpenSpec.ofChange connectFlagsSpec)) connectFlagsCard

/-- THE SECOND FORM's CARD OF 'switchboardlaw06.ConnectReads'. -/
def connectReadsUptoCard : Claim7 := { stood := { row := connectReadsUptoRow, standIns := [], harness := (true, "62fa3f2950c62cf07fafeedb451df68d44602f6626ca8a99952258fb242e2877"), looks := false }, kinds := [], alts := [], laidByText := true, laidKinds := [.data, .pinned], laidTests := true, laidLooks := .later }
def ConnectReadsUptoCardSaid : Prop := Claim7.holds Tryd.pinned (.plain (OpenSpec.upto connectReadsSpec)) connectReadsUptoCard

/-- THE SECOND FORM's CARD OF 'switchboardlaw06.ConnectWrites'. -/
def connectWritesUptoCard : Claim7 := { stood := { row := connectWritesUptoRow, standIns := [], harness := (true, "62fa3f2950c62cf07fafeedb451df68d44602f6626ca8a99952258fb242e2877"), looks := false }, kinds := [], alts := [], laidByText := true, laidKinds := [.data, .pinned], laidTests := true, laidLooks := .later }
def ConnectWritesUptoCardSaid : Prop := Claim7.holds Tryd.pinned (.plain (OpenSpec.upto connectWritesSpec)) connectWritesUptoCard

/-- THE SECOND FORM's CARD OF 'switchboardlaw06.ConnectBack'. -/
def connectBackUptoCard : Claim7 := { stood := { row := connectBackUptoRow, standIns := [], harness := (true, "62fa3f2950c62cf07fafeedb451df68d44602f6626ca8a99952258fb242e2877"), looks := false }, kinds := [], alts := [], laidByText := true, laidKinds := [.data, .pinned], laidTests := true, laidLooks := .later }
def ConnectBackUptoCardSaid : Prop := Claim7.holds Tryd.pinned (.plain (OpenSpec.upto connectBackSpec)) connectBackUptoCard

/-- THE SECOND FORM's CARD OF 'switchboardlaw06.ConnectOne'. -/
def connectOneUptoCard : Claim7 := { stood := { row := connectOneUptoRow, standIns := [], harness := (true, "62fa3f2950c62cf07fafeedb451df68d44602f6626ca8a99952258fb242e2877"), looks := false }, kinds := [], alts := [], laidByText := true, laidKinds := [.data, .pinned], laidTests := true, laidLooks := .later }
def ConnectOneUptoCardSaid : Prop := Claim7.holds Tryd.pinned (.plain (OpenSpec.upto connectOneSpec)) connectOneUptoCard

/-- THE SECOND FORM's CARD OF 'switchboardlaw06.ConnectFlags'. -/
def connectFlagsUptoCard : Claim7 := { stood := { row := connectFlagsUptoRow, standIns := [], harness := (true, "62fa3f2950c62cf07fafeedb451df68d44602f6626ca8a99952258fb242e2877"), looks := false }, kinds := [], alts := [], laidByText := true, laidKinds := [.data, .pinned], laidTests := true, laidLooks := .later }
def ConnectFlagsUptoCardSaid : Prop := Claim7.holds Tryd.pinned (.plain (OpenSpec.upto connectFlagsSpec)) connectFlagsUptoCard
end Rows
end Go.Proofs.YtdhdjkpocdfjbabDoor
