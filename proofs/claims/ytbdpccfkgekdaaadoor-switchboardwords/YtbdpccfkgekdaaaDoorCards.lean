/-
  DERIVED. GIVEN WITH THE SEED: THE CARDS: each row of YtbdpccfkgekdaaaDoorRows.lean that lists a variable, with what it lists TIED to the program's text (the seventh form; the later family's looks); each row that meets fmt, with fmt's text TOLD by the authors' own Lean function (tested against real Go, not proved from fmt's source: count such statements apart). THE CARD IS WHAT COUNTS. Prove the row's statement (the work); the ties are given (YtbdpccfkgekdaaaDoorTie.lean); close each card by the builder's one call (the guide's Derived/Test/ToyasCard.lean, 'card_holds'). Laid BY PROGRAM, IN A SANDBOX (cutbox-door.mjs). By AI agents, Wed Nov 11 2026. No macro, syntax, notation, axiom, sorry.
-/
import Derived.Test.YtbdpccfkgekdaaaDoorRows
import GoSem.ClaimSeven
namespace Go.Proofs.YtbdpccfkgekdaaaDoor
namespace Rows

/-- THE TIED CARD OF 'switchboardlaw10.TopicReads'. -/
def topicReadsCard : Claim7 := { stood := { row := topicReadsRow, standIns := [], harness := (true, "b34c8b4ad7e7b3fec42dd250bd76e7a6bff932e7005741879adab241a1b796b6"), looks := false }, kinds := [], alts := [], laidByText := true, laidKinds := [.data, .pinned], laidTests := true, laidLooks := .later }
def TopicReadsCardSaid : Prop := Claim7.holds Tryd.pinned (.plain (OpenSpec.ofChange topicReadsSpec)) topicReadsCard

/-- THE TIED CARD OF 'switchboardlaw10.TopicWider'. -/
def topicWiderCard : Claim7 := { stood := { row := topicWiderRow, standIns := [], harness := (true, "b34c8b4ad7e7b3fec42dd250bd76e7a6bff932e7005741879adab241a1b796b6"), looks := false }, kinds := [], alts := [], laidByText := true, laidKinds := [.data, .pinned], laidTests := true, laidLooks := .later }
def TopicWiderCardSaid : Prop := Claim7.holds Tryd.pinned (.plain (OpenSpec.ofChange topicWiderSpec)) topicWiderCard

/-- THE TIED CARD OF 'switchboardtop.SwitchboardWords'. -/
def switchboardWordsCard : Claim7 := { stood := { row := switchboardWordsRow, standIns := [], harness := (true, "b34c8b4ad7e7b3fec42dd250bd76e7a6bff932e7005741879adab241a1b796b6"), looks := false }, kinds := [], alts := [], laidByText := true, laidKinds := [.data, .pinned], laidTests := true, laidLooks := .later }
def SwitchboardWordsCardSaid : Prop := Claim7.holds Tryd.pinned (.plain (OpenSpec.ofChange switchboardWordsSpec)) switchboardWordsCard

/-- THE TIED CARD OF 'switchboardlaw03.PropElse'. -/
def propElseCard : Claim7 := { stood := { row := propElseRow, standIns := [], harness := (true, "b34c8b4ad7e7b3fec42dd250bd76e7a6bff932e7005741879adab241a1b796b6"), looks := false }, kinds := [], alts := [], laidByText := true, laidKinds := [.data, .pinned], laidTests := true, laidLooks := .later }
def PropElseCardSaid : Prop := Claim7.holds Tryd.pinned (.plain (OpenSpec.ofChange propElseSpec)) propElseCard

/-- THE TIED CARD OF 'switchboardlaw06.ConnectBack'. -/
def connectBackCard : Claim7 := { stood := { row := connectBackRow, standIns := [], harness := (true, "b34c8b4ad7e7b3fec42dd250bd76e7a6bff932e7005741879adab241a1b796b6"), looks := false }, kinds := [], alts := [], laidByText := true, laidKinds := [.data, .pinned], laidTests := true, laidLooks := .later }
def ConnectBackCardSaid : Prop := Claim7.holds Tryd.pinned (.plain (OpenSpec.ofChange connectBackSpec)) connectBackCard

/-- THE TIED CARD OF 'switchboardlaw07.PublishBack'. -/
def publishBackCard : Claim7 := { stood := { row := publishBackRow, standIns := [], harness := (true, "b34c8b4ad7e7b3fec42dd250bd76e7a6bff932e7005741879adab241a1b796b6"), looks := false }, kinds := [], alts := [], laidByText := true, laidKinds := [.data, .pinned], laidTests := true, laidLooks := .later }
def PublishBackCardSaid : Prop := Claim7.holds Tryd.pinned (.plain (OpenSpec.ofChange publishBackSpec)) publishBackCard

/-- THE SECOND FORM's CARD OF 'switchboardlaw10.TopicReads'. -/
def topicReadsUptoCard : Claim7 := { stood := { row := topicReadsUptoRow, standIns := [], harness := (true, "b34c8b4ad7e7b3fec42dd250bd76e7a6bff932e7005741879adab241a1b796b6"), looks := false }, kinds := [], alts := [], laidByText := true, laidKinds := [.data, .pinned], laidTests := true, laidLooks := .later }
def TopicReadsUptoCardSaid : Prop := Claim7.holds Tryd.pinned (.plain (OpenSpec.upto topicReadsSpec)) topicReadsUptoCard

/-- THE SECOND FORM's CARD OF 'switchboardlaw10.TopicWider'. -/
def topicWiderUptoCard : Claim7 := { stood := { row := topicWiderUptoRow, standIns := [], harness := (true, "b34c8b4ad7e7b3fec42dd250bd76e7a6bff932e7005741879adab241a1b796b6"), looks := false }, kinds := [], alts := [], laidByText := true, laidKinds := [.data, .pinned], laidTests := true, laidLooks := .later }
def TopicWiderUptoCardSaid : Prop := Claim7.holds Tryd.pinned (.plain (OpenSpec.upto topicWiderSpec)) topicWiderUptoCard

/-- THE SECOND FORM's CARD OF 'switchboardtop.SwitchboardWords'. -/
def switchboardWordsUptoCard : Claim7 := { stood := { row := switchboardWordsUptoRow, standIns := [], harness := (true, "b34c8b4ad7e7b3fec42dd250bd76e7a6bff932e7005741879adab241a1b796b6"), looks := false }, kinds := [], alts := [], laidByText := true, laidKinds := [.data, .pinned], laidTests := true, laidLooks := .later }
def SwitchboardWordsUptoCardSaid : Prop := Claim7.holds Tryd.pinned (.plain (OpenSpec.upto switchboardWordsSpec)) switchboardWordsUptoCard

/-- THE SECOND FORM's CARD OF 'switchboardlaw03.PropElse'. -/
def propElseUptoCard : Claim7 := { stood := { row := propElseUptoRow, standIns := [], harness := (true, "b34c8b4ad7e7b3fec42dd250bd76e7a6bff932e7005741879adab241a1b796b6"), looks := false }, kinds := [], alts := [], laidByText := true, laidKinds := [.data, .pinned], laidTests := true, laidLooks := .later }
def PropElseUptoCardSaid : Prop := Claim7.holds Tryd.pinned (.plain (OpenSpec.upto propElseSpec)) propElseUptoCard

/-- THE SECOND FORM's CARD OF 'switchboardlaw06.ConnectBack'. -/
def connectBackUptoCard : Claim7 := { stood := { row := connectBackUptoRow, standIns := [], harness := (true, "b34c8b4ad7e7b3fec42dd250bd76e7a6bff932e7005741879adab241a1b796b6"), looks := false }, kinds := [], alts := [], laidByText := true, laidKinds := [.data, .pinned], laidTests := true, laidLooks := .later }
def ConnectBackUptoCardSaid : Prop := Claim7.holds Tryd.pinned (.plain (OpenSpec.upto connectBackSpec)) connectBackUptoCard

/-- THE SECOND FORM's CARD OF 'switchboardlaw07.PublishBack'. -/
def publishBackUptoCard : Claim7 := { stood := { row := publishBackUptoRow, standIns := [], harness := (true, "b34c8b4ad7e7b3fec42dd250bd76e7a6bff932e7005741879adab241a1b796b6"), looks := false }, kinds := [], alts := [], laidByText := true, laidKinds := [.data, .pinned], laidTests := true, laidLooks := .later }
def PublishBackUptoCardSaid : Prop := Claim7.holds Tryd.pinned (.plain (OpenSpec.upto publishBackSpec)) publishBackUptoCard
end Rows
end Go.Proofs.YtbdpccfkgekdaaaDoor
