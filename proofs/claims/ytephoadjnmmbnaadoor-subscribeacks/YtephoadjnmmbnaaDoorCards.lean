/-
  DERIVED. GIVEN WITH THE SEED: THE CARDS: each row of YtephoadjnmmbnaaDoorRows.lean that lists a variable, with what it lists TIED to the program's text (the seventh form; the later family's looks); each row that meets fmt, with fmt's text TOLD by the authors' own Lean function (tested against real Go, not proved from fmt's source: count such statements apart). THE CARD IS WHAT COUNTS. Prove the row's statement (the work); the ties are given (YtephoadjnmmbnaaDoorTie.lean); close each card by the builder's one call (the guide's Derived/Test/ToyasCard.lean, 'card_holds'). Laid BY PROGRAM, IN A SANDBOX (cutbox-door.mjs). By AI agents, Wed Nov 11 2026. No macro, syntax, notation, axiom, sorry.
-/
import Derived.Test.YtephoadjnmmbnaaDoorRows
import GoSem.ClaimSeven
namespace Go.Proofs.YtephoadjnmmbnaaDoor
namespace Rows

/-- THE TIED CARD OF 'switchboardlaw10.TopicReads'. -/
def topicReadsCard : Claim7 := { stood := { row := topicReadsRow, standIns := [], harness := (true, "5563a264ba21d2d7ad36b6a5f7d4e74a89d97d3d90b1d22bb16a1ca76acd962d"), looks := false }, kinds := [], alts := [], laidByText := true, laidKinds := [.data, .pinned], laidTests := true, laidLooks := .later }
def TopicReadsCardSaid : Prop := Claim7.holds Tryd.pinned (.plain (OpenSpec.ofChange topicReadsSpec)) topicReadsCard

/-- THE TIED CARD OF 'switchboardlaw10.TopicWider'. -/
def topicWiderCard : Claim7 := { stood := { row := topicWiderRow, standIns := [], harness := (true, "5563a264ba21d2d7ad36b6a5f7d4e74a89d97d3d90b1d22bb16a1ca76acd962d"), looks := false }, kinds := [], alts := [], laidByText := true, laidKinds := [.data, .pinned], laidTests := true, laidLooks := .later }
def TopicWiderCardSaid : Prop := Claim7.holds Tryd.pinned (.plain (OpenSpec.ofChange topicWiderSpec)) topicWiderCard

/-- THE TIED CARD OF 'switchboardlaw03.PropTakes'. -/
def propTakesCard : Claim7 := { stood := { row := propTakesRow, standIns := [], harness := (true, "5563a264ba21d2d7ad36b6a5f7d4e74a89d97d3d90b1d22bb16a1ca76acd962d"), looks := false }, kinds := [], alts := [], laidByText := true, laidKinds := [.data, .pinned], laidTests := true, laidLooks := .later }
def PropTakesCardSaid : Prop := Claim7.holds Tryd.pinned (.plain (OpenSpec.ofChange propTakesSpec)) propTakesCard

/-- THE TIED CARD OF 'switchboardlaw03.PropElse'. -/
def propElseCard : Claim7 := { stood := { row := propElseRow, standIns := [], harness := (true, "5563a264ba21d2d7ad36b6a5f7d4e74a89d97d3d90b1d22bb16a1ca76acd962d"), looks := false }, kinds := [], alts := [], laidByText := true, laidKinds := [.data, .pinned], laidTests := true, laidLooks := .later }
def PropElseCardSaid : Prop := Claim7.holds Tryd.pinned (.plain (OpenSpec.ofChange propElseSpec)) propElseCard

/-- THE TIED CARD OF 'switchboardlaw06.ConnectWrites'. -/
def connectWritesCard : Claim7 := { stood := { row := connectWritesRow, standIns := [], harness := (true, "5563a264ba21d2d7ad36b6a5f7d4e74a89d97d3d90b1d22bb16a1ca76acd962d"), looks := false }, kinds := [], alts := [], laidByText := true, laidKinds := [.data, .pinned], laidTests := true, laidLooks := .later }
def ConnectWritesCardSaid : Prop := Claim7.holds Tryd.pinned (.plain (OpenSpec.ofChange connectWritesSpec)) connectWritesCard

/-- THE TIED CARD OF 'switchboardlaw06.ConnectBack'. -/
def connectBackCard : Claim7 := { stood := { row := connectBackRow, standIns := [], harness := (true, "5563a264ba21d2d7ad36b6a5f7d4e74a89d97d3d90b1d22bb16a1ca76acd962d"), looks := false }, kinds := [], alts := [], laidByText := true, laidKinds := [.data, .pinned], laidTests := true, laidLooks := .later }
def ConnectBackCardSaid : Prop := Claim7.holds Tryd.pinned (.plain (OpenSpec.ofChange connectBackSpec)) connectBackCard

/-- THE TIED CARD OF 'switchboardlaw07.PublishBack'. -/
def publishBackCard : Claim7 := { stood := { row := publishBackRow, standIns := [], harness := (true, "5563a264ba21d2d7ad36b6a5f7d4e74a89d97d3d90b1d22bb16a1ca76acd962d"), looks := false }, kinds := [], alts := [], laidByText := true, laidKinds := [.data, .pinned], laidTests := true, laidLooks := .later }
def PublishBackCardSaid : Prop := Claim7.holds Tryd.pinned (.plain (OpenSpec.ofChange publishBackSpec)) publishBackCard

/-- THE TIED CARD OF 'switchboardlaw08.SubscribeWrites'. -/
def subscribeWritesCard : Claim7 := { stood := { row := subscribeWritesRow, standIns := [], harness := (true, "5563a264ba21d2d7ad36b6a5f7d4e74a89d97d3d90b1d22bb16a1ca76acd962d"), looks := false }, kinds := [], alts := [], laidByText := true, laidKinds := [.data, .pinned], laidTests := true, laidLooks := .later }
def SubscribeWritesCardSaid : Prop := Claim7.holds Tryd.pinned (.plain (OpenSpec.ofChange subscribeWritesSpec)) subscribeWritesCard

/-- THE TIED CARD OF 'switchboardlaw08.SubscribeBack'. -/
def subscribeBackCard : Claim7 := { stood := { row := subscribeBackRow, standIns := [], harness := (true, "5563a264ba21d2d7ad36b6a5f7d4e74a89d97d3d90b1d22bb16a1ca76acd962d"), looks := false }, kinds := [], alts := [], laidByText := true, laidKinds := [.data, .pinned], laidTests := true, laidLooks := .later }
def SubscribeBackCardSaid : Prop := Claim7.holds Tryd.pinned (.plain (OpenSpec.ofChange subscribeBackSpec)) subscribeBackCard

/-- THE TIED CARD OF 'switchboardlaw08.SubscribeAcks'. -/
def subscribeAcksCard : Claim7 := { stood := { row := subscribeAcksRow, standIns := [], harness := (true, "5563a264ba21d2d7ad36b6a5f7d4e74a89d97d3d90b1d22bb16a1ca76acd962d"), looks := false }, kinds := [], alts := [], laidByText := true, laidKinds := [.data, .pinned], laidTests := true, laidLooks := .later }
def SubscribeAcksCardSaid : Prop := Claim7.holds Tryd.pinned (.plain (OpenSpec.ofChange subscribeAcksSpec)) subscribeAcksCard

/-- THE SECOND FORM's CARD OF 'switchboardlaw10.TopicReads'. -/
def topicReadsUptoCard : Claim7 := { stood := { row := topicReadsUptoRow, standIns := [], harness := (true, "5563a264ba21d2d7ad36b6a5f7d4e74a89d97d3d90b1d22bb16a1ca76acd962d"), looks := false }, kinds := [], alts := [], laidByText := true, laidKinds := [.data, .pinned], laidTests := true, laidLooks := .later }
def TopicReadsUptoCardSaid : Prop := Claim7.holds Tryd.pinned (.plain (OpenSpec.upto topicReadsSpec)) topicReadsUptoCard

/-- THE SECOND FORM's CARD OF 'switchboardlaw10.TopicWider'. -/
def topicWiderUptoCard : Claim7 := { stood := { row := topicWiderUptoRow, standIns := [], harness := (true, "5563a264ba21d2d7ad36b6a5f7d4e74a89d97d3d90b1d22bb16a1ca76acd962d"), looks := false }, kinds := [], alts := [], laidByText := true, laidKinds := [.data, .pinned], laidTests := true, laidLooks := .later }
def TopicWiderUptoCardSaid : Prop := Claim7.holds Tryd.pinned (.plain (OpenSpec.upto topicWiderSpec)) topicWiderUptoCard

/-- THE SECOND FORM's CARD OF 'switchboardlaw03.PropTakes'. -/
def propTakesUptoCard : Claim7 := { stood := { row := propTakesUptoRow, standIns := [], harness := (true, "5563a264ba21d2d7ad36b6a5f7d4e74a89d97d3d90b1d22bb16a1ca76acd962d"), looks := false }, kinds := [], alts := [], laidByText := true, laidKinds := [.data, .pinned], laidTests := true, laidLooks := .later }
def PropTakesUptoCardSaid : Prop := Claim7.holds Tryd.pinned (.plain (OpenSpec.upto propTakesSpec)) propTakesUptoCard

/-- THE SECOND FORM's CARD OF 'switchboardlaw03.PropElse'. -/
def propElseUptoCard : Claim7 := { stood := { row := propElseUptoRow, standIns := [], harness := (true, "5563a264ba21d2d7ad36b6a5f7d4e74a89d97d3d90b1d22bb16a1ca76acd962d"), looks := false }, kinds := [], alts := [], laidByText := true, laidKinds := [.data, .pinned], laidTests := true, laidLooks := .later }
def PropElseUptoCardSaid : Prop := Claim7.holds Tryd.pinned (.plain (OpenSpec.upto propElseSpec)) propElseUptoCard

/-- THE SECOND FORM's CARD OF 'switchboardlaw06.ConnectWrites'. -/
def connectWritesUptoCard : Claim7 := { stood := { row := connectWritesUptoRow, standIns := [], harness := (true, "5563a264ba21d2d7ad36b6a5f7d4e74a89d97d3d90b1d22bb16a1ca76acd962d"), looks := false }, kinds := [], alts := [], laidByText := true, laidKinds := [.data, .pinned], laidTests := true, laidLooks := .later }
def ConnectWritesUptoCardSaid : Prop := Claim7.holds Tryd.pinned (.plain (OpenSpec.upto connectWritesSpec)) connectWritesUptoCard

/-- THE SECOND FORM's CARD OF 'switchboardlaw06.ConnectBack'. -/
def connectBackUptoCard : Claim7 := { stood := { row := connectBackUptoRow, standIns := [], harness := (true, "5563a264ba21d2d7ad36b6a5f7d4e74a89d97d3d90b1d22bb16a1ca76acd962d"), looks := false }, kinds := [], alts := [], laidByText := true, laidKinds := [.data, .pinned], laidTests := true, laidLooks := .later }
def ConnectBackUptoCardSaid : Prop := Claim7.holds Tryd.pinned (.plain (OpenSpec.upto connectBackSpec)) connectBackUptoCard

/-- THE SECOND FORM's CARD OF 'switchboardlaw07.PublishBack'. -/
def publishBackUptoCard : Claim7 := { stood := { row := publishBackUptoRow, standIns := [], harness := (true, "5563a264ba21d2d7ad36b6a5f7d4e74a89d97d3d90b1d22bb16a1ca76acd962d"), looks := false }, kinds := [], alts := [], laidByText := true, laidKinds := [.data, .pinned], laidTests := true, laidLooks := .later }
def PublishBackUptoCardSaid : Prop := Claim7.holds Tryd.pinned (.plain (OpenSpec.upto publishBackSpec)) publishBackUptoCard

/-- THE SECOND FORM's CARD OF 'switchboardlaw08.SubscribeWrites'. -/
def subscribeWritesUptoCard : Claim7 := { stood := { row := subscribeWritesUptoRow, standIns := [], harness := (true, "5563a264ba21d2d7ad36b6a5f7d4e74a89d97d3d90b1d22bb16a1ca76acd962d"), looks := false }, kinds := [], alts := [], laidByText := true, laidKinds := [.data, .pinned], laidTests := true, laidLooks := .later }
def SubscribeWritesUptoCardSaid : Prop := Claim7.holds Tryd.pinned (.plain (OpenSpec.upto subscribeWritesSpec)) subscribeWritesUptoCard

/-- THE SECOND FORM's CARD OF 'switchboardlaw08.SubscribeBack'. -/
def subscribeBackUptoCard : Claim7 := { stood := { row := subscribeBackUptoRow, standIns := [], harness := (true, "5563a264ba21d2d7ad36b6a5f7d4e74a89d97d3d90b1d22bb16a1ca76acd962d"), looks := false }, kinds := [], alts := [], laidByText := true, laidKinds := [.data, .pinned], laidTests := true, laidLooks := .later }
def SubscribeBackUptoCardSaid : Prop := Claim7.holds Tryd.pinned (.plain (OpenSpec.upto subscribeBackSpec)) subscribeBackUptoCard

/-- THE SECOND FORM's CARD OF 'switchboardlaw08.SubscribeAcks'. -/
def subscribeAcksUptoCard : Claim7 := { stood := { row := subscribeAcksUptoRow, standIns := [], harness := (true, "5563a264ba21d2d7ad36b6a5f7d4e74a89d97d3d90b1d22bb16a1ca76acd962d"), looks := false }, kinds := [], alts := [], laidByText := true, laidKinds := [.data, .pinned], laidTests := true, laidLooks := .later }
def SubscribeAcksUptoCardSaid : Prop := Claim7.holds Tryd.pinned (.plain (OpenSpec.upto subscribeAcksSpec)) subscribeAcksUptoCard
end Rows
end Go.Proofs.YtephoadjnmmbnaaDoor
