/-
  DERIVED. GIVEN WITH THE SEED: THE CARDS: each row of YtdbocpkeafcmaaaDoorRows.lean that lists a variable, with what it lists TIED to the program's text (the seventh form; the later family's looks); each row that meets fmt, with fmt's text TOLD by the authors' own Lean function (tested against real Go, not proved from fmt's source: count such statements apart). THE CARD IS WHAT COUNTS. Prove the row's statement (the work); the ties are given (YtdbocpkeafcmaaaDoorTie.lean); close each card by the builder's one call (the guide's Derived/Test/ToyasCard.lean, 'card_holds'). Laid BY PROGRAM, IN A SANDBOX (cutbox-door.mjs). By AI agents, Wed Nov 11 2026. No macro, syntax, notation, axiom, sorry.
-/
import Derived.Test.YtdbocpkeafcmaaaDoorRows
import GoSem.ClaimSeven
namespace Go.Proofs.YtdbocpkeafcmaaaDoor
namespace Rows

/-- THE TIED CARD OF 'switchboardlaw03.PropTakes'. -/
def propTakesCard : Claim7 := { stood := { row := propTakesRow, standIns := [], harness := (true, "0be4b72280a937b11bf380b699dd5512ae2b34c61e24e446cb1614502673a60b"), looks := false }, kinds := [], alts := [], laidByText := true, laidKinds := [.data, .pinned], laidTests := true, laidLooks := .later }
def PropTakesCardSaid : Prop := Claim7.holds Tryd.pinned (.plain (OpenSpec.ofChange propTakesSpec)) propTakesCard

/-- THE TIED CARD OF 'switchboardlaw03.PropElse'. -/
def propElseCard : Claim7 := { stood := { row := propElseRow, standIns := [], harness := (true, "0be4b72280a937b11bf380b699dd5512ae2b34c61e24e446cb1614502673a60b"), looks := false }, kinds := [], alts := [], laidByText := true, laidKinds := [.data, .pinned], laidTests := true, laidLooks := .later }
def PropElseCardSaid : Prop := Claim7.holds Tryd.pinned (.plain (OpenSpec.ofChange propElseSpec)) propElseCard

/-- THE TIED CARD OF 'switchboardlaw06.ConnectReads'. -/
def connectReadsCard : Claim7 := { stood := { row := connectReadsRow, standIns := [], harness := (true, "0be4b72280a937b11bf380b699dd5512ae2b34c61e24e446cb1614502673a60b"), looks := false }, kinds := [], alts := [], laidByText := true, laidKinds := [.data, .pinned], laidTests := true, laidLooks := .later }
def ConnectReadsCardSaid : Prop := Claim7.holds Tryd.pinned (.plain (OpenSpec.ofChange connectReadsSpec)) connectReadsCard

/-- THE TIED CARD OF 'switchboardlaw06.ConnectWrites'. -/
def connectWritesCard : Claim7 := { stood := { row := connectWritesRow, standIns := [], harness := (true, "0be4b72280a937b11bf380b699dd5512ae2b34c61e24e446cb1614502673a60b"), looks := false }, kinds := [], alts := [], laidByText := true, laidKinds := [.data, .pinned], laidTests := true, laidLooks := .later }
def ConnectWritesCardSaid : Prop := Claim7.holds Tryd.pinned (.plain (OpenSpec.ofChange connectWritesSpec)) connectWritesCard

/-- THE TIED CARD OF 'switchboardlaw06.ConnectBack'. -/
def connectBackCard : Claim7 := { stood := { row := connectBackRow, standIns := [], harness := (true, "0be4b72280a937b11bf380b699dd5512ae2b34c61e24e446cb1614502673a60b"), looks := false }, kinds := [], alts := [], laidByText := true, laidKinds := [.data, .pinned], laidTests := true, laidLooks := .later }
def ConnectBackCardSaid : Prop := Claim7.holds Tryd.pinned (.plain (OpenSpec.ofChange connectBackSpec)) connectBackCard

/-- THE TIED CARD OF 'switchboardlaw07.PublishReads'. -/
def publishReadsCard : Claim7 := { stood := { row := publishReadsRow, standIns := [], harness := (true, "0be4b72280a937b11bf380b699dd5512ae2b34c61e24e446cb1614502673a60b"), looks := false }, kinds := [], alts := [], laidByText := true, laidKinds := [.data, .pinned], laidTests := true, laidLooks := .later }
def PublishReadsCardSaid : Prop := Claim7.holds Tryd.pinned (.plain (OpenSpec.ofChange publishReadsSpec)) publishReadsCard

/-- THE TIED CARD OF 'switchboardlaw07.PublishWrites'. -/
def publishWritesCard : Claim7 := { stood := { row := publishWritesRow, standIns := [], harness := (true, "0be4b72280a937b11bf380b699dd5512ae2b34c61e24e446cb1614502673a60b"), looks := false }, kinds := [], alts := [], laidByText := true, laidKinds := [.data, .pinned], laidTests := true, laidLooks := .later }
def PublishWritesCardSaid : Prop := Claim7.holds Tryd.pinned (.plain (OpenSpec.ofChange publishWritesSpec)) publishWritesCard

/-- THE TIED CARD OF 'switchboardlaw07.PublishBack'. -/
def publishBackCard : Claim7 := { stood := { row := publishBackRow, standIns := [], harness := (true, "0be4b72280a937b11bf380b699dd5512ae2b34c61e24e446cb1614502673a60b"), looks := false }, kinds := [], alts := [], laidByText := true, laidKinds := [.data, .pinned], laidTests := true, laidLooks := .later }
def PublishBackCardSaid : Prop := Claim7.holds Tryd.pinned (.plain (OpenSpec.ofChange publishBackSpec)) publishBackCard

/-- THE TIED CARD OF 'switchboardlaw07.PublishShort'. -/
def publishShortCard : Claim7 := { stood := { row := publishShortRow, standIns := [], harness := (true, "0be4b72280a937b11bf380b699dd5512ae2b34c61e24e446cb1614502673a60b"), looks := false }, kinds := [], alts := [], laidByText := true, laidKinds := [.data, .pinned], laidTests := true, laidLooks := .later }
def PublishShortCardSaid : Prop := Claim7.holds Tryd.pinned (.plain (OpenSpec.ofChange publishShortSpec)) publishShortCard

/-- THE TIED CARD OF 'switchboardlaw07.PublishOne'. -/
def publishOneCard : Claim7 := { stood := { row := publishOneRow, standIns := [], harness := (true, "0be4b72280a937b11bf380b699dd5512ae2b34c61e24e446cb1614502673a60b"), looks := false }, kinds := [], alts := [], laidByText := true, laidKinds := [.data, .pinned], laidTests := true, laidLooks := .later }
def PublishOneCardSaid : Prop := Claim7.holds Tryd.pinned (.plain (OpenSpec.ofChange publishOneSpec)) publishOneCard

/-- THE TIED CARD OF 'switchboardlaw07.PublishZero'. -/
def publishZeroCard : Claim7 := { stood := { row := publishZeroRow, standIns := [], harness := (true, "0be4b72280a937b11bf380b699dd5512ae2b34c61e24e446cb1614502673a60b"), looks := false }, kinds := [], alts := [], laidByText := true, laidKinds := [.data, .pinned], laidTests := true, laidLooks := .later }
def PublishZeroCardSaid : Prop := Claim7.holds Tryd.pinned (.plain (OpenSpec.ofChange publishZeroSpec)) publishZeroCard

/-- THE TIED CARD OF 'switchboardlaw08.SubscribeReads'. -/
def subscribeReadsCard : Claim7 := { stood := { row := subscribeReadsRow, standIns := [], harness := (true, "0be4b72280a937b11bf380b699dd5512ae2b34c61e24e446cb1614502673a60b"), looks := false }, kinds := [], alts := [], laidByText := true, laidKinds := [.data, .pinned], laidTests := true, laidLooks := .later }
def SubscribeReadsCardSaid : Prop := Claim7.holds Tryd.pinned (.plain (OpenSpec.ofChange subscribeReadsSpec)) subscribeReadsCard

/-- THE TIED CARD OF 'switchboardlaw08.SubscribeWrites'. -/
def subscribeWritesCard : Claim7 := { stood := { row := subscribeWritesRow, standIns := [], harness := (true, "0be4b72280a937b11bf380b699dd5512ae2b34c61e24e446cb1614502673a60b"), looks := false }, kinds := [], alts := [], laidByText := true, laidKinds := [.data, .pinned], laidTests := true, laidLooks := .later }
def SubscribeWritesCardSaid : Prop := Claim7.holds Tryd.pinned (.plain (OpenSpec.ofChange subscribeWritesSpec)) subscribeWritesCard

/-- THE TIED CARD OF 'switchboardlaw08.SubscribeBack'. -/
def subscribeBackCard : Claim7 := { stood := { row := subscribeBackRow, standIns := [], harness := (true, "0be4b72280a937b11bf380b699dd5512ae2b34c61e24e446cb1614502673a60b"), looks := false }, kinds := [], alts := [], laidByText := true, laidKinds := [.data, .pinned], laidTests := true, laidLooks := .later }
def SubscribeBackCardSaid : Prop := Claim7.holds Tryd.pinned (.plain (OpenSpec.ofChange subscribeBackSpec)) subscribeBackCard

/-- THE TIED CARD OF 'switchboardlaw08.SubscribeOne'. -/
def subscribeOneCard : Claim7 := { stood := { row := subscribeOneRow, standIns := [], harness := (true, "0be4b72280a937b11bf380b699dd5512ae2b34c61e24e446cb1614502673a60b"), looks := false }, kinds := [], alts := [], laidByText := true, laidKinds := [.data, .pinned], laidTests := true, laidLooks := .later }
def SubscribeOneCardSaid : Prop := Claim7.holds Tryd.pinned (.plain (OpenSpec.ofChange subscribeOneSpec)) subscribeOneCard

/-- THE TIED CARD OF 'switchboardlaw08.SubscribeOptions'. -/
def subscribeOptionsCard : Claim7 := { stood := { row := subscribeOptionsRow, standIns := [], harness := (true, "0be4b72280a937b11bf380b699dd5512ae2b34c61e24e446cb1614502673a60b"), looks := false }, kinds := [], alts := [], laidByText := true, laidKinds := [.data, .pinned], laidTests := true, laidLooks := .later }
def SubscribeOptionsCardSaid : Prop := Claim7.holds Tryd.pinned (.plain (OpenSpec.ofChange subscribeOptionsSpec)) subscribeOptionsCard

/-- THE TIED CARD OF 'switchboardlaw08.SubscribeAcks'. -/
def subscribeAcksCard : Claim7 := { stood := { row := subscribeAcksRow, standIns := [], harness := (true, "0be4b72280a937b11bf380b699dd5512ae2b34c61e24e446cb1614502673a60b"), looks := false }, kinds := [], alts := [], laidByText := true, laidKinds := [.data, .pinned], laidTests := true, laidLooks := .later }
def SubscribeAcksCardSaid : Prop := Claim7.holds Tryd.pinned (.plain (OpenSpec.ofChange subscribeAcksSpec)) subscribeAcksCard

/-- THE SECOND FORM's CARD OF 'switchboardlaw03.PropTakes'. -/
def propTakesUptoCard : Claim7 := { stood := { row := propTakesUptoRow, standIns := [], harness := (true, "0be4b72280a937b11bf380b699dd5512ae2b34c61e24e446cb1614502673a60b"), looks := false }, kinds := [], alts := [], laidByText := true, laidKinds := [.data, .pinned], laidTests := true, laidLooks := .later }
def PropTakesUptoCardSaid : Prop := Claim7.holds Tryd.pinned (.plain (OpenSpec.upto propTakesSpec)) propTakesUptoCard

/-- THE SECOND FORM's CARD OF 'switchboardlaw03.PropElse'. -/
def propElseUptoCard : Claim7 := { stood := { row := propElseUptoRow, standIns := [], harness := (true, "0be4b72280a937b11bf380b699dd5512ae2b34c61e24e446cb1614502673a60b"), looks := false }, kinds := [], alts := [], laidByText := true, laidKinds := [.data, .pinned], laidTests := true, laidLooks := .later }
def PropElseUptoCardSaid : Prop := Claim7.holds Tryd.pinned (.plain (OpenSpec.upto propElseSpec)) propElseUptoCard

/-- THE SECOND FORM's CARD OF 'switchboardlaw06.ConnectReads'. -/
def connectReadsUptoCard : Claim7 := { stood := { row := connectReadsUptoRow, standIns := [], harness := (true, "0be4b72280a937b11bf380b699dd5512ae2b34c61e24e446cb1614502673a60b"), looks := false }, kinds := [], alts := [], laidByText := true, laidKinds := [.data, .pinned], laidTests := true, laidLooks := .later }
def ConnectReadsUptoCardSaid : Prop := Claim7.holds Tryd.pinned (.plain (OpenSpec.upto connectReadsSpec)) connectReadsUptoCard

/-- THE SECOND FORM's CARD OF 'switchboardlaw06.ConnectWrites'. -/
def connectWritesUptoCard : Claim7 := { stood := { row := connectWritesUptoRow, standIns := [], harness := (true, "0be4b72280a937b11bf380b699dd5512ae2b34c61e24e446cb1614502673a60b"), looks := false }, kinds := [], alts := [], laidByText := true, laidKinds := [.data, .pinned], laidTests := true, laidLooks := .later }
def ConnectWritesUptoCardSaid : Prop := Claim7.holds Tryd.pinned (.plain (OpenSpec.upto connectWritesSpec)) connectWritesUptoCard

/-- THE SECOND FORM's CARD OF 'switchboardlaw06.ConnectBack'. -/
def connectBackUptoCard : Claim7 := { stood := { row := connectBackUptoRow, standIns := [], harness := (true, "0be4b72280a937b11bf380b699dd5512ae2b34c61e24e446cb1614502673a60b"), looks := false }, kinds := [], alts := [], laidByText := true, laidKinds := [.data, .pinned], laidTests := true, laidLooks := .later }
def ConnectBackUptoCardSaid : Prop := Claim7.holds Tryd.pinned (.plain (OpenSpec.upto connectBackSpec)) connectBackUptoCard

/-- THE SECOND FORM's CARD OF 'switchboardlaw07.PublishReads'. -/
def publishReadsUptoCard : Claim7 := { stood := { row := publishReadsUptoRow, standIns := [], harness := (true, "0be4b72280a937b11bf380b699dd5512ae2b34c61e24e446cb1614502673a60b"), looks := false }, kinds := [], alts := [], laidByText := true, laidKinds := [.data, .pinned], laidTests := true, laidLooks := .later }
def PublishReadsUptoCardSaid : Prop := Claim7.holds Tryd.pinned (.plain (OpenSpec.upto publishReadsSpec)) publishReadsUptoCard

/-- THE SECOND FORM's CARD OF 'switchboardlaw07.PublishWrites'. -/
def publishWritesUptoCard : Claim7 := { stood := { row := publishWritesUptoRow, standIns := [], harness := (true, "0be4b72280a937b11bf380b699dd5512ae2b34c61e24e446cb1614502673a60b"), looks := false }, kinds := [], alts := [], laidByText := true, laidKinds := [.data, .pinned], laidTests := true, laidLooks := .later }
def PublishWritesUptoCardSaid : Prop := Claim7.holds Tryd.pinned (.plain (OpenSpec.upto publishWritesSpec)) publishWritesUptoCard

/-- THE SECOND FORM's CARD OF 'switchboardlaw07.PublishBack'. -/
def publishBackUptoCard : Claim7 := { stood := { row := publishBackUptoRow, standIns := [], harness := (true, "0be4b72280a937b11bf380b699dd5512ae2b34c61e24e446cb1614502673a60b"), looks := false }, kinds := [], alts := [], laidByText := true, laidKinds := [.data, .pinned], laidTests := true, laidLooks := .later }
def PublishBackUptoCardSaid : Prop := Claim7.holds Tryd.pinned (.plain (OpenSpec.upto publishBackSpec)) publishBackUptoCard

/-- THE SECOND FORM's CARD OF 'switchboardlaw07.PublishShort'. -/
def publishShortUptoCard : Claim7 := { stood := { row := publishShortUptoRow, standIns := [], harness := (true, "0be4b72280a937b11bf380b699dd5512ae2b34c61e24e446cb1614502673a60b"), looks := false }, kinds := [], alts := [], laidByText := true, laidKinds := [.data, .pinned], laidTests := true, laidLooks := .later }
def PublishShortUptoCardSaid : Prop := Claim7.holds Tryd.pinned (.plain (OpenSpec.upto publishShortSpec)) publishShortUptoCard

/-- THE SECOND FORM's CARD OF 'switchboardlaw07.PublishOne'. -/
def publishOneUptoCard : Claim7 := { stood := { row := publishOneUptoRow, standIns := [], harness := (true, "0be4b72280a937b11bf380b699dd5512ae2b34c61e24e446cb1614502673a60b"), looks := false }, kinds := [], alts := [], laidByText := true, laidKinds := [.data, .pinned], laidTests := true, laidLooks := .later }
def PublishOneUptoCardSaid : Prop := Claim7.holds Tryd.pinned (.plain (OpenSpec.upto publishOneSpec)) publishOneUptoCard

/-- THE SECOND FORM's CARD OF 'switchboardlaw07.PublishZero'. -/
def publishZeroUptoCard : Claim7 := { stood := { row := publishZeroUptoRow, standIns := [], harness := (true, "0be4b72280a937b11bf380b699dd5512ae2b34c61e24e446cb1614502673a60b"), looks := false }, kinds := [], alts := [], laidByText := true, laidKinds := [.data, .pinned], laidTests := true, laidLooks := .later }
def PublishZeroUptoCardSaid : Prop := Claim7.holds Tryd.pinned (.plain (OpenSpec.upto publishZeroSpec)) publishZeroUptoCard

/-- THE SECOND FORM's CARD OF 'switchboardlaw08.SubscribeReads'. -/
def subscribeReadsUptoCard : Claim7 := { stood := { row := subscribeReadsUptoRow, standIns := [], harness := (true, "0be4b72280a937b11bf380b699dd5512ae2b34c61e24e446cb1614502673a60b"), looks := false }, kinds := [], alts := [], laidByText := true, laidKinds := [.data, .pinned], laidTests := true, laidLooks := .later }
def SubscribeReadsUptoCardSaid : Prop := Claim7.holds Tryd.pinned (.plain (OpenSpec.upto subscribeReadsSpec)) subscribeReadsUptoCard

/-- THE SECOND FORM's CARD OF 'switchboardlaw08.SubscribeWrites'. -/
def subscribeWritesUptoCard : Claim7 := { stood := { row := subscribeWritesUptoRow, standIns := [], harness := (true, "0be4b72280a937b11bf380b699dd5512ae2b34c61e24e446cb1614502673a60b"), looks := false }, kinds := [], alts := [], laidByText := true, laidKinds := [.data, .pinned], laidTests := true, laidLooks := .later }
def SubscribeWritesUptoCardSaid : Prop := Claim7.holds Tryd.pinned (.plain (OpenSpec.upto subscribeWritesSpec)) subscribeWritesUptoCard

/-- THE SECOND FORM's CARD OF 'switchboardlaw08.SubscribeBack'. -/
def subscribeBackUptoCard : Claim7 := { stood := { row := subscribeBackUptoRow, standIns := [], harness := (true, "0be4b72280a937b11bf380b699dd5512ae2b34c61e24e446cb1614502673a60b"), looks := false }, kinds := [], alts := [], laidByText := true, laidKinds := [.data, .pinned], laidTests := true, laidLooks := .later }
def SubscribeBackUptoCardSaid : Prop := Claim7.holds Tryd.pinned (.plain (OpenSpec.upto subscribeBackSpec)) subscribeBackUptoCard

/-- THE SECOND FORM's CARD OF 'switchboardlaw08.SubscribeOne'. -/
def subscribeOneUptoCard : Claim7 := { stood := { row := subscribeOneUptoRow, standIns := [], harness := (true, "0be4b72280a937b11bf380b699dd5512ae2b34c61e24e446cb1614502673a60b"), looks := false }, kinds := [], alts := [], laidByText := true, laidKinds := [.data, .pinned], laidTests := true, laidLooks := .later }
def SubscribeOneUptoCardSaid : Prop := Claim7.holds Tryd.pinned (.plain (OpenSpec.upto subscribeOneSpec)) subscribeOneUptoCard

/-- THE SECOND FORM's CARD OF 'switchboardlaw08.SubscribeOptions'. -/
def subscribeOptionsUptoCard : Claim7 := { stood := { row := subscribeOptionsUptoRow, standIns := [], harness := (true, "0be4b72280a937b11bf380b699dd5512ae2b34c61e24e446cb1614502673a60b"), looks := false }, kinds := [], alts := [], laidByText := true, laidKinds := [.data, .pinned], laidTests := true, laidLooks := .later }
def SubscribeOptionsUptoCardSaid : Prop := Claim7.holds Tryd.pinned (.plain (OpenSpec.upto subscribeOptionsSpec)) subscribeOptionsUptoCard

/-- THE SECOND FORM's CARD OF 'switchboardlaw08.SubscribeAcks'. -/
def subscribeAcksUptoCard : Claim7 := { stood := { row := subscribeAcksUptoRow, standIns := [], harness := (true, "0be4b72280a937b11bf380b699dd5512ae2b34c61e24e446cb1614502673a60b"), looks := false }, kinds := [], alts := [], laidByText := true, laidKinds := [.data, .pinned], laidTests := true, laidLooks := .later }
def SubscribeAcksUptoCardSaid : Prop := Claim7.holds Tryd.pinned (.plain (OpenSpec.upto subscribeAcksSpec)) subscribeAcksUptoCard
end Rows
end Go.Proofs.YtdbocpkeafcmaaaDoor
