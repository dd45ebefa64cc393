/-
  DERIVED. GIVEN WITH THE SEED: THE CARDS: each row of YtnpkiknidmhciaaDoorRows.lean that lists a variable, with what it lists TIED to the program's text (the seventh form; the later family's looks); each row that meets fmt, with fmt's text TOLD by the authors' own Lean function (tested against real Go, not proved from fmt's source: count such statements apart). THE CARD IS WHAT COUNTS. Prove the row's statement (the work); the ties are given (YtnpkiknidmhciaaDoorTie.lean); close each card by the builder's one call (the guide's Derived/Test/ToyasCard.lean, 'card_holds'). Laid BY PROGRAM, IN A SANDBOX (cutbox-door.mjs). By AI agents, Wed Nov 11 2026. No macro, syntax, notation, axiom, sorry.
-/
import Derived.Test.YtnpkiknidmhciaaDoorRows
import GoSem.ClaimSeven
namespace Go.Proofs.YtnpkiknidmhciaaDoor
namespace Rows

/-- THE TIED CARD OF 'switchboardlaw17.AliasPlays'. -/
def aliasPlaysCard : Claim7 := { stood := { row := aliasPlaysRow, standIns := [], harness := (true, "11dba0a9d884072f2c1678eeb8939c7a57c705c90016c8a21c277274da4ebe6d"), looks := false }, kinds := [], alts := [], laidByText := true, laidKinds := [.data, .pinned], laidTests := true, laidLooks := .later }
def AliasPlaysCardSaid : Prop := Claim7.holds Tryd.pinned (.plain (OpenSpec.ofChange aliasPlaysSpec)) aliasPlaysCard

/-- THE TIED CARD OF 'switchboardlaw17.AliasLast'. -/
def aliasLastCard : Claim7 := { stood := { row := aliasLastRow, standIns := [], harness := (true, "11dba0a9d884072f2c1678eeb8939c7a57c705c90016c8a21c277274da4ebe6d"), looks := false }, kinds := [], alts := [], laidByText := true, laidKinds := [.data, .pinned], laidTests := true, laidLooks := .later }
def AliasLastCardSaid : Prop := Claim7.holds Tryd.pinned (.plain (OpenSpec.ofChange aliasLastSpec)) aliasLastCard

/-- THE TIED CARD OF 'switchboardlaw17.AliasNone'. -/
def aliasNoneCard : Claim7 := { stood := { row := aliasNoneRow, standIns := [], harness := (true, "11dba0a9d884072f2c1678eeb8939c7a57c705c90016c8a21c277274da4ebe6d"), looks := false }, kinds := [], alts := [], laidByText := true, laidKinds := [.data, .pinned], laidTests := true, laidLooks := .later }
def AliasNoneCardSaid : Prop := Claim7.holds Tryd.pinned (.plain (OpenSpec.ofChange aliasNoneSpec)) aliasNoneCard

/-- THE TIED CARD OF 'switchboardlaw17.AliasRange'. -/
def aliasRangeCard : Claim7 := { stood := { row := aliasRangeRow, standIns := [], harness := (true, "11dba0a9d884072f2c1678eeb8939c7a57c705c90016c8a21c277274da4ebe6d"), looks := false }, kinds := [], alts := [], laidByText := true, laidKinds := [.data, .pinned], laidTests := true, laidLooks := .later }
def AliasRangeCardSaid : Prop := Claim7.holds Tryd.pinned (.plain (OpenSpec.ofChange aliasRangeSpec)) aliasRangeCard

/-- THE TIED CARD OF 'switchboardlaw17.AliasMany'. -/
def aliasManyCard : Claim7 := { stood := { row := aliasManyRow, standIns := [], harness := (true, "11dba0a9d884072f2c1678eeb8939c7a57c705c90016c8a21c277274da4ebe6d"), looks := false }, kinds := [], alts := [], laidByText := true, laidKinds := [.data, .pinned], laidTests := true, laidLooks := .later }
def AliasManyCardSaid : Prop := Claim7.holds Tryd.pinned (.plain (OpenSpec.ofChange aliasManySpec)) aliasManyCard

/-- THE TIED CARD OF 'switchboardlaw06.ConnectReads'. -/
def connectReadsCard : Claim7 := { stood := { row := connectReadsRow, standIns := [], harness := (true, "11dba0a9d884072f2c1678eeb8939c7a57c705c90016c8a21c277274da4ebe6d"), looks := false }, kinds := [], alts := [], laidByText := true, laidKinds := [.data, .pinned], laidTests := true, laidLooks := .later }
def ConnectReadsCardSaid : Prop := Claim7.holds Tryd.pinned (.plain (OpenSpec.ofChange connectReadsSpec)) connectReadsCard

/-- THE TIED CARD OF 'switchboardlaw06.ConnectWrites'. -/
def connectWritesCard : Claim7 := { stood := { row := connectWritesRow, standIns := [], harness := (true, "11dba0a9d884072f2c1678eeb8939c7a57c705c90016c8a21c277274da4ebe6d"), looks := false }, kinds := [], alts := [], laidByText := true, laidKinds := [.data, .pinned], laidTests := true, laidLooks := .later }
def ConnectWritesCardSaid : Prop := Claim7.holds Tryd.pinned (.plain (OpenSpec.ofChange connectWritesSpec)) connectWritesCard

/-- THE TIED CARD OF 'switchboardlaw06.ConnectBack'. -/
def connectBackCard : Claim7 := { stood := { row := connectBackRow, standIns := [], harness := (true, "11dba0a9d884072f2c1678eeb8939c7a57c705c90016c8a21c277274da4ebe6d"), looks := false }, kinds := [], alts := [], laidByText := true, laidKinds := [.data, .pinned], laidTests := true, laidLooks := .later }
def ConnectBackCardSaid : Prop := Claim7.holds Tryd.pinned (.plain (OpenSpec.ofChange connectBackSpec)) connectBackCard

/-- THE TIED CARD OF 'switchboardlaw08.SubscribeReads'. -/
def subscribeReadsCard : Claim7 := { stood := { row := subscribeReadsRow, standIns := [], harness := (true, "11dba0a9d884072f2c1678eeb8939c7a57c705c90016c8a21c277274da4ebe6d"), looks := false }, kinds := [], alts := [], laidByText := true, laidKinds := [.data, .pinned], laidTests := true, laidLooks := .later }
def SubscribeReadsCardSaid : Prop := Claim7.holds Tryd.pinned (.plain (OpenSpec.ofChange subscribeReadsSpec)) subscribeReadsCard

/-- THE TIED CARD OF 'switchboardlaw08.SubscribeWrites'. -/
def subscribeWritesCard : Claim7 := { stood := { row := subscribeWritesRow, standIns := [], harness := (true, "11dba0a9d884072f2c1678eeb8939c7a57c705c90016c8a21c277274da4ebe6d"), looks := false }, kinds := [], alts := [], laidByText := true, laidKinds := [.data, .pinned], laidTests := true, laidLooks := .later }
def SubscribeWritesCardSaid : Prop := Claim7.holds Tryd.pinned (.plain (OpenSpec.ofChange subscribeWritesSpec)) subscribeWritesCard

/-- THE TIED CARD OF 'switchboardlaw08.SubscribeBack'. -/
def subscribeBackCard : Claim7 := { stood := { row := subscribeBackRow, standIns := [], harness := (true, "11dba0a9d884072f2c1678eeb8939c7a57c705c90016c8a21c277274da4ebe6d"), looks := false }, kinds := [], alts := [], laidByText := true, laidKinds := [.data, .pinned], laidTests := true, laidLooks := .later }
def SubscribeBackCardSaid : Prop := Claim7.holds Tryd.pinned (.plain (OpenSpec.ofChange subscribeBackSpec)) subscribeBackCard

/-- THE SECOND FORM's CARD OF 'switchboardlaw17.AliasPlays'. -/
def aliasPlaysUptoCard : Claim7 := { stood := { row := aliasPlaysUptoRow, standIns := [], harness := (true, "11dba0a9d884072f2c1678eeb8939c7a57c705c90016c8a21c277274da4ebe6d"), looks := false }, kinds := [], alts := [], laidByText := true, laidKinds := [.data, .pinned], laidTests := true, laidLooks := .later }
def AliasPlaysUptoCardSaid : Prop := Claim7.holds Tryd.pinned (.plain (OpenSpec.upto aliasPlaysSpec)) aliasPlaysUptoCard

/-- THE SECOND FORM's CARD OF 'switchboardlaw17.AliasLast'. -/
def aliasLastUptoCard : Claim7 := { stood := { row := aliasLastUptoRow, standIns := [], harness := (true, "11dba0a9d884072f2c1678eeb8939c7a57c705c90016c8a21c277274da4ebe6d"), looks := false }, kinds := [], alts := [], laidByText := true, laidKinds := [.data, .pinned], laidTests := true, laidLooks := .later }
def AliasLastUptoCardSaid : Prop := Claim7.holds Tryd.pinned (.plain (OpenSpec.upto aliasLastSpec)) aliasLastUptoCard

/-- THE SECOND FORM's CARD OF 'switchboardlaw17.AliasNone'. -/
def aliasNoneUptoCard : Claim7 := { stood := { row := aliasNoneUptoRow, standIns := [], harness := (true, "11dba0a9d884072f2c1678eeb8939c7a57c705c90016c8a21c277274da4ebe6d"), looks := false }, kinds := [], alts := [], laidByText := true, laidKinds := [.data, .pinned], laidTests := true, laidLooks := .later }
def AliasNoneUptoCardSaid : Prop := Claim7.holds Tryd.pinned (.plain (OpenSpec.upto aliasNoneSpec)) aliasNoneUptoCard

/-- THE SECOND FORM's CARD OF 'switchboardlaw17.AliasRange'. -/
def aliasRangeUptoCard : Claim7 := { stood := { row := aliasRangeUptoRow, standIns := [], harness := (true, "11dba0a9d884072f2c1678eeb8939c7a57c705c90016c8a21c277274da4ebe6d"), looks := false }, kinds := [], alts := [], laidByText := true, laidKinds := [.data, .pinned], laidTests := true, laidLooks := .later }
def AliasRangeUptoCardSaid : Prop := Claim7.holds Tryd.pinned (.plain (OpenSpec.upto aliasRangeSpec)) aliasRangeUptoCard

/-- THE SECOND FORM's CARD OF 'switchboardlaw17.AliasMany'. -/
def aliasManyUptoCard : Claim7 := { stood := { row := aliasManyUptoRow, standIns := [], harness := (true, "11dba0a9d884072f2c1678eeb8939c7a57c705c90016c8a21c277274da4ebe6d"), looks := false }, kinds := [], alts := [], laidByText := true, laidKinds := [.data, .pinned], laidTests := true, laidLooks := .later }
def AliasManyUptoCardSaid : Prop := Claim7.holds Tryd.pinned (.plain (OpenSpec.upto aliasManySpec)) aliasManyUptoCard

/-- THE SECOND FORM's CARD OF 'switchboardlaw06.ConnectReads'. -/
def connectReadsUptoCard : Claim7 := { stood := { row := connectReadsUptoRow, standIns := [], harness := (true, "11dba0a9d884072f2c1678eeb8939c7a57c705c90016c8a21c277274da4ebe6d"), looks := false }, kinds := [], alts := [], laidByText := true, laidKinds := [.data, .pinned], laidTests := true, laidLooks := .later }
def ConnectReadsUptoCardSaid : Prop := Claim7.holds Tryd.pinned (.plain (OpenSpec.upto connectReadsSpec)) connectReadsUptoCard

/-- THE SECOND FORM's CARD OF 'switchboardlaw06.ConnectWrites'. -/
def connectWritesUptoCard : Claim7 := { stood := { row := connectWritesUptoRow, standIns := [], harness := (true, "11dba0a9d884072f2c1678eeb8939c7a57c705c90016c8a21c277274da4ebe6d"), looks := false }, kinds := [], alts := [], laidByText := true, laidKinds := [.data, .pinned], laidTests := true, laidLooks := .later }
def ConnectWritesUptoCardSaid : Prop := Claim7.holds Tryd.pinned (.plain (OpenSpec.upto connectWritesSpec)) connectWritesUptoCard

/-- THE SECOND FORM's CARD OF 'switchboardlaw06.ConnectBack'. -/
def connectBackUptoCard : Claim7 := { stood := { row := connectBackUptoRow, standIns := [], harness := (true, "11dba0a9d884072f2c1678eeb8939c7a57c705c90016c8a21c277274da4ebe6d"), looks := false }, kinds := [], alts := [], laidByText := true, laidKinds := [.data, .pinned], laidTests := true, laidLooks := .later }
def ConnectBackUptoCardSaid : Prop := Claim7.holds Tryd.pinned (.plain (OpenSpec.upto connectBackSpec)) connectBackUptoCard

/-- THE SECOND FORM's CARD OF 'switchboardlaw08.SubscribeReads'. -/
def subscribeReadsUptoCard : Claim7 := { stood := { row := subscribeReadsUptoRow, standIns := [], harness := (true, "11dba0a9d884072f2c1678eeb8939c7a57c705c90016c8a21c277274da4ebe6d"), looks := false }, kinds := [], alts := [], laidByText := true, laidKinds := [.data, .pinned], laidTests := true, laidLooks := .later }
def SubscribeReadsUptoCardSaid : Prop := Claim7.holds Tryd.pinned (.plain (OpenSpec.upto subscribeReadsSpec)) subscribeReadsUptoCard

/-- THE SECOND FORM's CARD OF 'switchboardlaw08.SubscribeWrites'. -/
def subscribeWritesUptoCard : Claim7 := { stood := { row := subscribeWritesUptoRow, standIns := [], harness := (true, "11dba0a9d884072f2c1678eeb8939c7a57c705c90016c8a21c277274da4ebe6d"), looks := false }, kinds := [], alts := [], laidByText := true, laidKinds := [.data, .pinned], laidTests := true, laidLooks := .later }
def SubscribeWritesUptoCardSaid : Prop := Claim7.holds Tryd.pinned (.plain (OpenSpec.upto subscribeWritesSpec)) subscribeWritesUptoCard

/-- THE SECOND FORM's CARD OF 'switchboardlaw08.SubscribeBack'. -/
def subscribeBackUptoCard : Claim7 := { stood := { row := subscribeBackUptoRow, standIns := [], harness := (true, "11dba0a9d884072f2c1678eeb8939c7a57c705c90016c8a21c277274da4ebe6d"), looks := false }, kinds := [], alts := [], laidByText := true, laidKinds := [.data, .pinned], laidTests := true, laidLooks := .later }
def SubscribeBackUptoCardSaid : Prop := Claim7.holds Tryd.pinned (.plain (OpenSpec.upto subscribeBackSpec)) subscribeBackUptoCard
end Rows
end Go.Proofs.YtnpkiknidmhciaaDoor
