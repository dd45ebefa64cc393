/-
  DERIVED. GIVEN WITH THE SEED: THE CARDS: each row of YtmkajnephkaamaaDoorRows.lean that lists a variable, with what it lists TIED to the program's text (the seventh form; the later family's looks); each row that meets fmt, with fmt's text TOLD by the authors' own Lean function (tested against real Go, not proved from fmt's source: count such statements apart). THE CARD IS WHAT COUNTS. Prove the row's statement (the work); the ties are given (YtmkajnephkaamaaDoorTie.lean); close each card by the builder's one call (the guide's Derived/Test/ToyasCard.lean, 'card_holds'). Laid BY PROGRAM, IN A SANDBOX (cutbox-door.mjs). By AI agents, Wed Nov 11 2026. No macro, syntax, notation, axiom, sorry.
-/
import Derived.Test.YtmkajnephkaamaaDoorRows
import GoSem.ClaimSeven
namespace Go.Proofs.YtmkajnephkaamaaDoor
namespace Rows

/-- THE TIED CARD OF 'switchboardlaw03.PropTakes'. -/
def propTakesCard : Claim7 := { stood := { row := propTakesRow, standIns := [], harness := (true, "75c517b51334286308575497b13f55272cf542d4cff515e22990a23cc82ec52a"), looks := false }, kinds := [], alts := [], laidByText := true, laidKinds := [.data, .pinned], laidTests := true, laidLooks := .later }
def PropTakesCardSaid : Prop := Claim7.holds Tryd.pinned (.plain (OpenSpec.ofChange propTakesSpec)) propTakesCard

/-- THE TIED CARD OF 'switchboardlaw03.PropPuts'. -/
def propPutsCard : Claim7 := { stood := { row := propPutsRow, standIns := [], harness := (true, "75c517b51334286308575497b13f55272cf542d4cff515e22990a23cc82ec52a"), looks := false }, kinds := [], alts := [], laidByText := true, laidKinds := [.data, .pinned], laidTests := true, laidLooks := .later }
def PropPutsCardSaid : Prop := Claim7.holds Tryd.pinned (.plain (OpenSpec.ofChange propPutsSpec)) propPutsCard

/-- THE TIED CARD OF 'switchboardlaw03.PropBack'. -/
def propBackCard : Claim7 := { stood := { row := propBackRow, standIns := [], harness := (true, "75c517b51334286308575497b13f55272cf542d4cff515e22990a23cc82ec52a"), looks := false }, kinds := [], alts := [], laidByText := true, laidKinds := [.data, .pinned], laidTests := true, laidLooks := .later }
def PropBackCardSaid : Prop := Claim7.holds Tryd.pinned (.plain (OpenSpec.ofChange propBackSpec)) propBackCard

/-- THE TIED CARD OF 'switchboardlaw03.PropElse'. -/
def propElseCard : Claim7 := { stood := { row := propElseRow, standIns := [], harness := (true, "75c517b51334286308575497b13f55272cf542d4cff515e22990a23cc82ec52a"), looks := false }, kinds := [], alts := [], laidByText := true, laidKinds := [.data, .pinned], laidTests := true, laidLooks := .later }
def PropElseCardSaid : Prop := Claim7.holds Tryd.pinned (.plain (OpenSpec.ofChange propElseSpec)) propElseCard

/-- THE TIED CARD OF 'switchboardlaw03.PropRange'. -/
def propRangeCard : Claim7 := { stood := { row := propRangeRow, standIns := [], harness := (true, "75c517b51334286308575497b13f55272cf542d4cff515e22990a23cc82ec52a"), looks := false }, kinds := [], alts := [], laidByText := true, laidKinds := [.data, .pinned], laidTests := true, laidLooks := .later }
def PropRangeCardSaid : Prop := Claim7.holds Tryd.pinned (.plain (OpenSpec.ofChange propRangeSpec)) propRangeCard

/-- THE SECOND FORM's CARD OF 'switchboardlaw03.PropTakes'. -/
def propTakesUptoCard : Claim7 := { stood := { row := propTakesUptoRow, standIns := [], harness := (true, "75c517b51334286308575497b13f55272cf542d4cff515e22990a23cc82ec52a"), looks := false }, kinds := [], alts := [], laidByText := true, laidKinds := [.data, .pinned], laidTests := true, laidLooks := .later }
def PropTakesUptoCardSaid : Prop := Claim7.holds Tryd.pinned (.plain (OpenSpec.upto propTakesSpec)) propTakesUptoCard

/-- THE SECOND FORM's CARD OF 'switchboardlaw03.PropPuts'. -/
def propPutsUptoCard : Claim7 := { stood := { row := propPutsUptoRow, standIns := [], harness := (true, "75c517b51334286308575497b13f55272cf542d4cff515e22990a23cc82ec52a"), looks := false }, kinds := [], alts := [], laidByText := true, laidKinds := [.data, .pinned], laidTests := true, laidLooks := .later }
def PropPutsUptoCardSaid : Prop := Claim7.holds Tryd.pinned (.plain (OpenSpec.upto propPutsSpec)) propPutsUptoCard

/-- THE SECOND FORM's CARD OF 'switchboardlaw03.PropBack'. -/
def propBackUptoCard : Claim7 := { stood := { row := propBackUptoRow, standIns := [], harness := (true, "75c517b51334286308575497b13f55272cf542d4cff515e22990a23cc82ec52a"), looks := false }, kinds := [], alts := [], laidByText := true, laidKinds := [.data, .pinned], laidTests := true, laidLooks := .later }
def PropBackUptoCardSaid : Prop := Claim7.holds Tryd.pinned (.plain (OpenSpec.upto propBackSpec)) propBackUptoCard

/-- THE SECOND FORM's CARD OF 'switchboardlaw03.PropElse'. -/
def propElseUptoCard : Claim7 := { stood := { row := propElseUptoRow, standIns := [], harness := (true, "75c517b51334286308575497b13f55272cf542d4cff515e22990a23cc82ec52a"), looks := false }, kinds := [], alts := [], laidByText := true, laidKinds := [.data, .pinned], laidTests := true, laidLooks := .later }
def PropElseUptoCardSaid : Prop := Claim7.holds Tryd.pinned (.plain (OpenSpec.upto propElseSpec)) propElseUptoCard

/-- THE SECOND FORM's CARD OF 'switchboardlaw03.PropRange'. -/
def propRangeUptoCard : Claim7 := { stood := { row := propRangeUptoRow, standIns := [], harness := (true, "75c517b51334286308575497b13f55272cf542d4cff515e22990a23cc82ec52a"), looks := false }, kinds := [], alts := [], laidByText := true, laidKinds := [.data, .pinned], laidTests := true, laidLooks := .later }
def PropRangeUptoCardSaid : Prop := Claim7.holds Tryd.pinned (.plain (OpenSpec.upto propRangeSpec)) propRangeUptoCard
end Rows
end Go.Proofs.YtmkajnephkaamaaDoor
