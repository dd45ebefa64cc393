/-
  DERIVED. GIVEN WITH THE SEED: THE CARDS: each row of YtacffjimkplieaaDoorRows.lean that lists a variable, with what it lists TIED to the program's text (the seventh form; the later family's looks); each row that meets fmt, with fmt's text TOLD by the authors' own Lean function (tested against real Go, not proved from fmt's source: count such statements apart). THE CARD IS WHAT COUNTS. Prove the row's statement (the work); the ties are given (YtacffjimkplieaaDoorTie.lean); close each card by the builder's one call (the guide's Derived/Test/ToyasCard.lean, 'card_holds'). Laid BY PROGRAM, IN A SANDBOX (cutbox-door.mjs). By AI agents, Wed Nov 11 2026. No macro, syntax, notation, axiom, sorry.
-/
import Derived.Test.YtacffjimkplieaaDoorRows
import GoSem.ClaimSeven
namespace Go.Proofs.YtacffjimkplieaaDoor
namespace Rows

/-- THE TIED CARD OF 'switchboardlaw06.ConnectReads'. -/
def connectReadsCard : Claim7 := { stood := { row := connectReadsRow, standIns := [], harness := (true, "1a518b5bfde8895301d3b6b699f4478ca54d7e3bc68b18d8b1752a92cb47cca9"), looks := false }, kinds := [], alts := [], laidByText := true, laidKinds := [.data, .pinned], laidTests := true, laidLooks := .later }
def ConnectReadsCardSaid : Prop := Claim7.holds Tryd.pinned (.plain (OpenSpec.ofChange connectReadsSpec)) connectReadsCard

/-- THE TIED CARD OF 'switchboardlaw06.ConnectWrites'. -/
def connectWritesCard : Claim7 := { stood := { row := connectWritesRow, standIns := [], harness := (true, "1a518b5bfde8895301d3b6b699f4478ca54d7e3bc68b18d8b1752a92cb47cca9"), looks := false }, kinds := [], alts := [], laidByText := true, laidKinds := [.data, .pinned], laidTests := true, laidLooks := .later }
def ConnectWritesCardSaid : Prop := Claim7.holds Tryd.pinned (.plain (OpenSpec.ofChange connectWritesSpec)) connectWritesCard

/-- THE TIED CARD OF 'switchboardlaw06.ConnectBack'. -/
def connectBackCard : Claim7 := { stood := { row := connectBackRow, standIns := [], harness := (true, "1a518b5bfde8895301d3b6b699f4478ca54d7e3bc68b18d8b1752a92cb47cca9"), looks := false }, kinds := [], alts := [], laidByText := true, laidKinds := [.data, .pinned], laidTests := true, laidLooks := .later }
def ConnectBackCardSaid : Prop := Claim7.holds Tryd.pinned (.plain (OpenSpec.ofChange connectBackSpec)) connectBackCard

/-- THE TIED CARD OF 'switchboardlaw07.PublishReads'. -/
def publishReadsCard : Claim7 := { stood := { row := publishReadsRow, standIns := [], harness := (true, "1a518b5bfde8895301d3b6b699f4478ca54d7e3bc68b18d8b1752a92cb47cca9"), looks := false }, kinds := [], alts := [], laidByText := true, laidKinds := [.data, .pinned], laidTests := true, laidLooks := .later }
def PublishReadsCardSaid : Prop := Claim7.holds Tryd.pinned (.plain (OpenSpec.ofChange publishReadsSpec)) publishReadsCard

/-- THE TIED CARD OF 'switchboardlaw07.PublishBack'. -/
def publishBackCard : Claim7 := { stood := { row := publishBackRow, standIns := [], harness := (true, "1a518b5bfde8895301d3b6b699f4478ca54d7e3bc68b18d8b1752a92cb47cca9"), looks := false }, kinds := [], alts := [], laidByText := true, laidKinds := [.data, .pinned], laidTests := true, laidLooks := .later }
def PublishBackCardSaid : Prop := Claim7.holds Tryd.pinned (.plain (OpenSpec.ofChange publishBackSpec)) publishBackCard

/-- THE TIED CARD OF 'switchboardlaw08.SubscribeReads'. -/
def subscribeReadsCard : Claim7 := { stood := { row := subscribeReadsRow, standIns := [], harness := (true, "1a518b5bfde8895301d3b6b699f4478ca54d7e3bc68b18d8b1752a92cb47cca9"), looks := false }, kinds := [], alts := [], laidByText := true, laidKinds := [.data, .pinned], laidTests := true, laidLooks := .later }
def SubscribeReadsCardSaid : Prop := Claim7.holds Tryd.pinned (.plain (OpenSpec.ofChange subscribeReadsSpec)) subscribeReadsCard

/-- THE TIED CARD OF 'switchboardlaw08.SubscribeWrites'. -/
def subscribeWritesCard : Claim7 := { stood := { row := subscribeWritesRow, standIns := [], harness := (true, "1a518b5bfde8895301d3b6b699f4478ca54d7e3bc68b18d8b1752a92cb47cca9"), looks := false }, kinds := [], alts := [], laidByText := true, laidKinds := [.data, .pinned], laidTests := true, laidLooks := .later }
def SubscribeWritesCardSaid : Prop := Claim7.holds Tryd.pinned (.plain (OpenSpec.ofChange subscribeWritesSpec)) subscribeWritesCard

/-- THE TIED CARD OF 'switchboardlaw08.SubscribeBack'. -/
def subscribeBackCard : Claim7 := { stood := { row := subscribeBackRow, standIns := [], harness := (true, "1a518b5bfde8895301d3b6b699f4478ca54d7e3bc68b18d8b1752a92cb47cca9"), looks := false }, kinds := [], alts := [], laidByText := true, laidKinds := [.data, .pinned], laidTests := true, laidLooks := .later }
def SubscribeBackCardSaid : Prop := Claim7.holds Tryd.pinned (.plain (OpenSpec.ofChange subscribeBackSpec)) subscribeBackCard

/-- THE SECOND FORM's CARD OF 'switchboardlaw06.ConnectReads'. -/
def connectReadsUptoCard : Claim7 := { stood := { row := connectReadsUptoRow, standIns := [], harness := (true, "1a518b5bfde8895301d3b6b699f4478ca54d7e3bc68b18d8b1752a92cb47cca9"), looks := false }, kinds := [], alts := [], laidByText := true, laidKinds := [.data, .pinned], laidTests := true, laidLooks := .later }
def ConnectReadsUptoCardSaid : Prop := Claim7.holds Tryd.pinned (.plain (OpenSpec.upto connectReadsSpec)) connectReadsUptoCard

/-- THE SECOND FORM's CARD OF 'switchboardlaw06.ConnectWrites'. -/
def connectWritesUptoCard : Claim7 := { stood := { row := connectWritesUptoRow, standIns := [], harness := (true, "1a518b5bfde8895301d3b6b699f4478ca54d7e3bc68b18d8b1752a92cb47cca9"), looks := false }, kinds := [], alts := [], laidByText := true, laidKinds := [.data, .pinned], laidTests := true, laidLooks := .later }
def ConnectWritesUptoCardSaid : Prop := Claim7.holds Tryd.pinned (.plain (OpenSpec.upto connectWritesSpec)) connectWritesUptoCard

/-- THE SECOND FORM's CARD OF 'switchboardlaw06.ConnectBack'. -/
def connectBackUptoCard : Claim7 := { stood := { row := connectBackUptoRow, standIns := [], harness := (true, "1a518b5bfde8895301d3b6b699f4478ca54d7e3bc68b18d8b1752a92cb47cca9"), looks := false }, kinds := [], alts := [], laidByText := true, laidKinds := [.data, .pinned], laidTests := true, laidLooks := .later }
def ConnectBackUptoCardSaid : Prop := Claim7.holds Tryd.pinned (.plain (OpenSpec.upto connectBackSpec)) connectBackUptoCard

/-- THE SECOND FORM's CARD OF 'switchboardlaw07.PublishReads'. -/
def publishReadsUptoCard : Claim7 := { stood := { row := publishReadsUptoRow, standIns := [], harness := (true, "1a518b5bfde8895301d3b6b699f4478ca54d7e3bc68b18d8b1752a92cb47cca9"), looks := false }, kinds := [], alts := [], laidByText := true, laidKinds := [.data, .pinned], laidTests := true, laidLooks := .later }
def PublishReadsUptoCardSaid : Prop := Claim7.holds Tryd.pinned (.plain (OpenSpec.upto publishReadsSpec)) publishReadsUptoCard

/-- THE SECOND FORM's CARD OF 'switchboardlaw07.PublishBack'. -/
def publishBackUptoCard : Claim7 := { stood := { row := publishBackUptoRow, standIns := [], harness := (true, "1a518b5bfde8895301d3b6b699f4478ca54d7e3bc68b18d8b1752a92cb47cca9"), looks := false }, kinds := [], alts := [], laidByText := true, laidKinds := [.data, .pinned], laidTests := true, laidLooks := .later }
def PublishBackUptoCardSaid : Prop := Claim7.holds Tryd.pinned (.plain (OpenSpec.upto publishBackSpec)) publishBackUptoCard

/-- THE SECOND FORM's CARD OF 'switchboardlaw08.SubscribeReads'. -/
def subscribeReadsUptoCard : Claim7 := { stood := { row := subscribeReadsUptoRow, standIns := [], harness := (true, "1a518b5bfde8895301d3b6b699f4478ca54d7e3bc68b18d8b1752a92cb47cca9"), looks := false }, kinds := [], alts := [], laidByText := true, laidKinds := [.data, .pinned], laidTests := true, laidLooks := .later }
def SubscribeReadsUptoCardSaid : Prop := Claim7.holds Tryd.pinned (.plain (OpenSpec.upto subscribeReadsSpec)) subscribeReadsUptoCard

/-- THE SECOND FORM's CARD OF 'switchboardlaw08.SubscribeWrites'. -/
def subscribeWritesUptoCard : Claim7 := { stood := { row := subscribeWritesUptoRow, standIns := [], harness := (true, "1a518b5bfde8895301d3b6b699f4478ca54d7e3bc68b18d8b1752a92cb47cca9"), looks := false }, kinds := [], alts := [], laidByText := true, laidKinds := [.data, .pinned], laidTests := true, laidLooks := .later }
def SubscribeWritesUptoCardSaid : Prop := Claim7.holds Tryd.pinned (.plain (OpenSpec.upto subscribeWritesSpec)) subscribeWritesUptoCard

/-- THE SECOND FORM's CARD OF 'switchboardlaw08.SubscribeBack'. -/
def subscribeBackUptoCard : Claim7 := { stood := { row := subscribeBackUptoRow, standIns := [], harness := (true, "1a518b5bfde8895301d3b6b699f4478ca54d7e3bc68b18d8b1752a92cb47cca9"), looks := false }, kinds := [], alts := [], laidByText := true, laidKinds := [.data, .pinned], laidTests := true, laidLooks := .later }
def SubscribeBackUptoCardSaid : Prop := Claim7.holds Tryd.pinned (.plain (OpenSpec.upto subscribeBackSpec)) subscribeBackUptoCard
end Rows
end Go.Proofs.YtacffjimkplieaaDoor
