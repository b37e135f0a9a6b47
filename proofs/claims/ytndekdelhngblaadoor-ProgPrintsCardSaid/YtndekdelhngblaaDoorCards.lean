/-
  DERIVED. GIVEN WITH THE SEED: THE CARDS: each row of YtndekdelhngblaaDoorRows.lean that lists a variable, with what it lists TIED to the program's text (the seventh form; the later family's looks); each row that meets fmt, with fmt's text TOLD by the authors' own Lean function (tested against real Go, not proved from fmt's source: count such statements apart). THE CARD IS WHAT COUNTS. Prove the row's statement (the work); the ties are given (YtndekdelhngblaaDoorTie.lean); close each card by the builder's one call (the guide's Derived/Test/ToyasCard.lean, 'card_holds'). Laid BY PROGRAM, IN A SANDBOX (cutbox-door.mjs). By AI agents, Wed Nov 11 2026. No macro, syntax, notation, axiom, sorry.
-/
import Derived.Test.YtndekdelhngblaaDoorRows
import GoSem.ClaimSeven
namespace Go.Proofs.YtndekdelhngblaaDoor
namespace Rows

/-- THE TIED CARD OF 'pinfoldlaw09.ProgChecks'. -/
def progChecksCard : Claim7 := { stood := { row := progChecksRow, standIns := [], harness := (true, "66cd27a551862af5c215e73eb8a85fe2234af8ed8ae6439a73366e5b6291d6e5"), looks := true }, kinds := [], alts := [], laidByText := true, laidKinds := [.data, .data, .data, .data, .sentinel, .sentinel, .data, .pinned], laidTests := true, laidLooks := .later }
def ProgChecksCardSaid : Prop := Claim7.holds Tryd.pinned (.plain (OpenSpec.ofChange progChecksSpec)) progChecksCard

/-- THE TIED CARD OF 'pinfoldlaw09.ProgPrints'. -/
def progPrintsCard : Claim7 := { stood := { row := progPrintsRow, standIns := [], harness := (true, "66cd27a551862af5c215e73eb8a85fe2234af8ed8ae6439a73366e5b6291d6e5"), looks := true }, kinds := [], alts := [], laidByText := true, laidKinds := [.data, .data, .data, .data, .sentinel, .sentinel, .data, .pinned], laidTests := true, laidLooks := .later }
def ProgPrintsCardSaid : Prop := Claim7.holds Tryd.pinned (.plain (OpenSpec.ofChange progPrintsSpec)) progPrintsCard

/-- THE TIED CARD OF 'pinfoldlaw09.ProgParses'. -/
def progParsesCard : Claim7 := { stood := { row := progParsesRow, standIns := [], harness := (true, "66cd27a551862af5c215e73eb8a85fe2234af8ed8ae6439a73366e5b6291d6e5"), looks := true }, kinds := [], alts := [], laidByText := true, laidKinds := [.data, .data, .data, .data, .sentinel, .sentinel, .data, .pinned], laidTests := true, laidLooks := .later }
def ProgParsesCardSaid : Prop := Claim7.holds Tryd.pinned (.plain (OpenSpec.ofChange progParsesSpec)) progParsesCard

/-- THE SECOND FORM's CARD OF 'pinfoldlaw09.ProgChecks'. -/
def progChecksUptoCard : Claim7 := { stood := { row := progChecksUptoRow, standIns := [], harness := (true, "66cd27a551862af5c215e73eb8a85fe2234af8ed8ae6439a73366e5b6291d6e5"), looks := true }, kinds := [], alts := [], laidByText := true, laidKinds := [.data, .data, .data, .data, .sentinel, .sentinel, .data, .pinned], laidTests := true, laidLooks := .later }
def ProgChecksUptoCardSaid : Prop := Claim7.holds Tryd.pinned (.plain (OpenSpec.upto progChecksSpec)) progChecksUptoCard

/-- THE SECOND FORM's CARD OF 'pinfoldlaw09.ProgPrints'. -/
def progPrintsUptoCard : Claim7 := { stood := { row := progPrintsUptoRow, standIns := [], harness := (true, "66cd27a551862af5c215e73eb8a85fe2234af8ed8ae6439a73366e5b6291d6e5"), looks := true }, kinds := [], alts := [], laidByText := true, laidKinds := [.data, .data, .data, .data, .sentinel, .sentinel, .data, .pinned], laidTests := true, laidLooks := .later }
def ProgPrintsUptoCardSaid : Prop := Claim7.holds Tryd.pinned (.plain (OpenSpec.upto progPrintsSpec)) progPrintsUptoCard

/-- THE SECOND FORM's CARD OF 'pinfoldlaw09.ProgParses'. -/
def progParsesUptoCard : Claim7 := { stood := { row := progParsesUptoRow, standIns := [], harness := (true, "66cd27a551862af5c215e73eb8a85fe2234af8ed8ae6439a73366e5b6291d6e5"), looks := true }, kinds := [], alts := [], laidByText := true, laidKinds := [.data, .data, .data, .data, .sentinel, .sentinel, .data, .pinned], laidTests := true, laidLooks := .later }
def ProgParsesUptoCardSaid : Prop := Claim7.holds Tryd.pinned (.plain (OpenSpec.upto progParsesSpec)) progParsesUptoCard
end Rows
end Go.Proofs.YtndekdelhngblaaDoor
