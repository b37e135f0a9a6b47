/-
  DERIVED. GIVEN WITH THE SEED: THE CARDS: each row of YtilaalleiiakoaaDoorRows.lean that lists a variable, with what it lists TIED to the program's text (the seventh form; the later family's looks); each row that meets fmt, with fmt's text TOLD by the authors' own Lean function (tested against real Go, not proved from fmt's source: count such statements apart). THE CARD IS WHAT COUNTS. Prove the row's statement (the work); the ties are given (YtilaalleiiakoaaDoorTie.lean); close each card by the builder's one call (the guide's Derived/Test/ToyasCard.lean, 'card_holds'). Laid BY PROGRAM, IN A SANDBOX (cutbox-door.mjs). By AI agents, Wed Nov 11 2026. No macro, syntax, notation, axiom, sorry.
-/
import Derived.Test.YtilaalleiiakoaaDoorRows
import GoSem.ClaimSeven
namespace Go.Proofs.YtilaalleiiakoaaDoor
namespace Rows

/-- THE TIED CARD OF 'pinfoldlaw19.FlatPlays'. -/
def flatPlaysCard : Claim7 := { stood := { row := flatPlaysRow, standIns := [], harness := (true, "90b52a9c1393178c7f292230c2e16f708dba733f7bed999fe34f1f0ad394e3e3"), looks := false }, kinds := [], alts := [], laidByText := true, laidKinds := [.data, .data], laidTests := true, laidLooks := .later }
def FlatPlaysCardSaid : Prop := Claim7.holds Tryd.pinned (.plain (OpenSpec.ofChange flatPlaysSpec)) flatPlaysCard

/-- THE TIED CARD OF 'pinfoldlaw19.FlatKeeps'. -/
def flatKeepsCard : Claim7 := { stood := { row := flatKeepsRow, standIns := [], harness := (true, "90b52a9c1393178c7f292230c2e16f708dba733f7bed999fe34f1f0ad394e3e3"), looks := false }, kinds := [], alts := [], laidByText := true, laidKinds := [.data, .data], laidTests := true, laidLooks := .later }
def FlatKeepsCardSaid : Prop := Claim7.holds Tryd.pinned (.plain (OpenSpec.ofChange flatKeepsSpec)) flatKeepsCard

/-- THE TIED CARD OF 'pinfoldlaw19.FlatSplits'. -/
def flatSplitsCard : Claim7 := { stood := { row := flatSplitsRow, standIns := [], harness := (true, "90b52a9c1393178c7f292230c2e16f708dba733f7bed999fe34f1f0ad394e3e3"), looks := false }, kinds := [], alts := [], laidByText := true, laidKinds := [.data, .data], laidTests := true, laidLooks := .later }
def FlatSplitsCardSaid : Prop := Claim7.holds Tryd.pinned (.plain (OpenSpec.ofChange flatSplitsSpec)) flatSplitsCard

/-- THE SECOND FORM's CARD OF 'pinfoldlaw19.FlatPlays'. -/
def flatPlaysUptoCard : Claim7 := { stood := { row := flatPlaysUptoRow, standIns := [], harness := (true, "90b52a9c1393178c7f292230c2e16f708dba733f7bed999fe34f1f0ad394e3e3"), looks := false }, kinds := [], alts := [], laidByText := true, laidKinds := [.data, .data], laidTests := true, laidLooks := .later }
def FlatPlaysUptoCardSaid : Prop := Claim7.holds Tryd.pinned (.plain (OpenSpec.upto flatPlaysSpec)) flatPlaysUptoCard

/-- THE SECOND FORM's CARD OF 'pinfoldlaw19.FlatKeeps'. -/
def flatKeepsUptoCard : Claim7 := { stood := { row := flatKeepsUptoRow, standIns := [], harness := (true, "90b52a9c1393178c7f292230c2e16f708dba733f7bed999fe34f1f0ad394e3e3"), looks := false }, kinds := [], alts := [], laidByText := true, laidKinds := [.data, .data], laidTests := true, laidLooks := .later }
def FlatKeepsUptoCardSaid : Prop := Claim7.holds Tryd.pinned (.plain (OpenSpec.upto flatKeepsSpec)) flatKeepsUptoCard

/-- THE SECOND FORM's CARD OF 'pinfoldlaw19.FlatSplits'. -/
def flatSplitsUptoCard : Claim7 := { stood := { row := flatSplitsUptoRow, standIns := [], harness := (true, "90b52a9c1393178c7f292230c2e16f708dba733f7bed999fe34f1f0ad394e3e3"), looks := false }, kinds := [], alts := [], laidByText := true, laidKinds := [.data, .data], laidTests := true, laidLooks := .later }
def FlatSplitsUptoCardSaid : Prop := Claim7.holds Tryd.pinned (.plain (OpenSpec.upto flatSplitsSpec)) flatSplitsUptoCard
end Rows
end Go.Proofs.YtilaalleiiakoaaDoor
