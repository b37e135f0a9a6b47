/-
  DERIVED. GIVEN WITH THE SEED: THE CARDS: each row of YtdjdmkgiidbnnaaDoorRows.lean that lists a variable, with what it lists TIED to the program's text (the seventh form; the later family's looks); each row that meets fmt, with fmt's text TOLD by the authors' own Lean function (tested against real Go, not proved from fmt's source: count such statements apart). THE CARD IS WHAT COUNTS. Prove the row's statement (the work); the ties are given (YtdjdmkgiidbnnaaDoorTie.lean); close each card by the builder's one call (the guide's Derived/Test/ToyasCard.lean, 'card_holds'). Laid BY PROGRAM, IN A SANDBOX (cutbox-door.mjs). By AI agents, Wed Nov 11 2026. No macro, syntax, notation, axiom, sorry.
-/
import Derived.Test.YtdjdmkgiidbnnaaDoorRows
import GoSem.ClaimSeven
namespace Go.Proofs.YtdjdmkgiidbnnaaDoor
namespace Rows

/-- THE TIED CARD OF 'pinfoldlaw10.ExecSteps'. -/
def execStepsCard : Claim7 := { stood := { row := execStepsRow, standIns := [], harness := (true, "87c384d4dbf0c4dc786f176a0cf7c66c8bbc73cedbb2ea8166db5dcdb9a4da12"), looks := false }, kinds := [], alts := [], laidByText := true, laidKinds := [.data, .data], laidTests := true, laidLooks := .later }
def ExecStepsCardSaid : Prop := Claim7.holds Tryd.pinned (.plain (OpenSpec.ofChange execStepsSpec)) execStepsCard

/-- THE TIED CARD OF 'pinfoldlaw10.ExecRuns'. -/
def execRunsCard : Claim7 := { stood := { row := execRunsRow, standIns := [], harness := (true, "87c384d4dbf0c4dc786f176a0cf7c66c8bbc73cedbb2ea8166db5dcdb9a4da12"), looks := false }, kinds := [], alts := [], laidByText := true, laidKinds := [.data, .data], laidTests := true, laidLooks := .later }
def ExecRunsCardSaid : Prop := Claim7.holds Tryd.pinned (.plain (OpenSpec.ofChange execRunsSpec)) execRunsCard

/-- THE TIED CARD OF 'pinfoldlaw10.ExecHangs'. -/
def execHangsCard : Claim7 := { stood := { row := execHangsRow, standIns := [], harness := (true, "87c384d4dbf0c4dc786f176a0cf7c66c8bbc73cedbb2ea8166db5dcdb9a4da12"), looks := false }, kinds := [], alts := [], laidByText := true, laidKinds := [.data, .data], laidTests := true, laidLooks := .later }
def ExecHangsCardSaid : Prop := Claim7.holds Tryd.pinned (.plain (OpenSpec.ofChange execHangsSpec)) execHangsCard

/-- THE TIED CARD OF 'pinfoldlaw10.ExecSplits'. -/
def execSplitsCard : Claim7 := { stood := { row := execSplitsRow, standIns := [], harness := (true, "87c384d4dbf0c4dc786f176a0cf7c66c8bbc73cedbb2ea8166db5dcdb9a4da12"), looks := false }, kinds := [], alts := [], laidByText := true, laidKinds := [.data, .data], laidTests := true, laidLooks := .later }
def ExecSplitsCardSaid : Prop := Claim7.holds Tryd.pinned (.plain (OpenSpec.ofChange execSplitsSpec)) execSplitsCard

/-- THE TIED CARD OF 'pinfoldlaw26.LintRuns'. -/
def lintRunsCard : Claim7 := { stood := { row := lintRunsRow, standIns := [], harness := (true, "87c384d4dbf0c4dc786f176a0cf7c66c8bbc73cedbb2ea8166db5dcdb9a4da12"), looks := false }, kinds := [], alts := [], laidByText := true, laidKinds := [.data, .data], laidTests := true, laidLooks := .later }
def LintRunsCardSaid : Prop := Claim7.holds Tryd.pinned (.plain (OpenSpec.ofChange lintRunsSpec)) lintRunsCard

/-- THE SECOND FORM's CARD OF 'pinfoldlaw10.ExecSteps'. -/
def execStepsUptoCard : Claim7 := { stood := { row := execStepsUptoRow, standIns := [], harness := (true, "87c384d4dbf0c4dc786f176a0cf7c66c8bbc73cedbb2ea8166db5dcdb9a4da12"), looks := false }, kinds := [], alts := [], laidByText := true, laidKinds := [.data, .data], laidTests := true, laidLooks := .later }
def ExecStepsUptoCardSaid : Prop := Claim7.holds Tryd.pinned (.plain (OpenSpec.upto execStepsSpec)) execStepsUptoCard

/-- THE SECOND FORM's CARD OF 'pinfoldlaw10.ExecRuns'. -/
def execRunsUptoCard : Claim7 := { stood := { row := execRunsUptoRow, standIns := [], harness := (true, "87c384d4dbf0c4dc786f176a0cf7c66c8bbc73cedbb2ea8166db5dcdb9a4da12"), looks := false }, kinds := [], alts := [], laidByText := true, laidKinds := [.data, .data], laidTests := true, laidLooks := .later }
def ExecRunsUptoCardSaid : Prop := Claim7.holds Tryd.pinned (.plain (OpenSpec.upto execRunsSpec)) execRunsUptoCard

/-- THE SECOND FORM's CARD OF 'pinfoldlaw10.ExecHangs'. -/
def execHangsUptoCard : Claim7 := { stood := { row := execHangsUptoRow, standIns := [], harness := (true, "87c384d4dbf0c4dc786f176a0cf7c66c8bbc73cedbb2ea8166db5dcdb9a4da12"), looks := false }, kinds := [], alts := [], laidByText := true, laidKinds := [.data, .data], laidTests := true, laidLooks := .later }
def ExecHangsUptoCardSaid : Prop := Claim7.holds Tryd.pinned (.plain (OpenSpec.upto execHangsSpec)) execHangsUptoCard

/-- THE SECOND FORM's CARD OF 'pinfoldlaw10.ExecSplits'. -/
def execSplitsUptoCard : Claim7 := { stood := { row := execSplitsUptoRow, standIns := [], harness := (true, "87c384d4dbf0c4dc786f176a0cf7c66c8bbc73cedbb2ea8166db5dcdb9a4da12"), looks := false }, kinds := [], alts := [], laidByText := true, laidKinds := [.data, .data], laidTests := true, laidLooks := .later }
def ExecSplitsUptoCardSaid : Prop := Claim7.holds Tryd.pinned (.plain (OpenSpec.upto execSplitsSpec)) execSplitsUptoCard

/-- THE SECOND FORM's CARD OF 'pinfoldlaw26.LintRuns'. -/
def lintRunsUptoCard : Claim7 := { stood := { row := lintRunsUptoRow, standIns := [], harness := (true, "87c384d4dbf0c4dc786f176a0cf7c66c8bbc73cedbb2ea8166db5dcdb9a4da12"), looks := false }, kinds := [], alts := [], laidByText := true, laidKinds := [.data, .data], laidTests := true, laidLooks := .later }
def LintRunsUptoCardSaid : Prop := Claim7.holds Tryd.pinned (.plain (OpenSpec.upto lintRunsSpec)) lintRunsUptoCard
end Rows
end Go.Proofs.YtdjdmkgiidbnnaaDoor
