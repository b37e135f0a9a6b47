/-
  NARROWER THAN 'FOR EVERY INPUT', by the rows' own cells (each row's printed sentence says how): ExecSteps: laid · ExecRuns: laid · ExecHangs: laid · ExecSplits: laid · LintRuns: laid.
  DERIVED. THE GIVEN ROWS OF THIS SEAT. 5 by the template 'for every input the law returns true; each argument reads behind the call as it read before'; 0 by the template 'total and deterministic' (their statements: YtdjdmkgiidbnnaaDoorTotals.lean).
  GIVEN WITH THE SEED: the statements are not yours to turn. If you find one false, say at which input.
  Laid BY PROGRAM, IN A SANDBOX (cutbox-rows.mjs): the forced cells as the released guide's own fill.sh prints them over the translation 678670f369745176… (all of the seat's roots in one cut). By AI agents, Wed Nov 11 2026. No macro, syntax, notation, axiom, sorry.
-/
import Derived.Test.YtdjdmkgiidbnnaaDoorChecked
import GoSem.Claim
import GoSem.ClaimJoined
import GoSem.ClaimMapViews
import Derived.JoinedTies
import Derived.KernelRfl
namespace Go.Proofs.YtdjdmkgiidbnnaaDoor
/- THE CELL 'sum', in the pinned program and in every row, IS THE sha256 OF THE DUMP (.gsa) THAT YtdjdmkgiidbnnaaDoorProg.lean LOADS. Nothing in Lean hashes anything: it is a label: what it is worth is what the hold of that sum in a sandbox is worth. -/
noncomputable def Tryd.pinned : Pinned := { name := "ytdjdmkgiidbnnaadoor", sum := "678670f369745176be6feff7d13ac4cda89506a91a1b593c2af62f08e3948974", checked := Tryd.checked }
namespace Rows
def none {H : Type} : Left H := { results := [], args := [] }

/- WHAT THE LISTED PACKAGE-LEVEL VARIABLES READ AS WHEN THE CALL BEGINS. Each datum BY PROGRAM (the guide's laid-datum.mjs) off the statement by which the dump's own 'gosem.cut.vars' lays the variable. In a bare row this is a premise. The card (YtdjdmkgiidbnnaaDoorCards.lean) ties it to the program's text. -/
def laid_pinfold_prog_names {H : Type} : DataW H := .agg [.lit (.string []), .lit (.string [115, 101, 116]), .lit (.string [97, 100, 100]), .lit (.string [115, 117, 98]), .lit (.string [106, 117, 109, 112]), .lit (.string [106, 110, 122]), .lit (.string [121, 105, 101, 108, 100]), .lit (.string [115, 112, 97, 119, 110]), .lit (.string [106, 111, 105, 110]), .lit (.string [108, 111, 99, 107]), .lit (.string [117, 110, 108, 111, 99, 107]), .lit (.string [115, 108, 101, 101, 112]), .lit (.string [109, 97, 115, 107]), .lit (.string [111, 117, 116]), .lit (.string [101, 120, 105, 116])]
def laid_pinfold_exec_refused {H : Type} : DataW H := .agg [.lit (.int .i64 14), .lit (.int .i64 0), .lit (.int .i32 (-1))]

/-- 'pinfoldlaw10.ExecSteps': WHATEVER THE INPUT: true; the input reads as it did. -/
def execStepsSpec : ChangeSpec := { name := "execSteps", fn := fun _ => fun
  | [d1, d2, d3] => { results := [.lit (.bool true)], args := [d1, d2, d3] }
  | _ => none }
def execStepsRow : OpenClaim := { program := "ytdjdmkgiidbnnaadoor", sum := "678670f369745176be6feff7d13ac4cda89506a91a1b593c2af62f08e3948974", func := "pinfold/pinfoldlaw10.ExecSteps", spec := "execSteps", named := ["pinfold/exec.refused", "pinfold/prog.names"], apart := false, laid := [("pinfold/prog.names", laid_pinfold_prog_names), ("pinfold/exec.refused", laid_pinfold_exec_refused)] }
def ExecStepsSaid : Prop := execStepsRow.holds Tryd.pinned (OpenSpec.ofChange execStepsSpec)

/-- ITS FALSE NEIGHBOUR: 'it returns false'. Refute it at one input. -/
def execStepsWrong : ChangeSpec := { name := "execSteps", fn := fun _ => fun
  | [d1, d2, d3] => { results := [.lit (.bool false)], args := [d1, d2, d3] }
  | _ => none }
def ExecStepsWrongFalsely : Prop := execStepsRow.holds Tryd.pinned (OpenSpec.ofChange execStepsWrong)

/-- 'pinfoldlaw10.ExecRuns': WHATEVER THE INPUT: true; the input reads as it did. -/
def execRunsSpec : ChangeSpec := { name := "execRuns", fn := fun _ => fun
  | [d1, d2, d3] => { results := [.lit (.bool true)], args := [d1, d2, d3] }
  | _ => none }
def execRunsRow : OpenClaim := { program := "ytdjdmkgiidbnnaadoor", sum := "678670f369745176be6feff7d13ac4cda89506a91a1b593c2af62f08e3948974", func := "pinfold/pinfoldlaw10.ExecRuns", spec := "execRuns", named := ["pinfold/exec.refused", "pinfold/prog.names"], apart := false, laid := [("pinfold/prog.names", laid_pinfold_prog_names), ("pinfold/exec.refused", laid_pinfold_exec_refused)] }
def ExecRunsSaid : Prop := execRunsRow.holds Tryd.pinned (OpenSpec.ofChange execRunsSpec)

/-- ITS FALSE NEIGHBOUR: 'it returns false'. Refute it at one input. -/
def execRunsWrong : ChangeSpec := { name := "execRuns", fn := fun _ => fun
  | [d1, d2, d3] => { results := [.lit (.bool false)], args := [d1, d2, d3] }
  | _ => none }
def ExecRunsWrongFalsely : Prop := execRunsRow.holds Tryd.pinned (OpenSpec.ofChange execRunsWrong)

/-- 'pinfoldlaw10.ExecHangs': WHATEVER THE INPUT: true; the input reads as it did. -/
def execHangsSpec : ChangeSpec := { name := "execHangs", fn := fun _ => fun
  | [d1, d2, d3] => { results := [.lit (.bool true)], args := [d1, d2, d3] }
  | _ => none }
def execHangsRow : OpenClaim := { program := "ytdjdmkgiidbnnaadoor", sum := "678670f369745176be6feff7d13ac4cda89506a91a1b593c2af62f08e3948974", func := "pinfold/pinfoldlaw10.ExecHangs", spec := "execHangs", named := ["pinfold/exec.refused", "pinfold/prog.names"], apart := false, laid := [("pinfold/prog.names", laid_pinfold_prog_names), ("pinfold/exec.refused", laid_pinfold_exec_refused)] }
def ExecHangsSaid : Prop := execHangsRow.holds Tryd.pinned (OpenSpec.ofChange execHangsSpec)

/-- ITS FALSE NEIGHBOUR: 'it returns false'. Refute it at one input. -/
def execHangsWrong : ChangeSpec := { name := "execHangs", fn := fun _ => fun
  | [d1, d2, d3] => { results := [.lit (.bool false)], args := [d1, d2, d3] }
  | _ => none }
def ExecHangsWrongFalsely : Prop := execHangsRow.holds Tryd.pinned (OpenSpec.ofChange execHangsWrong)

/-- 'pinfoldlaw10.ExecSplits': WHATEVER THE INPUT: true; the input reads as it did. -/
def execSplitsSpec : ChangeSpec := { name := "execSplits", fn := fun _ => fun
  | [d1, d2, d3] => { results := [.lit (.bool true)], args := [d1, d2, d3] }
  | _ => none }
def execSplitsRow : OpenClaim := { program := "ytdjdmkgiidbnnaadoor", sum := "678670f369745176be6feff7d13ac4cda89506a91a1b593c2af62f08e3948974", func := "pinfold/pinfoldlaw10.ExecSplits", spec := "execSplits", named := ["pinfold/exec.refused", "pinfold/prog.names"], apart := false, laid := [("pinfold/prog.names", laid_pinfold_prog_names), ("pinfold/exec.refused", laid_pinfold_exec_refused)] }
def ExecSplitsSaid : Prop := execSplitsRow.holds Tryd.pinned (OpenSpec.ofChange execSplitsSpec)

/-- ITS FALSE NEIGHBOUR: 'it returns false'. Refute it at one input. -/
def execSplitsWrong : ChangeSpec := { name := "execSplits", fn := fun _ => fun
  | [d1, d2, d3] => { results := [.lit (.bool false)], args := [d1, d2, d3] }
  | _ => none }
def ExecSplitsWrongFalsely : Prop := execSplitsRow.holds Tryd.pinned (OpenSpec.ofChange execSplitsWrong)

/-- 'pinfoldlaw26.LintRuns': WHATEVER THE INPUT: true; the input reads as it did. -/
def lintRunsSpec : ChangeSpec := { name := "lintRuns", fn := fun _ => fun
  | [d1, d2] => { results := [.lit (.bool true)], args := [d1, d2] }
  | _ => none }
def lintRunsRow : OpenClaim := { program := "ytdjdmkgiidbnnaadoor", sum := "678670f369745176be6feff7d13ac4cda89506a91a1b593c2af62f08e3948974", func := "pinfold/pinfoldlaw26.LintRuns", spec := "lintRuns", unfollowed := true, recurses := true, named := ["pinfold/exec.refused", "pinfold/prog.names"], apart := false, laid := [("pinfold/prog.names", laid_pinfold_prog_names), ("pinfold/exec.refused", laid_pinfold_exec_refused)] }
def LintRunsSaid : Prop := lintRunsRow.holds Tryd.pinned (OpenSpec.ofChange lintRunsSpec)

/-- ITS FALSE NEIGHBOUR: 'it returns false'. Refute it at one input. -/
def lintRunsWrong : ChangeSpec := { name := "lintRuns", fn := fun _ => fun
  | [d1, d2] => { results := [.lit (.bool false)], args := [d1, d2] }
  | _ => none }
def LintRunsWrongFalsely : Prop := lintRunsRow.holds Tryd.pinned (OpenSpec.ofChange lintRunsWrong)

/- THE SECOND FORM. 'bulk': how many values and letters a reading holds, each counted each time it is reached (what is shared counts as often as it is met; a slice's spare places count too). A statement '..UptoSaid' is the law's where the arguments, and the package variables that the reading takes, are together of bulk at most 1048576: NARROWER than '..Said'. Prove '..Said' where nothing that the law and all that it calls make is longer than what came in: it says more and counts as full. Else prove '..UptoSaid'. A law counts once. -/
mutual
def uptoBulk {H : Type} : DataW H → Nat
  | .lit (.string bytes) => bytes.length + 1
  | .lit _ => 1
  | .nil => 1
  | .ptr d => uptoBulk d + 1
  | .slice elems spare => uptoBulkAll elems + uptoBulkAll spare + 1
  | .agg parts => uptoBulkAll parts + 1
  | .iface _ d => uptoBulk d + 1
  | .map entries => uptoBulkEntries entries + 1
  | .held _ => 1
def uptoBulkAll {H : Type} : List (DataW H) → Nat
  | [] => 0
  | d :: r => uptoBulk d + uptoBulkAll r
def uptoBulkEntries {H : Type} : List (Lit × DataW H) → Nat
  | [] => 0
  | x :: r => uptoBulkEntry x + uptoBulkEntries r
def uptoBulkEntry {H : Type} : Lit × DataW H → Nat
  | (.string bytes, d) => bytes.length + uptoBulk d + 1
  | (_, d) => uptoBulk d + 1
 end
def uptoSmall : (H : Type) → List (DataW H) → Bool := fun _ ds => decide (uptoBulkAll ds ≤ 1048576)
def OpenSpec.upto (s : _root_.Go.ChangeSpec) : _root_.Go.OpenSpec := { _root_.Go.OpenSpec.ofChange s with cond := some uptoSmall }

/-- 'pinfoldlaw10.ExecSteps', WHERE WHAT IT READS IS OF BULK AT MOST 1048576: true; the input reads as it did. -/
def execStepsUptoRow : OpenClaim := { program := "ytdjdmkgiidbnnaadoor", sum := "678670f369745176be6feff7d13ac4cda89506a91a1b593c2af62f08e3948974", func := "pinfold/pinfoldlaw10.ExecSteps", spec := "execSteps", named := ["pinfold/exec.refused", "pinfold/prog.names"], apart := false, laid := [("pinfold/prog.names", laid_pinfold_prog_names), ("pinfold/exec.refused", laid_pinfold_exec_refused)], narrowed := true }
def ExecStepsUptoSaid : Prop := execStepsUptoRow.holds Tryd.pinned (OpenSpec.upto execStepsSpec)

/-- 'pinfoldlaw10.ExecRuns', WHERE WHAT IT READS IS OF BULK AT MOST 1048576: true; the input reads as it did. -/
def execRunsUptoRow : OpenClaim := { program := "ytdjdmkgiidbnnaadoor", sum := "678670f369745176be6feff7d13ac4cda89506a91a1b593c2af62f08e3948974", func := "pinfold/pinfoldlaw10.ExecRuns", spec := "execRuns", named := ["pinfold/exec.refused", "pinfold/prog.names"], apart := false, laid := [("pinfold/prog.names", laid_pinfold_prog_names), ("pinfold/exec.refused", laid_pinfold_exec_refused)], narrowed := true }
def ExecRunsUptoSaid : Prop := execRunsUptoRow.holds Tryd.pinned (OpenSpec.upto execRunsSpec)

/-- 'pinfoldlaw10.ExecHangs', WHERE WHAT IT READS IS OF BULK AT MOST 1048576: true; the input reads as it did. -/
def execHangsUptoRow : OpenClaim := { program := "ytdjdmkgiidbnnaadoor", sum := "678670f369745176be6feff7d13ac4cda89506a91a1b593c2af62f08e3948974", func := "pinfold/pinfoldlaw10.ExecHangs", spec := "execHangs", named := ["pinfold/exec.refused", "pinfold/prog.names"], apart := false, laid := [("pinfold/prog.names", laid_pinfold_prog_names), ("pinfold/exec.refused", laid_pinfold_exec_refused)], narrowed := true }
def ExecHangsUptoSaid : Prop := execHangsUptoRow.holds Tryd.pinned (OpenSpec.upto execHangsSpec)

/-- 'pinfoldlaw10.ExecSplits', WHERE WHAT IT READS IS OF BULK AT MOST 1048576: true; the input reads as it did. -/
def execSplitsUptoRow : OpenClaim := { program := "ytdjdmkgiidbnnaadoor", sum := "678670f369745176be6feff7d13ac4cda89506a91a1b593c2af62f08e3948974", func := "pinfold/pinfoldlaw10.ExecSplits", spec := "execSplits", named := ["pinfold/exec.refused", "pinfold/prog.names"], apart := false, laid := [("pinfold/prog.names", laid_pinfold_prog_names), ("pinfold/exec.refused", laid_pinfold_exec_refused)], narrowed := true }
def ExecSplitsUptoSaid : Prop := execSplitsUptoRow.holds Tryd.pinned (OpenSpec.upto execSplitsSpec)

/-- 'pinfoldlaw26.LintRuns', WHERE WHAT IT READS IS OF BULK AT MOST 1048576: true; the input reads as it did. -/
def lintRunsUptoRow : OpenClaim := { program := "ytdjdmkgiidbnnaadoor", sum := "678670f369745176be6feff7d13ac4cda89506a91a1b593c2af62f08e3948974", func := "pinfold/pinfoldlaw26.LintRuns", spec := "lintRuns", unfollowed := true, recurses := true, named := ["pinfold/exec.refused", "pinfold/prog.names"], apart := false, laid := [("pinfold/prog.names", laid_pinfold_prog_names), ("pinfold/exec.refused", laid_pinfold_exec_refused)], narrowed := true }
def LintRunsUptoSaid : Prop := lintRunsUptoRow.holds Tryd.pinned (OpenSpec.upto lintRunsSpec)

end Rows
end Go.Proofs.YtdjdmkgiidbnnaaDoor
