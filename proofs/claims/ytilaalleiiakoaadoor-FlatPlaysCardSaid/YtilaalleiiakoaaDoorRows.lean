/-
  NARROWER THAN 'FOR EVERY INPUT', by the rows' own cells (each row's printed sentence says how): FlatPlays: laid · FlatKeeps: laid · FlatSplits: laid.
  DERIVED. THE GIVEN ROWS OF THIS SEAT. 3 by the template 'for every input the law returns true; each argument reads behind the call as it read before'; 0 by the template 'total and deterministic' (their statements: YtilaalleiiakoaaDoorTotals.lean).
  GIVEN WITH THE SEED: the statements are not yours to turn. If you find one false, say at which input.
  Laid BY PROGRAM, IN A SANDBOX (cutbox-rows.mjs): the forced cells as the released guide's own fill.sh prints them over the translation 252eb5d5ec2f6b1c… (all of the seat's roots in one cut). By AI agents, Wed Nov 11 2026. No macro, syntax, notation, axiom, sorry.
-/
import Derived.Test.YtilaalleiiakoaaDoorChecked
import GoSem.Claim
import GoSem.ClaimJoined
import GoSem.ClaimMapViews
import Derived.JoinedTies
import Derived.KernelRfl
namespace Go.Proofs.YtilaalleiiakoaaDoor
/- THE CELL 'sum', in the pinned program and in every row, IS THE sha256 OF THE DUMP (.gsa) THAT YtilaalleiiakoaaDoorProg.lean LOADS. Nothing in Lean hashes anything: it is a label: what it is worth is what the hold of that sum in a sandbox is worth. -/
noncomputable def Tryd.pinned : Pinned := { name := "ytilaalleiiakoaadoor", sum := "252eb5d5ec2f6b1c28761a4b3ebedd9cead3bcb6bd786b838db291d5fa3a218c", checked := Tryd.checked }
namespace Rows
def none {H : Type} : Left H := { results := [], args := [] }

/- WHAT THE LISTED PACKAGE-LEVEL VARIABLES READ AS WHEN THE CALL BEGINS. Each datum BY PROGRAM (the guide's laid-datum.mjs) off the statement by which the dump's own 'gosem.cut.vars' lays the variable. In a bare row this is a premise. The card (YtilaalleiiakoaaDoorCards.lean) ties it to the program's text. -/
def laid_pinfold_prog_names {H : Type} : DataW H := .agg [.lit (.string []), .lit (.string [115, 101, 116]), .lit (.string [97, 100, 100]), .lit (.string [115, 117, 98]), .lit (.string [106, 117, 109, 112]), .lit (.string [106, 110, 122]), .lit (.string [121, 105, 101, 108, 100]), .lit (.string [115, 112, 97, 119, 110]), .lit (.string [106, 111, 105, 110]), .lit (.string [108, 111, 99, 107]), .lit (.string [117, 110, 108, 111, 99, 107]), .lit (.string [115, 108, 101, 101, 112]), .lit (.string [109, 97, 115, 107]), .lit (.string [111, 117, 116]), .lit (.string [101, 120, 105, 116])]
def laid_pinfold_exec_refused {H : Type} : DataW H := .agg [.lit (.int .i64 14), .lit (.int .i64 0), .lit (.int .i32 (-1))]

/-- 'pinfoldlaw19.FlatPlays': WHATEVER THE INPUT: true; the input reads as it did. -/
def flatPlaysSpec : ChangeSpec := { name := "flatPlays", fn := fun _ => fun
  | [d1, d2, d3] => { results := [.lit (.bool true)], args := [d1, d2, d3] }
  | _ => none }
def flatPlaysRow : OpenClaim := { program := "ytilaalleiiakoaadoor", sum := "252eb5d5ec2f6b1c28761a4b3ebedd9cead3bcb6bd786b838db291d5fa3a218c", func := "pinfold/pinfoldlaw19.FlatPlays", spec := "flatPlays", unfollowed := true, recurses := true, named := ["pinfold/exec.refused", "pinfold/prog.names"], apart := false, laid := [("pinfold/prog.names", laid_pinfold_prog_names), ("pinfold/exec.refused", laid_pinfold_exec_refused)] }
def FlatPlaysSaid : Prop := flatPlaysRow.holds Tryd.pinned (OpenSpec.ofChange flatPlaysSpec)

/-- ITS FALSE NEIGHBOUR: 'it returns false'. Refute it at one input. -/
def flatPlaysWrong : ChangeSpec := { name := "flatPlays", fn := fun _ => fun
  | [d1, d2, d3] => { results := [.lit (.bool false)], args := [d1, d2, d3] }
  | _ => none }
def FlatPlaysWrongFalsely : Prop := flatPlaysRow.holds Tryd.pinned (OpenSpec.ofChange flatPlaysWrong)

/-- 'pinfoldlaw19.FlatKeeps': WHATEVER THE INPUT: true; the input reads as it did. -/
def flatKeepsSpec : ChangeSpec := { name := "flatKeeps", fn := fun _ => fun
  | [d1, d2, d3] => { results := [.lit (.bool true)], args := [d1, d2, d3] }
  | _ => none }
def flatKeepsRow : OpenClaim := { program := "ytilaalleiiakoaadoor", sum := "252eb5d5ec2f6b1c28761a4b3ebedd9cead3bcb6bd786b838db291d5fa3a218c", func := "pinfold/pinfoldlaw19.FlatKeeps", spec := "flatKeeps", unfollowed := true, recurses := true, named := ["pinfold/exec.refused", "pinfold/prog.names"], apart := false, laid := [("pinfold/prog.names", laid_pinfold_prog_names), ("pinfold/exec.refused", laid_pinfold_exec_refused)] }
def FlatKeepsSaid : Prop := flatKeepsRow.holds Tryd.pinned (OpenSpec.ofChange flatKeepsSpec)

/-- ITS FALSE NEIGHBOUR: 'it returns false'. Refute it at one input. -/
def flatKeepsWrong : ChangeSpec := { name := "flatKeeps", fn := fun _ => fun
  | [d1, d2, d3] => { results := [.lit (.bool false)], args := [d1, d2, d3] }
  | _ => none }
def FlatKeepsWrongFalsely : Prop := flatKeepsRow.holds Tryd.pinned (OpenSpec.ofChange flatKeepsWrong)

/-- 'pinfoldlaw19.FlatSplits': WHATEVER THE INPUT: true; the input reads as it did. -/
def flatSplitsSpec : ChangeSpec := { name := "flatSplits", fn := fun _ => fun
  | [d1, d2, d3] => { results := [.lit (.bool true)], args := [d1, d2, d3] }
  | _ => none }
def flatSplitsRow : OpenClaim := { program := "ytilaalleiiakoaadoor", sum := "252eb5d5ec2f6b1c28761a4b3ebedd9cead3bcb6bd786b838db291d5fa3a218c", func := "pinfold/pinfoldlaw19.FlatSplits", spec := "flatSplits", unfollowed := true, recurses := true, named := ["pinfold/exec.refused", "pinfold/prog.names"], apart := false, laid := [("pinfold/prog.names", laid_pinfold_prog_names), ("pinfold/exec.refused", laid_pinfold_exec_refused)] }
def FlatSplitsSaid : Prop := flatSplitsRow.holds Tryd.pinned (OpenSpec.ofChange flatSplitsSpec)

/-- ITS FALSE NEIGHBOUR: 'it returns false'. Refute it at one input. -/
def flatSplitsWrong : ChangeSpec := { name := "flatSplits", fn := fun _ => fun
  | [d1, d2, d3] => { results := [.lit (.bool false)], args := [d1, d2, d3] }
  | _ => none }
def FlatSplitsWrongFalsely : Prop := flatSplitsRow.holds Tryd.pinned (OpenSpec.ofChange flatSplitsWrong)

/- THE SECOND FORM. 'bulk': how many values and letters a reading holds, each counted each time it is reached (what is shared counts as often as it is met; a slice's spare places count too). A statement '..UptoSaid' is the law's where the arguments, and the package variables that the reading takes, are together of bulk at most 1048576: NARROWER than '..Said'. Prove '..Said' where nothing that the law and all that it calls make is longer than what came in: it says more and counts as full. Else prove '..UptoSaid'. A law counts once. -/
mutual
def uptoBulk {H : Type} : DataW H → Nat
  | .lit (.string bytes) => bytes.length + 1
  | .lit _ => 1
  | .nil => 1
  | .ptr d => uptoBulk d + 1
  | .slice elems spare => uptoBulkAll elems + uptoBulkAll spare + 1
  | .agg parts => uptoBulkAll parts + 1
  | .iface _ d => uptoBulk d + 1
  | .map entries => uptoBulkEntries entries + 1
  | .held _ => 1
def uptoBulkAll {H : Type} : List (DataW H) → Nat
  | [] => 0
  | d :: r => uptoBulk d + uptoBulkAll r
def uptoBulkEntries {H : Type} : List (Lit × DataW H) → Nat
  | [] => 0
  | x :: r => uptoBulkEntry x + uptoBulkEntries r
def uptoBulkEntry {H : Type} : Lit × DataW H → Nat
  | (.string bytes, d) => bytes.length + uptoBulk d + 1
  | (_, d) => uptoBulk d + 1
 end
def uptoSmall : (H : Type) → List (DataW H) → Bool := fun _ ds => decide (uptoBulkAll ds ≤ 1048576)
def OpenSpec.upto (s : _root_.Go.ChangeSpec) : _root_.Go.OpenSpec := { _root_.Go.OpenSpec.ofChange s with cond := some uptoSmall }

/-- 'pinfoldlaw19.FlatPlays', WHERE WHAT IT READS IS OF BULK AT MOST 1048576: true; the input reads as it did. -/
def flatPlaysUptoRow : OpenClaim := { program := "ytilaalleiiakoaadoor", sum := "252eb5d5ec2f6b1c28761a4b3ebedd9cead3bcb6bd786b838db291d5fa3a218c", func := "pinfold/pinfoldlaw19.FlatPlays", spec := "flatPlays", unfollowed := true, recurses := true, named := ["pinfold/exec.refused", "pinfold/prog.names"], apart := false, laid := [("pinfold/prog.names", laid_pinfold_prog_names), ("pinfold/exec.refused", laid_pinfold_exec_refused)], narrowed := true }
def FlatPlaysUptoSaid : Prop := flatPlaysUptoRow.holds Tryd.pinned (OpenSpec.upto flatPlaysSpec)

/-- 'pinfoldlaw19.FlatKeeps', WHERE WHAT IT READS IS OF BULK AT MOST 1048576: true; the input reads as it did. -/
def flatKeepsUptoRow : OpenClaim := { program := "ytilaalleiiakoaadoor", sum := "252eb5d5ec2f6b1c28761a4b3ebedd9cead3bcb6bd786b838db291d5fa3a218c", func := "pinfold/pinfoldlaw19.FlatKeeps", spec := "flatKeeps", unfollowed := true, recurses := true, named := ["pinfold/exec.refused", "pinfold/prog.names"], apart := false, laid := [("pinfold/prog.names", laid_pinfold_prog_names), ("pinfold/exec.refused", laid_pinfold_exec_refused)], narrowed := true }
def FlatKeepsUptoSaid : Prop := flatKeepsUptoRow.holds Tryd.pinned (OpenSpec.upto flatKeepsSpec)

/-- 'pinfoldlaw19.FlatSplits', WHERE WHAT IT READS IS OF BULK AT MOST 1048576: true; the input reads as it did. -/
def flatSplitsUptoRow : OpenClaim := { program := "ytilaalleiiakoaadoor", sum := "252eb5d5ec2f6b1c28761a4b3ebedd9cead3bcb6bd786b838db291d5fa3a218c", func := "pinfold/pinfoldlaw19.FlatSplits", spec := "flatSplits", unfollowed := true, recurses := true, named := ["pinfold/exec.refused", "pinfold/prog.names"], apart := false, laid := [("pinfold/prog.names", laid_pinfold_prog_names), ("pinfold/exec.refused", laid_pinfold_exec_refused)], narrowed := true }
def FlatSplitsUptoSaid : Prop := flatSplitsUptoRow.holds Tryd.pinned (OpenSpec.upto flatSplitsSpec)

end Rows
end Go.Proofs.YtilaalleiiakoaaDoor
