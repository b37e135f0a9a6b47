/-
  No cell of these rows narrows 'for every input' (looked for: loops, veiled, ifaces, maps, wideKeys, modest, calm, conditions, laid).
  DERIVED. THE GIVEN ROWS OF THIS SEAT. 5 by the template 'for every input the law returns true; each argument reads behind the call as it read before'; 0 by the template 'total and deterministic' (their statements: YtogplndhciaoeaaTotals.lean).
  GIVEN WITH THE SEED: the statements are not yours to turn. If you find one false, say at which input.
  Laid BY PROGRAM, IN A SANDBOX (cutbox-rows.mjs): the forced cells as the released guide's own fill.sh prints them over the translation 232c99454c9c9104… (all of the seat's roots in one cut). By AI agents, Wed Nov 11 2026. No macro, syntax, notation, axiom, sorry.
-/
import Derived.Test.YtogplndhciaoeaaChecked
import GoSem.Claim
import GoSem.ClaimJoined
import GoSem.ClaimMapViews
import Derived.JoinedTies
import Derived.KernelRfl
namespace Go.Proofs.Ytogplndhciaoeaa
/- THE CELL 'sum', in the pinned program and in every row, IS THE sha256 OF THE DUMP (.gsa) THAT YtogplndhciaoeaaProg.lean LOADS. Nothing in Lean hashes anything: it is a label: what it is worth is what the hold of that sum in a sandbox is worth. -/
noncomputable def Try.pinned : Pinned := { name := "ytogplndhciaoeaa", sum := "232c99454c9c91046ae55ae8d64edb9e7aac913f55494f9adc0b4ded4e1c7c88", checked := Try.checked }
namespace Rows
def none {H : Type} : Left H := { results := [], args := [] }

/-- 'pinfoldlaw33.FairDraws': WHATEVER THE INPUT: true; the input reads as it did. -/
def fairDrawsSpec : ChangeSpec := { name := "fairDraws", fn := fun _ => fun
  | [d1, d2, d3] => { results := [.lit (.bool true)], args := [d1, d2, d3] }
  | _ => none }
def fairDrawsRow : OpenClaim := { program := "ytogplndhciaoeaa", sum := "232c99454c9c91046ae55ae8d64edb9e7aac913f55494f9adc0b4ded4e1c7c88", func := "pinfold/pinfoldlaw33.FairDraws", spec := "fairDraws", unfollowed := true, recurses := true, apart := false }
def FairDrawsSaid : Prop := fairDrawsRow.holds Try.pinned (OpenSpec.ofChange fairDrawsSpec)

/-- ITS FALSE NEIGHBOUR: 'it returns false'. Refute it at one input. -/
def fairDrawsWrong : ChangeSpec := { name := "fairDraws", fn := fun _ => fun
  | [d1, d2, d3] => { results := [.lit (.bool false)], args := [d1, d2, d3] }
  | _ => none }
def FairDrawsWrongFalsely : Prop := fairDrawsRow.holds Try.pinned (OpenSpec.ofChange fairDrawsWrong)

/-- 'pinfoldlaw33.FairTells': WHATEVER THE INPUT: true; the input reads as it did. -/
def fairTellsSpec : ChangeSpec := { name := "fairTells", fn := fun _ => fun
  | [d1, d2] => { results := [.lit (.bool true)], args := [d1, d2] }
  | _ => none }
def fairTellsRow : OpenClaim := { program := "ytogplndhciaoeaa", sum := "232c99454c9c91046ae55ae8d64edb9e7aac913f55494f9adc0b4ded4e1c7c88", func := "pinfold/pinfoldlaw33.FairTells", spec := "fairTells", unfollowed := true, recurses := true, apart := false }
def FairTellsSaid : Prop := fairTellsRow.holds Try.pinned (OpenSpec.ofChange fairTellsSpec)

/-- ITS FALSE NEIGHBOUR: 'it returns false'. Refute it at one input. -/
def fairTellsWrong : ChangeSpec := { name := "fairTells", fn := fun _ => fun
  | [d1, d2] => { results := [.lit (.bool false)], args := [d1, d2] }
  | _ => none }
def FairTellsWrongFalsely : Prop := fairTellsRow.holds Try.pinned (OpenSpec.ofChange fairTellsWrong)

/-- 'pinfoldlaw33.FairRounds': WHATEVER THE INPUT: true; the input reads as it did. -/
def fairRoundsSpec : ChangeSpec := { name := "fairRounds", fn := fun _ => fun
  | [d1, d2] => { results := [.lit (.bool true)], args := [d1, d2] }
  | _ => none }
def fairRoundsRow : OpenClaim := { program := "ytogplndhciaoeaa", sum := "232c99454c9c91046ae55ae8d64edb9e7aac913f55494f9adc0b4ded4e1c7c88", func := "pinfold/pinfoldlaw33.FairRounds", spec := "fairRounds", unfollowed := true, recurses := true, apart := false }
def FairRoundsSaid : Prop := fairRoundsRow.holds Try.pinned (OpenSpec.ofChange fairRoundsSpec)

/-- ITS FALSE NEIGHBOUR: 'it returns false'. Refute it at one input. -/
def fairRoundsWrong : ChangeSpec := { name := "fairRounds", fn := fun _ => fun
  | [d1, d2] => { results := [.lit (.bool false)], args := [d1, d2] }
  | _ => none }
def FairRoundsWrongFalsely : Prop := fairRoundsRow.holds Try.pinned (OpenSpec.ofChange fairRoundsWrong)

/-- 'pinfoldlaw33.FairGaps': WHATEVER THE INPUT: true; the input reads as it did. -/
def fairGapsSpec : ChangeSpec := { name := "fairGaps", fn := fun _ => fun
  | [d1, d2] => { results := [.lit (.bool true)], args := [d1, d2] }
  | _ => none }
def fairGapsRow : OpenClaim := { program := "ytogplndhciaoeaa", sum := "232c99454c9c91046ae55ae8d64edb9e7aac913f55494f9adc0b4ded4e1c7c88", func := "pinfold/pinfoldlaw33.FairGaps", spec := "fairGaps", unfollowed := true, recurses := true, apart := false }
def FairGapsSaid : Prop := fairGapsRow.holds Try.pinned (OpenSpec.ofChange fairGapsSpec)

/-- ITS FALSE NEIGHBOUR: 'it returns false'. Refute it at one input. -/
def fairGapsWrong : ChangeSpec := { name := "fairGaps", fn := fun _ => fun
  | [d1, d2] => { results := [.lit (.bool false)], args := [d1, d2] }
  | _ => none }
def FairGapsWrongFalsely : Prop := fairGapsRow.holds Try.pinned (OpenSpec.ofChange fairGapsWrong)

/-- 'pinfoldlaw27.StuckRows': WHATEVER THE INPUT: true; the input reads as it did. -/
def stuckRowsSpec : ChangeSpec := { name := "stuckRows", fn := fun _ => fun
  | [d1, d2] => { results := [.lit (.bool true)], args := [d1, d2] }
  | _ => none }
def stuckRowsRow : OpenClaim := { program := "ytogplndhciaoeaa", sum := "232c99454c9c91046ae55ae8d64edb9e7aac913f55494f9adc0b4ded4e1c7c88", func := "pinfold/pinfoldlaw27.StuckRows", spec := "stuckRows", unfollowed := true, recurses := true, apart := false }
def StuckRowsSaid : Prop := stuckRowsRow.holds Try.pinned (OpenSpec.ofChange stuckRowsSpec)

/-- ITS FALSE NEIGHBOUR: 'it returns false'. Refute it at one input. -/
def stuckRowsWrong : ChangeSpec := { name := "stuckRows", fn := fun _ => fun
  | [d1, d2] => { results := [.lit (.bool false)], args := [d1, d2] }
  | _ => none }
def StuckRowsWrongFalsely : Prop := stuckRowsRow.holds Try.pinned (OpenSpec.ofChange stuckRowsWrong)

/- THE SECOND FORM. 'bulk': how many values and letters a reading holds, each counted each time it is reached (what is shared counts as often as it is met; a slice's spare places count too). A statement '..UptoSaid' is the law's where the arguments, and the package variables that the reading takes, are together of bulk at most 1048576: NARROWER than '..Said'. Prove '..Said' where nothing that the law and all that it calls make is longer than what came in: it says more and counts as full. Else prove '..UptoSaid'. A law counts once. -/
mutual
def uptoBulk {H : Type} : DataW H → Nat
  | .lit (.string bytes) => bytes.length + 1
  | .lit _ => 1
  | .nil => 1
  | .ptr d => uptoBulk d + 1
  | .slice elems spare => uptoBulkAll elems + uptoBulkAll spare + 1
  | .agg parts => uptoBulkAll parts + 1
  | .iface _ d => uptoBulk d + 1
  | .map entries => uptoBulkEntries entries + 1
  | .held _ => 1
def uptoBulkAll {H : Type} : List (DataW H) → Nat
  | [] => 0
  | d :: r => uptoBulk d + uptoBulkAll r
def uptoBulkEntries {H : Type} : List (Lit × DataW H) → Nat
  | [] => 0
  | x :: r => uptoBulkEntry x + uptoBulkEntries r
def uptoBulkEntry {H : Type} : Lit × DataW H → Nat
  | (.string bytes, d) => bytes.length + uptoBulk d + 1
  | (_, d) => uptoBulk d + 1
 end
def uptoSmall : (H : Type) → List (DataW H) → Bool := fun _ ds => decide (uptoBulkAll ds ≤ 1048576)
def OpenSpec.upto (s : _root_.Go.ChangeSpec) : _root_.Go.OpenSpec := { _root_.Go.OpenSpec.ofChange s with cond := some uptoSmall }

/-- 'pinfoldlaw33.FairDraws', WHERE WHAT IT READS IS OF BULK AT MOST 1048576: true; the input reads as it did. -/
def fairDrawsUptoRow : OpenClaim := { program := "ytogplndhciaoeaa", sum := "232c99454c9c91046ae55ae8d64edb9e7aac913f55494f9adc0b4ded4e1c7c88", func := "pinfold/pinfoldlaw33.FairDraws", spec := "fairDraws", unfollowed := true, recurses := true, apart := false, narrowed := true }
def FairDrawsUptoSaid : Prop := fairDrawsUptoRow.holds Try.pinned (OpenSpec.upto fairDrawsSpec)

/-- 'pinfoldlaw33.FairTells', WHERE WHAT IT READS IS OF BULK AT MOST 1048576: true; the input reads as it did. -/
def fairTellsUptoRow : OpenClaim := { program := "ytogplndhciaoeaa", sum := "232c99454c9c91046ae55ae8d64edb9e7aac913f55494f9adc0b4ded4e1c7c88", func := "pinfold/pinfoldlaw33.FairTells", spec := "fairTells", unfollowed := true, recurses := true, apart := false, narrowed := true }
def FairTellsUptoSaid : Prop := fairTellsUptoRow.holds Try.pinned (OpenSpec.upto fairTellsSpec)

/-- 'pinfoldlaw33.FairRounds', WHERE WHAT IT READS IS OF BULK AT MOST 1048576: true; the input reads as it did. -/
def fairRoundsUptoRow : OpenClaim := { program := "ytogplndhciaoeaa", sum := "232c99454c9c91046ae55ae8d64edb9e7aac913f55494f9adc0b4ded4e1c7c88", func := "pinfold/pinfoldlaw33.FairRounds", spec := "fairRounds", unfollowed := true, recurses := true, apart := false, narrowed := true }
def FairRoundsUptoSaid : Prop := fairRoundsUptoRow.holds Try.pinned (OpenSpec.upto fairRoundsSpec)

/-- 'pinfoldlaw33.FairGaps', WHERE WHAT IT READS IS OF BULK AT MOST 1048576: true; the input reads as it did. -/
def fairGapsUptoRow : OpenClaim := { program := "ytogplndhciaoeaa", sum := "232c99454c9c91046ae55ae8d64edb9e7aac913f55494f9adc0b4ded4e1c7c88", func := "pinfold/pinfoldlaw33.FairGaps", spec := "fairGaps", unfollowed := true, recurses := true, apart := false, narrowed := true }
def FairGapsUptoSaid : Prop := fairGapsUptoRow.holds Try.pinned (OpenSpec.upto fairGapsSpec)

/-- 'pinfoldlaw27.StuckRows', WHERE WHAT IT READS IS OF BULK AT MOST 1048576: true; the input reads as it did. -/
def stuckRowsUptoRow : OpenClaim := { program := "ytogplndhciaoeaa", sum := "232c99454c9c91046ae55ae8d64edb9e7aac913f55494f9adc0b4ded4e1c7c88", func := "pinfold/pinfoldlaw27.StuckRows", spec := "stuckRows", unfollowed := true, recurses := true, apart := false, narrowed := true }
def StuckRowsUptoSaid : Prop := stuckRowsUptoRow.holds Try.pinned (OpenSpec.upto stuckRowsSpec)

end Rows
end Go.Proofs.Ytogplndhciaoeaa
