/-
  No cell of these rows narrows 'for every input' (looked for: loops, veiled, ifaces, maps, wideKeys, modest, calm, conditions, laid).
  DERIVED. THE GIVEN ROWS OF THIS SEAT. 5 by the template 'for every input the law returns true; each argument reads behind the call as it read before'; 0 by the template 'total and deterministic' (their statements: YtdomgipbadimmaaTotals.lean).
  GIVEN WITH THE SEED: the statements are not yours to turn. If you find one false, say at which input.
  Laid BY PROGRAM, IN A SANDBOX (cutbox-rows.mjs): the forced cells as the released guide's own fill.sh prints them over the translation f9d0287639418389… (all of the seat's roots in one cut). By AI agents, Wed Nov 11 2026. No macro, syntax, notation, axiom, sorry.
-/
import Derived.Test.YtdomgipbadimmaaChecked
import GoSem.Claim
import GoSem.ClaimJoined
import GoSem.ClaimMapViews
import Derived.JoinedTies
import Derived.KernelRfl
namespace Go.Proofs.Ytdomgipbadimmaa
/- THE CELL 'sum', in the pinned program and in every row, IS THE sha256 OF THE DUMP (.gsa) THAT YtdomgipbadimmaaProg.lean LOADS. Nothing in Lean hashes anything: it is a label: what it is worth is what the hold of that sum in a sandbox is worth. -/
noncomputable def Try.pinned : Pinned := { name := "ytdomgipbadimmaa", sum := "f9d0287639418389c33fa376da84b40c5ed0e828a95858d25fbc968fb0d284fd", checked := Try.checked }
namespace Rows
def none {H : Type} : Left H := { results := [], args := [] }

/-- 'pinfoldlaw13.BubbleMasks': WHATEVER THE INPUT: true; the input reads as it did. -/
def bubbleMasksSpec : ChangeSpec := { name := "bubbleMasks", fn := fun _ => fun
  | [d] => { results := [.lit (.bool true)], args := [d] }
  | _ => none }
def bubbleMasksRow : OpenClaim := { program := "ytdomgipbadimmaa", sum := "f9d0287639418389c33fa376da84b40c5ed0e828a95858d25fbc968fb0d284fd", func := "pinfold/pinfoldlaw13.BubbleMasks", spec := "bubbleMasks", inPlace := ["slices.overlaps[int]"], unfollowed := true, recurses := true, apart := false }
def BubbleMasksSaid : Prop := bubbleMasksRow.holds Try.pinned (OpenSpec.ofChange bubbleMasksSpec)

/-- ITS FALSE NEIGHBOUR: 'it returns false'. Refute it at one input. -/
def bubbleMasksWrong : ChangeSpec := { name := "bubbleMasks", fn := fun _ => fun
  | [d] => { results := [.lit (.bool false)], args := [d] }
  | _ => none }
def BubbleMasksWrongFalsely : Prop := bubbleMasksRow.holds Try.pinned (OpenSpec.ofChange bubbleMasksWrong)

/-- 'pinfoldlaw14.CohortPlays': WHATEVER THE INPUT: true; the input reads as it did. -/
def cohortPlaysSpec : ChangeSpec := { name := "cohortPlays", fn := fun _ => fun
  | [d1, d2] => { results := [.lit (.bool true)], args := [d1, d2] }
  | _ => none }
def cohortPlaysRow : OpenClaim := { program := "ytdomgipbadimmaa", sum := "f9d0287639418389c33fa376da84b40c5ed0e828a95858d25fbc968fb0d284fd", func := "pinfold/pinfoldlaw14.CohortPlays", spec := "cohortPlays", unfollowed := true, recurses := true, apart := false }
def CohortPlaysSaid : Prop := cohortPlaysRow.holds Try.pinned (OpenSpec.ofChange cohortPlaysSpec)

/-- ITS FALSE NEIGHBOUR: 'it returns false'. Refute it at one input. -/
def cohortPlaysWrong : ChangeSpec := { name := "cohortPlays", fn := fun _ => fun
  | [d1, d2] => { results := [.lit (.bool false)], args := [d1, d2] }
  | _ => none }
def CohortPlaysWrongFalsely : Prop := cohortPlaysRow.holds Try.pinned (OpenSpec.ofChange cohortPlaysWrong)

/-- 'pinfoldlaw14.CohortBudget': WHATEVER THE INPUT: true; the input reads as it did. -/
def cohortBudgetSpec : ChangeSpec := { name := "cohortBudget", fn := fun _ => fun
  | [d] => { results := [.lit (.bool true)], args := [d] }
  | _ => none }
def cohortBudgetRow : OpenClaim := { program := "ytdomgipbadimmaa", sum := "f9d0287639418389c33fa376da84b40c5ed0e828a95858d25fbc968fb0d284fd", func := "pinfold/pinfoldlaw14.CohortBudget", spec := "cohortBudget", unfollowed := true, recurses := true, apart := false }
def CohortBudgetSaid : Prop := cohortBudgetRow.holds Try.pinned (OpenSpec.ofChange cohortBudgetSpec)

/-- ITS FALSE NEIGHBOUR: 'it returns false'. Refute it at one input. -/
def cohortBudgetWrong : ChangeSpec := { name := "cohortBudget", fn := fun _ => fun
  | [d] => { results := [.lit (.bool false)], args := [d] }
  | _ => none }
def CohortBudgetWrongFalsely : Prop := cohortBudgetRow.holds Try.pinned (OpenSpec.ofChange cohortBudgetWrong)

/-- 'pinfoldlaw14.CohortOrder': WHATEVER THE INPUT: true; the input reads as it did. -/
def cohortOrderSpec : ChangeSpec := { name := "cohortOrder", fn := fun _ => fun
  | [d] => { results := [.lit (.bool true)], args := [d] }
  | _ => none }
def cohortOrderRow : OpenClaim := { program := "ytdomgipbadimmaa", sum := "f9d0287639418389c33fa376da84b40c5ed0e828a95858d25fbc968fb0d284fd", func := "pinfold/pinfoldlaw14.CohortOrder", spec := "cohortOrder", unfollowed := true, recurses := true, apart := false }
def CohortOrderSaid : Prop := cohortOrderRow.holds Try.pinned (OpenSpec.ofChange cohortOrderSpec)

/-- ITS FALSE NEIGHBOUR: 'it returns false'. Refute it at one input. -/
def cohortOrderWrong : ChangeSpec := { name := "cohortOrder", fn := fun _ => fun
  | [d] => { results := [.lit (.bool false)], args := [d] }
  | _ => none }
def CohortOrderWrongFalsely : Prop := cohortOrderRow.holds Try.pinned (OpenSpec.ofChange cohortOrderWrong)

/-- 'pinfoldlaw14.CohortOwner': WHATEVER THE INPUT: true; the input reads as it did. -/
def cohortOwnerSpec : ChangeSpec := { name := "cohortOwner", fn := fun _ => fun
  | [d1, d2, d3] => { results := [.lit (.bool true)], args := [d1, d2, d3] }
  | _ => none }
def cohortOwnerRow : OpenClaim := { program := "ytdomgipbadimmaa", sum := "f9d0287639418389c33fa376da84b40c5ed0e828a95858d25fbc968fb0d284fd", func := "pinfold/pinfoldlaw14.CohortOwner", spec := "cohortOwner", unfollowed := true, recurses := true, apart := false }
def CohortOwnerSaid : Prop := cohortOwnerRow.holds Try.pinned (OpenSpec.ofChange cohortOwnerSpec)

/-- ITS FALSE NEIGHBOUR: 'it returns false'. Refute it at one input. -/
def cohortOwnerWrong : ChangeSpec := { name := "cohortOwner", fn := fun _ => fun
  | [d1, d2, d3] => { results := [.lit (.bool false)], args := [d1, d2, d3] }
  | _ => none }
def CohortOwnerWrongFalsely : Prop := cohortOwnerRow.holds Try.pinned (OpenSpec.ofChange cohortOwnerWrong)

/- THE SECOND FORM. 'bulk': how many values and letters a reading holds, each counted each time it is reached (what is shared counts as often as it is met; a slice's spare places count too). A statement '..UptoSaid' is the law's where the arguments, and the package variables that the reading takes, are together of bulk at most 1048576: NARROWER than '..Said'. Prove '..Said' where nothing that the law and all that it calls make is longer than what came in: it says more and counts as full. Else prove '..UptoSaid'. A law counts once. -/
mutual
def uptoBulk {H : Type} : DataW H → Nat
  | .lit (.string bytes) => bytes.length + 1
  | .lit _ => 1
  | .nil => 1
  | .ptr d => uptoBulk d + 1
  | .slice elems spare => uptoBulkAll elems + uptoBulkAll spare + 1
  | .agg parts => uptoBulkAll parts + 1
  | .iface _ d => uptoBulk d + 1
  | .map entries => uptoBulkEntries entries + 1
  | .held _ => 1
def uptoBulkAll {H : Type} : List (DataW H) → Nat
  | [] => 0
  | d :: r => uptoBulk d + uptoBulkAll r
def uptoBulkEntries {H : Type} : List (Lit × DataW H) → Nat
  | [] => 0
  | x :: r => uptoBulkEntry x + uptoBulkEntries r
def uptoBulkEntry {H : Type} : Lit × DataW H → Nat
  | (.string bytes, d) => bytes.length + uptoBulk d + 1
  | (_, d) => uptoBulk d + 1
 end
def uptoSmall : (H : Type) → List (DataW H) → Bool := fun _ ds => decide (uptoBulkAll ds ≤ 1048576)
def OpenSpec.upto (s : _root_.Go.ChangeSpec) : _root_.Go.OpenSpec := { _root_.Go.OpenSpec.ofChange s with cond := some uptoSmall }

/-- 'pinfoldlaw13.BubbleMasks', WHERE WHAT IT READS IS OF BULK AT MOST 1048576: true; the input reads as it did. -/
def bubbleMasksUptoRow : OpenClaim := { program := "ytdomgipbadimmaa", sum := "f9d0287639418389c33fa376da84b40c5ed0e828a95858d25fbc968fb0d284fd", func := "pinfold/pinfoldlaw13.BubbleMasks", spec := "bubbleMasks", inPlace := ["slices.overlaps[int]"], unfollowed := true, recurses := true, apart := false, narrowed := true }
def BubbleMasksUptoSaid : Prop := bubbleMasksUptoRow.holds Try.pinned (OpenSpec.upto bubbleMasksSpec)

/-- 'pinfoldlaw14.CohortPlays', WHERE WHAT IT READS IS OF BULK AT MOST 1048576: true; the input reads as it did. -/
def cohortPlaysUptoRow : OpenClaim := { program := "ytdomgipbadimmaa", sum := "f9d0287639418389c33fa376da84b40c5ed0e828a95858d25fbc968fb0d284fd", func := "pinfold/pinfoldlaw14.CohortPlays", spec := "cohortPlays", unfollowed := true, recurses := true, apart := false, narrowed := true }
def CohortPlaysUptoSaid : Prop := cohortPlaysUptoRow.holds Try.pinned (OpenSpec.upto cohortPlaysSpec)

/-- 'pinfoldlaw14.CohortBudget', WHERE WHAT IT READS IS OF BULK AT MOST 1048576: true; the input reads as it did. -/
def cohortBudgetUptoRow : OpenClaim := { program := "ytdomgipbadimmaa", sum := "f9d0287639418389c33fa376da84b40c5ed0e828a95858d25fbc968fb0d284fd", func := "pinfold/pinfoldlaw14.CohortBudget", spec := "cohortBudget", unfollowed := true, recurses := true, apart := false, narrowed := true }
def CohortBudgetUptoSaid : Prop := cohortBudgetUptoRow.holds Try.pinned (OpenSpec.upto cohortBudgetSpec)

/-- 'pinfoldlaw14.CohortOrder', WHERE WHAT IT READS IS OF BULK AT MOST 1048576: true; the input reads as it did. -/
def cohortOrderUptoRow : OpenClaim := { program := "ytdomgipbadimmaa", sum := "f9d0287639418389c33fa376da84b40c5ed0e828a95858d25fbc968fb0d284fd", func := "pinfold/pinfoldlaw14.CohortOrder", spec := "cohortOrder", unfollowed := true, recurses := true, apart := false, narrowed := true }
def CohortOrderUptoSaid : Prop := cohortOrderUptoRow.holds Try.pinned (OpenSpec.upto cohortOrderSpec)

/-- 'pinfoldlaw14.CohortOwner', WHERE WHAT IT READS IS OF BULK AT MOST 1048576: true; the input reads as it did. -/
def cohortOwnerUptoRow : OpenClaim := { program := "ytdomgipbadimmaa", sum := "f9d0287639418389c33fa376da84b40c5ed0e828a95858d25fbc968fb0d284fd", func := "pinfold/pinfoldlaw14.CohortOwner", spec := "cohortOwner", unfollowed := true, recurses := true, apart := false, narrowed := true }
def CohortOwnerUptoSaid : Prop := cohortOwnerUptoRow.holds Try.pinned (OpenSpec.upto cohortOwnerSpec)

end Rows
end Go.Proofs.Ytdomgipbadimmaa
