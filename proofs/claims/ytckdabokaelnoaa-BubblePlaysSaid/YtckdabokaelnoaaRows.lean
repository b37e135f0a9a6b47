/-
  No cell of these rows narrows 'for every input' (looked for: loops, veiled, ifaces, maps, wideKeys, modest, calm, conditions, laid).
  DERIVED. THE GIVEN ROWS OF THIS SEAT. 11 by the template 'for every input the law returns true; each argument reads behind the call as it read before'; 0 by the template 'total and deterministic' (their statements: YtckdabokaelnoaaTotals.lean).
  GIVEN WITH THE SEED: the statements are not yours to turn. If you find one false, say at which input.
  Laid BY PROGRAM, IN A SANDBOX (cutbox-rows.mjs): the forced cells as the released guide's own fill.sh prints them over the translation e32ad0b70dcc0d8e… (all of the seat's roots in one cut). By AI agents, Wed Nov 11 2026. No macro, syntax, notation, axiom, sorry.
-/
import Derived.Test.YtckdabokaelnoaaChecked
import GoSem.Claim
import GoSem.ClaimJoined
import GoSem.ClaimMapViews
import Derived.JoinedTies
import Derived.KernelRfl
namespace Go.Proofs.Ytckdabokaelnoaa
/- THE CELL 'sum', in the pinned program and in every row, IS THE sha256 OF THE DUMP (.gsa) THAT YtckdabokaelnoaaProg.lean LOADS. Nothing in Lean hashes anything: it is a label: what it is worth is what the hold of that sum in a sandbox is worth. -/
noncomputable def Try.pinned : Pinned := { name := "ytckdabokaelnoaa", sum := "e32ad0b70dcc0d8e32c9bab4ef1921f31f2779bef3cc3f268a7457b6d273c33f", checked := Try.checked }
namespace Rows
def none {H : Type} : Left H := { results := [], args := [] }

/-- 'pinfoldlaw13.BubblePlays': WHATEVER THE INPUT: true; the input reads as it did. -/
def bubblePlaysSpec : ChangeSpec := { name := "bubblePlays", fn := fun _ => fun
  | [d] => { results := [.lit (.bool true)], args := [d] }
  | _ => none }
def bubblePlaysRow : OpenClaim := { program := "ytckdabokaelnoaa", sum := "e32ad0b70dcc0d8e32c9bab4ef1921f31f2779bef3cc3f268a7457b6d273c33f", func := "pinfold/pinfoldlaw13.BubblePlays", spec := "bubblePlays", inPlace := ["slices.overlaps[int]"], unfollowed := true, recurses := true, apart := false }
def BubblePlaysSaid : Prop := bubblePlaysRow.holds Try.pinned (OpenSpec.ofChange bubblePlaysSpec)

/-- ITS FALSE NEIGHBOUR: 'it returns false'. Refute it at one input. -/
def bubblePlaysWrong : ChangeSpec := { name := "bubblePlays", fn := fun _ => fun
  | [d] => { results := [.lit (.bool false)], args := [d] }
  | _ => none }
def BubblePlaysWrongFalsely : Prop := bubblePlaysRow.holds Try.pinned (OpenSpec.ofChange bubblePlaysWrong)

/-- 'pinfoldlaw13.BubbleMasks': WHATEVER THE INPUT: true; the input reads as it did. -/
def bubbleMasksSpec : ChangeSpec := { name := "bubbleMasks", fn := fun _ => fun
  | [d] => { results := [.lit (.bool true)], args := [d] }
  | _ => none }
def bubbleMasksRow : OpenClaim := { program := "ytckdabokaelnoaa", sum := "e32ad0b70dcc0d8e32c9bab4ef1921f31f2779bef3cc3f268a7457b6d273c33f", func := "pinfold/pinfoldlaw13.BubbleMasks", spec := "bubbleMasks", inPlace := ["slices.overlaps[int]"], unfollowed := true, recurses := true, apart := false }
def BubbleMasksSaid : Prop := bubbleMasksRow.holds Try.pinned (OpenSpec.ofChange bubbleMasksSpec)

/-- ITS FALSE NEIGHBOUR: 'it returns false'. Refute it at one input. -/
def bubbleMasksWrong : ChangeSpec := { name := "bubbleMasks", fn := fun _ => fun
  | [d] => { results := [.lit (.bool false)], args := [d] }
  | _ => none }
def BubbleMasksWrongFalsely : Prop := bubbleMasksRow.holds Try.pinned (OpenSpec.ofChange bubbleMasksWrong)

/-- 'pinfoldlaw13.BubbleRegen': WHATEVER THE INPUT: true; the input reads as it did. -/
def bubbleRegenSpec : ChangeSpec := { name := "bubbleRegen", fn := fun _ => fun
  | [d1, d2] => { results := [.lit (.bool true)], args := [d1, d2] }
  | _ => none }
def bubbleRegenRow : OpenClaim := { program := "ytckdabokaelnoaa", sum := "e32ad0b70dcc0d8e32c9bab4ef1921f31f2779bef3cc3f268a7457b6d273c33f", func := "pinfold/pinfoldlaw13.BubbleRegen", spec := "bubbleRegen", inPlace := ["slices.overlaps[int]"], unfollowed := true, recurses := true, apart := false }
def BubbleRegenSaid : Prop := bubbleRegenRow.holds Try.pinned (OpenSpec.ofChange bubbleRegenSpec)

/-- ITS FALSE NEIGHBOUR: 'it returns false'. Refute it at one input. -/
def bubbleRegenWrong : ChangeSpec := { name := "bubbleRegen", fn := fun _ => fun
  | [d1, d2] => { results := [.lit (.bool false)], args := [d1, d2] }
  | _ => none }
def BubbleRegenWrongFalsely : Prop := bubbleRegenRow.holds Try.pinned (OpenSpec.ofChange bubbleRegenWrong)

/-- 'pinfoldlaw13.BubbleMany': WHATEVER THE INPUT: true; the input reads as it did. -/
def bubbleManySpec : ChangeSpec := { name := "bubbleMany", fn := fun _ => fun
  | [d] => { results := [.lit (.bool true)], args := [d] }
  | _ => none }
def bubbleManyRow : OpenClaim := { program := "ytckdabokaelnoaa", sum := "e32ad0b70dcc0d8e32c9bab4ef1921f31f2779bef3cc3f268a7457b6d273c33f", func := "pinfold/pinfoldlaw13.BubbleMany", spec := "bubbleMany", inPlace := ["slices.overlaps[int]"], unfollowed := true, recurses := true, apart := false }
def BubbleManySaid : Prop := bubbleManyRow.holds Try.pinned (OpenSpec.ofChange bubbleManySpec)

/-- ITS FALSE NEIGHBOUR: 'it returns false'. Refute it at one input. -/
def bubbleManyWrong : ChangeSpec := { name := "bubbleMany", fn := fun _ => fun
  | [d] => { results := [.lit (.bool false)], args := [d] }
  | _ => none }
def BubbleManyWrongFalsely : Prop := bubbleManyRow.holds Try.pinned (OpenSpec.ofChange bubbleManyWrong)

/-- 'pinfoldlaw14.CohortPlays': WHATEVER THE INPUT: true; the input reads as it did. -/
def cohortPlaysSpec : ChangeSpec := { name := "cohortPlays", fn := fun _ => fun
  | [d1, d2] => { results := [.lit (.bool true)], args := [d1, d2] }
  | _ => none }
def cohortPlaysRow : OpenClaim := { program := "ytckdabokaelnoaa", sum := "e32ad0b70dcc0d8e32c9bab4ef1921f31f2779bef3cc3f268a7457b6d273c33f", func := "pinfold/pinfoldlaw14.CohortPlays", spec := "cohortPlays", unfollowed := true, recurses := true, apart := false }
def CohortPlaysSaid : Prop := cohortPlaysRow.holds Try.pinned (OpenSpec.ofChange cohortPlaysSpec)

/-- ITS FALSE NEIGHBOUR: 'it returns false'. Refute it at one input. -/
def cohortPlaysWrong : ChangeSpec := { name := "cohortPlays", fn := fun _ => fun
  | [d1, d2] => { results := [.lit (.bool false)], args := [d1, d2] }
  | _ => none }
def CohortPlaysWrongFalsely : Prop := cohortPlaysRow.holds Try.pinned (OpenSpec.ofChange cohortPlaysWrong)

/-- 'pinfoldlaw14.CohortBudget': WHATEVER THE INPUT: true; the input reads as it did. -/
def cohortBudgetSpec : ChangeSpec := { name := "cohortBudget", fn := fun _ => fun
  | [d] => { results := [.lit (.bool true)], args := [d] }
  | _ => none }
def cohortBudgetRow : OpenClaim := { program := "ytckdabokaelnoaa", sum := "e32ad0b70dcc0d8e32c9bab4ef1921f31f2779bef3cc3f268a7457b6d273c33f", func := "pinfold/pinfoldlaw14.CohortBudget", spec := "cohortBudget", unfollowed := true, recurses := true, apart := false }
def CohortBudgetSaid : Prop := cohortBudgetRow.holds Try.pinned (OpenSpec.ofChange cohortBudgetSpec)

/-- ITS FALSE NEIGHBOUR: 'it returns false'. Refute it at one input. -/
def cohortBudgetWrong : ChangeSpec := { name := "cohortBudget", fn := fun _ => fun
  | [d] => { results := [.lit (.bool false)], args := [d] }
  | _ => none }
def CohortBudgetWrongFalsely : Prop := cohortBudgetRow.holds Try.pinned (OpenSpec.ofChange cohortBudgetWrong)

/-- 'pinfoldlaw14.CohortOrder': WHATEVER THE INPUT: true; the input reads as it did. -/
def cohortOrderSpec : ChangeSpec := { name := "cohortOrder", fn := fun _ => fun
  | [d] => { results := [.lit (.bool true)], args := [d] }
  | _ => none }
def cohortOrderRow : OpenClaim := { program := "ytckdabokaelnoaa", sum := "e32ad0b70dcc0d8e32c9bab4ef1921f31f2779bef3cc3f268a7457b6d273c33f", func := "pinfold/pinfoldlaw14.CohortOrder", spec := "cohortOrder", unfollowed := true, recurses := true, apart := false }
def CohortOrderSaid : Prop := cohortOrderRow.holds Try.pinned (OpenSpec.ofChange cohortOrderSpec)

/-- ITS FALSE NEIGHBOUR: 'it returns false'. Refute it at one input. -/
def cohortOrderWrong : ChangeSpec := { name := "cohortOrder", fn := fun _ => fun
  | [d] => { results := [.lit (.bool false)], args := [d] }
  | _ => none }
def CohortOrderWrongFalsely : Prop := cohortOrderRow.holds Try.pinned (OpenSpec.ofChange cohortOrderWrong)

/-- 'pinfoldlaw14.CohortOwner': WHATEVER THE INPUT: true; the input reads as it did. -/
def cohortOwnerSpec : ChangeSpec := { name := "cohortOwner", fn := fun _ => fun
  | [d1, d2, d3] => { results := [.lit (.bool true)], args := [d1, d2, d3] }
  | _ => none }
def cohortOwnerRow : OpenClaim := { program := "ytckdabokaelnoaa", sum := "e32ad0b70dcc0d8e32c9bab4ef1921f31f2779bef3cc3f268a7457b6d273c33f", func := "pinfold/pinfoldlaw14.CohortOwner", spec := "cohortOwner", unfollowed := true, recurses := true, apart := false }
def CohortOwnerSaid : Prop := cohortOwnerRow.holds Try.pinned (OpenSpec.ofChange cohortOwnerSpec)

/-- ITS FALSE NEIGHBOUR: 'it returns false'. Refute it at one input. -/
def cohortOwnerWrong : ChangeSpec := { name := "cohortOwner", fn := fun _ => fun
  | [d1, d2, d3] => { results := [.lit (.bool false)], args := [d1, d2, d3] }
  | _ => none }
def CohortOwnerWrongFalsely : Prop := cohortOwnerRow.holds Try.pinned (OpenSpec.ofChange cohortOwnerWrong)

/-- 'pinfoldlaw29.McsPlays': WHATEVER THE INPUT: true; the input reads as it did. -/
def mcsPlaysSpec : ChangeSpec := { name := "mcsPlays", fn := fun _ => fun
  | [d1, d2] => { results := [.lit (.bool true)], args := [d1, d2] }
  | _ => none }
def mcsPlaysRow : OpenClaim := { program := "ytckdabokaelnoaa", sum := "e32ad0b70dcc0d8e32c9bab4ef1921f31f2779bef3cc3f268a7457b6d273c33f", func := "pinfold/pinfoldlaw29.McsPlays", spec := "mcsPlays", apart := false }
def McsPlaysSaid : Prop := mcsPlaysRow.holds Try.pinned (OpenSpec.ofChange mcsPlaysSpec)

/-- ITS FALSE NEIGHBOUR: 'it returns false'. Refute it at one input. -/
def mcsPlaysWrong : ChangeSpec := { name := "mcsPlays", fn := fun _ => fun
  | [d1, d2] => { results := [.lit (.bool false)], args := [d1, d2] }
  | _ => none }
def McsPlaysWrongFalsely : Prop := mcsPlaysRow.holds Try.pinned (OpenSpec.ofChange mcsPlaysWrong)

/-- 'pinfoldlaw29.McsAlone': WHATEVER THE INPUT: true; the input reads as it did. -/
def mcsAloneSpec : ChangeSpec := { name := "mcsAlone", fn := fun _ => fun
  | [d1, d2] => { results := [.lit (.bool true)], args := [d1, d2] }
  | _ => none }
def mcsAloneRow : OpenClaim := { program := "ytckdabokaelnoaa", sum := "e32ad0b70dcc0d8e32c9bab4ef1921f31f2779bef3cc3f268a7457b6d273c33f", func := "pinfold/pinfoldlaw29.McsAlone", spec := "mcsAlone", apart := false }
def McsAloneSaid : Prop := mcsAloneRow.holds Try.pinned (OpenSpec.ofChange mcsAloneSpec)

/-- ITS FALSE NEIGHBOUR: 'it returns false'. Refute it at one input. -/
def mcsAloneWrong : ChangeSpec := { name := "mcsAlone", fn := fun _ => fun
  | [d1, d2] => { results := [.lit (.bool false)], args := [d1, d2] }
  | _ => none }
def McsAloneWrongFalsely : Prop := mcsAloneRow.holds Try.pinned (OpenSpec.ofChange mcsAloneWrong)

/-- 'pinfoldlaw29.McsGoes': WHATEVER THE INPUT: true; the input reads as it did. -/
def mcsGoesSpec : ChangeSpec := { name := "mcsGoes", fn := fun _ => fun
  | [d1, d2] => { results := [.lit (.bool true)], args := [d1, d2] }
  | _ => none }
def mcsGoesRow : OpenClaim := { program := "ytckdabokaelnoaa", sum := "e32ad0b70dcc0d8e32c9bab4ef1921f31f2779bef3cc3f268a7457b6d273c33f", func := "pinfold/pinfoldlaw29.McsGoes", spec := "mcsGoes", apart := false }
def McsGoesSaid : Prop := mcsGoesRow.holds Try.pinned (OpenSpec.ofChange mcsGoesSpec)

/-- ITS FALSE NEIGHBOUR: 'it returns false'. Refute it at one input. -/
def mcsGoesWrong : ChangeSpec := { name := "mcsGoes", fn := fun _ => fun
  | [d1, d2] => { results := [.lit (.bool false)], args := [d1, d2] }
  | _ => none }
def McsGoesWrongFalsely : Prop := mcsGoesRow.holds Try.pinned (OpenSpec.ofChange mcsGoesWrong)

/- THE SECOND FORM. 'bulk': how many values and letters a reading holds, each counted each time it is reached (what is shared counts as often as it is met; a slice's spare places count too). A statement '..UptoSaid' is the law's where the arguments, and the package variables that the reading takes, are together of bulk at most 1048576: NARROWER than '..Said'. Prove '..Said' where nothing that the law and all that it calls make is longer than what came in: it says more and counts as full. Else prove '..UptoSaid'. A law counts once. -/
mutual
def uptoBulk {H : Type} : DataW H → Nat
  | .lit (.string bytes) => bytes.length + 1
  | .lit _ => 1
  | .nil => 1
  | .ptr d => uptoBulk d + 1
  | .slice elems spare => uptoBulkAll elems + uptoBulkAll spare + 1
  | .agg parts => uptoBulkAll parts + 1
  | .iface _ d => uptoBulk d + 1
  | .map entries => uptoBulkEntries entries + 1
  | .held _ => 1
def uptoBulkAll {H : Type} : List (DataW H) → Nat
  | [] => 0
  | d :: r => uptoBulk d + uptoBulkAll r
def uptoBulkEntries {H : Type} : List (Lit × DataW H) → Nat
  | [] => 0
  | x :: r => uptoBulkEntry x + uptoBulkEntries r
def uptoBulkEntry {H : Type} : Lit × DataW H → Nat
  | (.string bytes, d) => bytes.length + uptoBulk d + 1
  | (_, d) => uptoBulk d + 1
 end
def uptoSmall : (H : Type) → List (DataW H) → Bool := fun _ ds => decide (uptoBulkAll ds ≤ 1048576)
def OpenSpec.upto (s : _root_.Go.ChangeSpec) : _root_.Go.OpenSpec := { _root_.Go.OpenSpec.ofChange s with cond := some uptoSmall }

/-- 'pinfoldlaw13.BubblePlays', WHERE WHAT IT READS IS OF BULK AT MOST 1048576: true; the input reads as it did. -/
def bubblePlaysUptoRow : OpenClaim := { program := "ytckdabokaelnoaa", sum := "e32ad0b70dcc0d8e32c9bab4ef1921f31f2779bef3cc3f268a7457b6d273c33f", func := "pinfold/pinfoldlaw13.BubblePlays", spec := "bubblePlays", inPlace := ["slices.overlaps[int]"], unfollowed := true, recurses := true, apart := false, narrowed := true }
def BubblePlaysUptoSaid : Prop := bubblePlaysUptoRow.holds Try.pinned (OpenSpec.upto bubblePlaysSpec)

/-- 'pinfoldlaw13.BubbleMasks', WHERE WHAT IT READS IS OF BULK AT MOST 1048576: true; the input reads as it did. -/
def bubbleMasksUptoRow : OpenClaim := { program := "ytckdabokaelnoaa", sum := "e32ad0b70dcc0d8e32c9bab4ef1921f31f2779bef3cc3f268a7457b6d273c33f", func := "pinfold/pinfoldlaw13.BubbleMasks", spec := "bubbleMasks", inPlace := ["slices.overlaps[int]"], unfollowed := true, recurses := true, apart := false, narrowed := true }
def BubbleMasksUptoSaid : Prop := bubbleMasksUptoRow.holds Try.pinned (OpenSpec.upto bubbleMasksSpec)

/-- 'pinfoldlaw13.BubbleRegen', WHERE WHAT IT READS IS OF BULK AT MOST 1048576: true; the input reads as it did. -/
def bubbleRegenUptoRow : OpenClaim := { program := "ytckdabokaelnoaa", sum := "e32ad0b70dcc0d8e32c9bab4ef1921f31f2779bef3cc3f268a7457b6d273c33f", func := "pinfold/pinfoldlaw13.BubbleRegen", spec := "bubbleRegen", inPlace := ["slices.overlaps[int]"], unfollowed := true, recurses := true, apart := false, narrowed := true }
def BubbleRegenUptoSaid : Prop := bubbleRegenUptoRow.holds Try.pinned (OpenSpec.upto bubbleRegenSpec)

/-- 'pinfoldlaw13.BubbleMany', WHERE WHAT IT READS IS OF BULK AT MOST 1048576: true; the input reads as it did. -/
def bubbleManyUptoRow : OpenClaim := { program := "ytckdabokaelnoaa", sum := "e32ad0b70dcc0d8e32c9bab4ef1921f31f2779bef3cc3f268a7457b6d273c33f", func := "pinfold/pinfoldlaw13.BubbleMany", spec := "bubbleMany", inPlace := ["slices.overlaps[int]"], unfollowed := true, recurses := true, apart := false, narrowed := true }
def BubbleManyUptoSaid : Prop := bubbleManyUptoRow.holds Try.pinned (OpenSpec.upto bubbleManySpec)

/-- 'pinfoldlaw14.CohortPlays', WHERE WHAT IT READS IS OF BULK AT MOST 1048576: true; the input reads as it did. -/
def cohortPlaysUptoRow : OpenClaim := { program := "ytckdabokaelnoaa", sum := "e32ad0b70dcc0d8e32c9bab4ef1921f31f2779bef3cc3f268a7457b6d273c33f", func := "pinfold/pinfoldlaw14.CohortPlays", spec := "cohortPlays", unfollowed := true, recurses := true, apart := false, narrowed := true }
def CohortPlaysUptoSaid : Prop := cohortPlaysUptoRow.holds Try.pinned (OpenSpec.upto cohortPlaysSpec)

/-- 'pinfoldlaw14.CohortBudget', WHERE WHAT IT READS IS OF BULK AT MOST 1048576: true; the input reads as it did. -/
def cohortBudgetUptoRow : OpenClaim := { program := "ytckdabokaelnoaa", sum := "e32ad0b70dcc0d8e32c9bab4ef1921f31f2779bef3cc3f268a7457b6d273c33f", func := "pinfold/pinfoldlaw14.CohortBudget", spec := "cohortBudget", unfollowed := true, recurses := true, apart := false, narrowed := true }
def CohortBudgetUptoSaid : Prop := cohortBudgetUptoRow.holds Try.pinned (OpenSpec.upto cohortBudgetSpec)

/-- 'pinfoldlaw14.CohortOrder', WHERE WHAT IT READS IS OF BULK AT MOST 1048576: true; the input reads as it did. -/
def cohortOrderUptoRow : OpenClaim := { program := "ytckdabokaelnoaa", sum := "e32ad0b70dcc0d8e32c9bab4ef1921f31f2779bef3cc3f268a7457b6d273c33f", func := "pinfold/pinfoldlaw14.CohortOrder", spec := "cohortOrder", unfollowed := true, recurses := true, apart := false, narrowed := true }
def CohortOrderUptoSaid : Prop := cohortOrderUptoRow.holds Try.pinned (OpenSpec.upto cohortOrderSpec)

/-- 'pinfoldlaw14.CohortOwner', WHERE WHAT IT READS IS OF BULK AT MOST 1048576: true; the input reads as it did. -/
def cohortOwnerUptoRow : OpenClaim := { program := "ytckdabokaelnoaa", sum := "e32ad0b70dcc0d8e32c9bab4ef1921f31f2779bef3cc3f268a7457b6d273c33f", func := "pinfold/pinfoldlaw14.CohortOwner", spec := "cohortOwner", unfollowed := true, recurses := true, apart := false, narrowed := true }
def CohortOwnerUptoSaid : Prop := cohortOwnerUptoRow.holds Try.pinned (OpenSpec.upto cohortOwnerSpec)

/-- 'pinfoldlaw29.McsPlays', WHERE WHAT IT READS IS OF BULK AT MOST 1048576: true; the input reads as it did. -/
def mcsPlaysUptoRow : OpenClaim := { program := "ytckdabokaelnoaa", sum := "e32ad0b70dcc0d8e32c9bab4ef1921f31f2779bef3cc3f268a7457b6d273c33f", func := "pinfold/pinfoldlaw29.McsPlays", spec := "mcsPlays", apart := false, narrowed := true }
def McsPlaysUptoSaid : Prop := mcsPlaysUptoRow.holds Try.pinned (OpenSpec.upto mcsPlaysSpec)

/-- 'pinfoldlaw29.McsAlone', WHERE WHAT IT READS IS OF BULK AT MOST 1048576: true; the input reads as it did. -/
def mcsAloneUptoRow : OpenClaim := { program := "ytckdabokaelnoaa", sum := "e32ad0b70dcc0d8e32c9bab4ef1921f31f2779bef3cc3f268a7457b6d273c33f", func := "pinfold/pinfoldlaw29.McsAlone", spec := "mcsAlone", apart := false, narrowed := true }
def McsAloneUptoSaid : Prop := mcsAloneUptoRow.holds Try.pinned (OpenSpec.upto mcsAloneSpec)

/-- 'pinfoldlaw29.McsGoes', WHERE WHAT IT READS IS OF BULK AT MOST 1048576: true; the input reads as it did. -/
def mcsGoesUptoRow : OpenClaim := { program := "ytckdabokaelnoaa", sum := "e32ad0b70dcc0d8e32c9bab4ef1921f31f2779bef3cc3f268a7457b6d273c33f", func := "pinfold/pinfoldlaw29.McsGoes", spec := "mcsGoes", apart := false, narrowed := true }
def McsGoesUptoSaid : Prop := mcsGoesUptoRow.holds Try.pinned (OpenSpec.upto mcsGoesSpec)

end Rows
end Go.Proofs.Ytckdabokaelnoaa
