/- A shared row: a step of a call, way by way. -/
import Derived.Test.YtfejimlfnelhhaaSs
import Derived.Deep.DeepCutAuto
import Derived.StillTailTactics
import Derived.RegionCalls
import Derived.Deep.RegionHeld3
namespace Go.Proofs.Ytfejimlfnelhhaa
open Go.RowKit

def OneB (b : Nat) : Nat → Prop := fun j => j = b
/-- What a step of a call does. -/
def StepP (b : Nat) (D : Dq) (k : Nat) (w : World) (e : Ending) (w' : World) : Prop :=
  e = .returned (.int .i64 ((stepW D (D.cl k)).1 : Nat)) ∧ DqV b { (stepW D (D.cl k)).2.1 with cl := updC D.cl k (stepW D (D.cl k)).2.2 } w' ∧ But (OneB b) w w'
theorem StepP.mk {b : Nat} {D : Dq} {k : Nat} {w : World} {e : Ending} {w' : World} {c : Cl} (hc : D.cl k = c) {how : Nat} {E : Dq} {c' : Cl} (hs : stepW D c = (how, E, c')) (he : e = .returned (.int .i64 (how : Nat))) (hd : DqV b { E with cl := updC D.cl k c' } w') (hG : But (OneB b) w w') : StepP b D k w e w' := by
  unfold StepP; rw [hc, hs]; exact ⟨he, hd, hG⟩
end Go.Proofs.Ytfejimlfnelhhaa
