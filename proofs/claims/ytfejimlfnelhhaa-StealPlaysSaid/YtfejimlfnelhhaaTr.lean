/- The document's Step of a shared row, way by way. -/
import Derived.Test.YtfejimlfnelhhaaTv
import Derived.Deep.DeepCutAuto
import Derived.StillTailTactics
import Derived.BigQuiet
namespace Go.Proofs.Ytfejimlfnelhhaa
open Go.RowKit

/-- What the document's Step tells, and does. -/
def RefP (rb gs gp : Nat) (k : Nat) (room th : Nat) (P : Nat → Pt) (w : World) (how : Nat) (x : Int) (top bot : Int) (sl : Nat → Int) (p : Pt) (e : Ending) (w' : World) : Prop :=
  e = .returned (.tuple #[.int .i64 how, .int .i64 x, .int .i64 0]) ∧ RfV rb gs gp top bot sl room th (updP P k p) w' ∧ But (OwnR rb gs gp) w w'
end Go.Proofs.Ytfejimlfnelhhaa
