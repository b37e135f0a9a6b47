/- exec's step: what it tells. -/
import Derived.Test.YtilaalleiiakoaaDoorEp
import Derived.Test.YtilaalleiiakoaaDoorCk
import Derived.RegionTactic
import Derived.ChangeAlike
import Derived.BigRegion
namespace Go.Proofs.YtilaalleiiakoaaDoor
open Go.RowKit

def StepG (g : Got) (w : World) (e : Ending) (w' : World) : Prop :=
  e = .returned (.tuple #[.int .i64 g.pc, regV g.r, effV g.e]) ∧ Below w.heap.size w w'
theorem word32_eq (n : Int) : wrap32 n = word32 n := by
  unfold wrap32 word32
  split <;> omega
end Go.Proofs.YtilaalleiiakoaaDoor
