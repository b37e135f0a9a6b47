/- The document's step, whatever it is given. -/
import Derived.Test.YtdjdmkgiidbnnaaDoorG1
import Derived.Test.YtdjdmkgiidbnnaaDoorG4
namespace Go.Proofs.YtdjdmkgiidbnnaaDoor
open Go.RowKit

theorem refStep_any (prio : Int) (A : Option Addr) (l : List I4) (cap : Nat) (pc : Int) (r : R4) (w : World) (hI : InsIn w A l) (hr : r.Ok) :
    Calls Tryd.prog 11 #[.agg #[.int .i64 prio, .slice A l.length cap], .int .i64 pc, regV r] w (StepG (stepF prio l pc r) w) := by
  by_cases he : (progE prio l).1 = 0
  · by_cases h0 : pc < 0
    · rw [stepF_low h0]; exact refStep_low prio A l cap pc r w hI he h0
    · by_cases h1 : (l.length : Int) ≤ pc
      · rw [stepF_high h1]; exact refStep_high prio A l cap pc r w hI he (by omega) h1
      · obtain ⟨k, rfl⟩ := Int.eq_ofNat_of_zero_le (show 0 ≤ pc by omega)
        have hx : l[k]? = some (l[k]'(by omega)) := List.getElem?_eq_getElem (by omega)
        rw [stepF_in he hx]
        exact refStep_in _ prio A l cap k r w hI hx (fine_of he) hr
  · rw [stepF_bad he]; exact refStep_not prio A l cap pc r w hI he
end Go.Proofs.YtdjdmkgiidbnnaaDoor
