/- exec's Step and may, at any program and place. -/
import Derived.Test.YtdelddkpbdnckaaDoorG0
import Derived.Test.YtdelddkpbdnckaaDoorF0
import Derived.Deep.RegionWith
import Derived.Deep.DeepCutAuto
namespace Go.Proofs.YtdelddkpbdnckaaDoor
open Go.RowKit

set_option maxHeartbeats 1000000 in
theorem may_any (prio : Int) (A : Option Addr) (l : List I4) (cap : Nat) (w : World) (hT : Tabs w) (hI : InsIn w A l) :
    Calls Tryd.prog 62 #[.agg #[.int .i64 prio, .slice A l.length cap]] w (GotB w.heap.size (.bool (decide ((progE prio l).1 = 0))) w) := by
  have hb : Below w.heap.size w (w.alloc (.cells #[.int .i64 prio, .slice A l.length cap] 53)) := (Below.refl _ _).alloc (Nat.le_refl _) _
  have HC := Lib.hid (check_any prio A l cap _ (hT.on hb) (hI.below hb))
  have HB := Lib.hid hb
  obtain ⟨e1, he1⟩ : ∃ e, (progE prio l).1 = e := ⟨_, rfl⟩
  obtain ⟨e2, he2⟩ : ∃ e, (progE prio l).2 = e := ⟨_, rfl⟩
  unfold CheckP at HC
  rw [he1, he2] at HC
  rw [he1]
  clear hb he1 he2 hT hI
  generalize l.length = n at *
  obtain ⟨q, hq⟩ : ∃ q, decide (e1 = 0) = q := ⟨_, rfl⟩
  have t : (e1 == 0) = q := by rw [← hq]; rfl
  rw [hq]
  clear hq
  go_enter Tryd.func62, Tryd.ntmps62
  go_wp2_with (go_at_call 64; (with_reducible refine HC.out.mono ?_); rintro e w2 ⟨rfl, h2⟩; have H2 := Lib.hid h2; clear h2)
  go_ret
  exact ⟨rfl, HB.out.trans (H2.out.mono HB.out.size)⟩
end Go.Proofs.YtdelddkpbdnckaaDoor
