/- The variables that steps lean on: the instructions' names, what is asked where none can be done. -/
import Derived.Test.YtdelddkpbdnckaaDoorBu
import Derived.Test.YtdelddkpbdnckaaDoorPl
import Derived.Lib.LaidTab
namespace Go.Proofs.YtdelddkpbdnckaaDoor
open Go.RowKit

structure Tabs (w : World) : Prop where
  names : ∀ k : Nat, k < 15 → w.cell? ⟨1, k, none⟩ = some (.string ⟨(nmL k).toArray⟩)
  r0 : w.cell? ⟨0, 0, none⟩ = some (.int .i64 14)
  r1 : w.cell? ⟨0, 1, none⟩ = some (.int .i64 0)
  r2 : w.cell? ⟨0, 2, none⟩ = some (.int .i32 (-1))
  size : 1 < w.heap.size ∧ 0 < w.heap.size
theorem Tabs.on {w w' : World} (h : Tabs w) (hb : Below w.heap.size w w') : Tabs w' where
  names k hk := (hb.cell (p := ⟨_, k, none⟩) h.size.1).trans (h.names k hk)
  r0 := (hb.cell (p := ⟨_, 0, none⟩) h.size.2).trans h.r0
  r1 := (hb.cell (p := ⟨_, 1, none⟩) h.size.2).trans h.r1
  r2 := (hb.cell (p := ⟨_, 2, none⟩) h.size.2).trans h.r2
  size := ⟨Nat.lt_of_lt_of_le h.size.1 hb.size, Nat.lt_of_lt_of_le h.size.2 hb.size⟩
theorem Tabs.drewN {w : World} (h : Tabs w) (n : Nat) : Tabs (w.drewN n) := h.on ⟨rfl, rfl, rfl, Nat.le_refl _, fun _ _ => rfl⟩
theorem Tabs.alloc {w : World} (h : Tabs w) (o : Obj) : Tabs (w.alloc o) := h.on ((Below.refl _ _).alloc (Nat.le_refl _) o)
end Go.Proofs.YtdelddkpbdnckaaDoor
