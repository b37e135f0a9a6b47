/- Two new blocks (as in XH0: never import both). -/
import Derived.Test.YthoddoabcdbliaaBu
namespace Go.Proofs.Ythoddoabcdbliaa
open Go.RowKit

theorem two {w : World} {t u : TypeId} {a b : Array Value} : Below w.heap.size w ((w.alloc (.cells a t)).alloc (.cells b u)) ∧ Blk ((w.alloc (.cells a t)).alloc (.cells b u)) w.heap.size t a ∧ Blk ((w.alloc (.cells a t)).alloc (.cells b u)) (w.heap.size + 1) u b := by
  have h1 := Blk.new (w.alloc (.cells a t)) u b
  rw [World.size_alloc] at h1
  exact ⟨((Below.refl _ _).alloc (Nat.le_refl _) _).alloc (by simp) _, (Blk.new _ _ _).alloc _, h1⟩
end Go.Proofs.Ythoddoabcdbliaa
