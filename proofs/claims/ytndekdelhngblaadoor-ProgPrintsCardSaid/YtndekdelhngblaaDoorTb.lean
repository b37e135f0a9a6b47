/- The variables that programs' texts lean on: the instructions' names, powers of ten, the library's errors. -/
import Derived.Test.YtndekdelhngblaaDoorBu
import Derived.Test.YtndekdelhngblaaDoorPl
import Derived.Lib.LaidTab
import Derived.Lib.ItoaNum
namespace Go.Proofs.YtndekdelhngblaaDoor
open Go.RowKit

structure Tabs (w : World) : Prop where
  names : ∀ k : Nat, k < 15 → w.cell? ⟨0, k, none⟩ = some (.string ⟨(nmL k).toArray⟩)
  pow : Lib.TabIs Tryd.prog w "internal/strconv.uint64pow10" .u64 Lib.pow10Tab
  size : 9 ≤ w.heap.size
  most : ∃ m : Int, w.cell? ⟨1, 0, none⟩ = some (.int .i64 m)
  syn : ∃ ev, w.cell? ⟨2, 0, none⟩ = some ev ∧ (ev = .nilIface ∨ ∃ te pe, ev = .iface te pe)
  ran : ∃ ev, w.cell? ⟨3, 0, none⟩ = some ev ∧ (ev = .nilIface ∨ ∃ te pe, ev = .iface te pe)
theorem gPow : Tryd.prog.globalNamed "internal/strconv.uint64pow10" = some 4 := by kernel_rfl
theorem Tabs.on {w w' : World} (h : Tabs w) (hb : Below w.heap.size w w') : Tabs w' where
  names k hk := (hb.cell (p := ⟨_, k, none⟩) (by have := h.size; simp; omega)).trans (h.names k hk)
  pow := var?_below hb gPow (by have := h.size; omega) h.pow
  size := Nat.le_trans h.size hb.size
  most := by obtain ⟨m, e⟩ := h.most; exact ⟨m, (hb.cell (p := ⟨_, 0, none⟩) (by have := h.size; simp; omega)).trans e⟩
  syn := by obtain ⟨m, e, x⟩ := h.syn; exact ⟨m, (hb.cell (p := ⟨_, 0, none⟩) (by have := h.size; simp; omega)).trans e, x⟩
  ran := by obtain ⟨m, e, x⟩ := h.ran; exact ⟨m, (hb.cell (p := ⟨_, 0, none⟩) (by have := h.size; simp; omega)).trans e, x⟩
theorem Tabs.drewN {w : World} (h : Tabs w) (n : Nat) : Tabs (w.drewN n) := h.on ⟨rfl, rfl, rfl, Nat.le_refl _, fun _ _ => rfl⟩
theorem Tabs.alloc {w : World} (h : Tabs w) (o : Obj) : Tabs (w.alloc o) := h.on ((Below.refl _ _).alloc (Nat.le_refl _) o)
end Go.Proofs.YtndekdelhngblaaDoor
