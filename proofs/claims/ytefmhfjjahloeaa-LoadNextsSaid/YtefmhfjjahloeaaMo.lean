/- A slice of numbers among the arguments. -/
import Derived.Test.YtefmhfjjahloeaaBu
import Derived.Test.YtefmhfjjahloeaaFr
import Derived.ChangeSlices
namespace Go.Proofs.Ytefmhfjjahloeaa
open Go.ChangeShapes Go.WideShapes Go.ChangeAt Go.RowKit

/-- A slice's numbers. -/
def IntsIn (w : World) (A : Option Addr) (len : Nat) (z : Nat → Int) : Prop :=
  ∀ i, i < len → ∃ b off, A = some ⟨b, off, none⟩ ∧ b < w.heap.size ∧ w.cell? ⟨b, off + i, none⟩ = some (.int .i64 (z i))
theorem IntsIn.below {w w' : World} {A : Option Addr} {len : Nat} {z : Nat → Int} (h : IntsIn w A len z) (hb : Below w.heap.size w w') : IntsIn w' A len z := fun i hi => by
  obtain ⟨b, off, e, hlt, hc⟩ := h i hi
  exact ⟨b, off, e, Nat.lt_of_lt_of_le hlt hb.size, (hb.cell (p := ⟨b, off + i, none⟩) hlt).trans hc⟩
theorem IntsIn.less {w : World} {A : Option Addr} {len len' : Nat} {z : Nat → Int} (h : IntsIn w A len z) (hl : len' ≤ len) : IntsIn w A len' z := fun i hi => h i (by omega)
set_option maxRecDepth 100000 in
theorem open_slice_ints {H : Type} {enc : TypeId × Value → H} {w : World} {base : Nat} {spare : Nat → Bool} {held : Bool} {r : Reach} {b0 : Nat} {v : Value} {d : DataW H} {ps : List MemPlace}
    (hv : Value.okWide Try.prog w r b0 23 v) (h : DataW.Trod enc Try.prog w base spare held 23 v d ps) : ∃ ad len cap z, v = .slice ad len cap ∧ len ≤ cap ∧ IntsIn w ad len z := by
  obtain ⟨fuel, hf⟩ := h
  have hagg : ∀ cs, v ≠ .agg cs := by
    rintro cs rfl
    unfold Value.okWide at hv
    rw [Try.underlying23] at hv
    simp only at hv
    unfold Cell.okWide at hv
    rw [Try.underlying23] at hv
    simp only at hv
    unfold Cell.ok at hv
    rw [Try.underlying23] at hv
    simp at hv
  have hc : Try.prog.cellsOf 3 = 1 := by kernel_rfl
  rcases open_ints Try.underlying23 Try.underlying3 hc hf with ⟨e, _⟩ | ⟨a, len, cap, zs, e, _, hl, _, hz, _, hcell, _⟩
  · have e' : v = .slice none 0 0 := by cases v <;> simp_all [Value.cells]
    exact ⟨none, 0, 0, fun _ => 0, e', Nat.le_refl _, fun i hi => absurd hi (by omega)⟩
  · have e' : v = .slice (some a) len cap := by cases v <;> simp_all [Value.cells]
    refine ⟨some a, len, cap, fun i => zs.getD i 0, e', hl, fun i hi => ?_⟩
    have hlz : len ≤ zs.length := by rw [hz]; split <;> omega
    have c0 := hcell 0 (by omega)
    have key : ∀ x : Addr, ∀ u, w.cell? x = some u → x.spot = none ∧ x.block < w.heap.size := by
      intro x u hx
      unfold World.cell? at hx
      by_cases hb : x.block < w.heap.size
      · refine ⟨?_, hb⟩
        cases hs : x.spot with
        | none => rfl
        | some y => rw [hs] at hx; split at hx <;> simp at hx
      · rw [Array.getElem?_eq_none (by omega)] at hx; cases hx
    have ha0 : a.add 0 = a := by unfold Addr.add; rw [if_pos rfl]
    rw [ha0] at c0
    obtain ⟨k1, k2⟩ := key _ _ c0
    obtain ⟨b, off, spot⟩ := a
    simp only at k1 k2
    subst k1
    refine ⟨b, off, rfl, k2, ?_⟩
    have := hcell i (by omega)
    have hadd : (⟨b, off, none⟩ : Addr).add i = ⟨b, off + i, none⟩ := by unfold Addr.add; split <;> simp_all
    rwa [hadd] at this
end Go.Proofs.Ytefmhfjjahloeaa
