/- A slice of numbers among the arguments. -/
import Derived.Test.YtaljhmpaccldcaaDoorMk
import Derived.Test.YtaljhmpaccldcaaDoorFr
import Derived.ChangeSlices
namespace Go.Proofs.YtaljhmpaccldcaaDoor
open Go.ChangeShapes Go.WideShapes Go.ChangeAt Go.RowKit

theorem open_slice_ints {H : Type} {enc : TypeId × Value → H} {w : World} {base : Nat} {spare : Nat → Bool} {held : Bool} {r : Reach} {b0 : Nat} {v : Value} {d : DataW H} {ps : List MemPlace}
    (hv : Value.okWide Tryd.prog w r b0 22 v) (h : DataW.Trod enc Tryd.prog w base spare held 22 v d ps) : ∃ ad len cap z, v = .slice ad len cap ∧ (ad = none → cap = 0) ∧ len ≤ cap ∧ IntsAt w (.slice ad len cap) z len := by
  obtain ⟨fuel, hf⟩ := h
  have hagg : ∀ cs, v ≠ .agg cs := by
    rintro cs rfl
    unfold Value.okWide at hv
    rw [Tryd.underlying22] at hv
    simp only at hv
    unfold Cell.okWide at hv
    rw [Tryd.underlying22] at hv
    simp only at hv
    unfold Cell.ok at hv
    rw [Tryd.underlying22] at hv
    simp at hv
  have hc : Tryd.prog.cellsOf 3 = 1 := by kernel_rfl
  rcases open_ints Tryd.underlying22 Tryd.underlying3 hc hf with ⟨e, _⟩ | ⟨a, len, cap, zs, e, _, hl, _, hz, _, hcell, _⟩
  · have e' : v = .slice none 0 0 := by cases v <;> simp_all [Value.cells]
    exact ⟨none, 0, 0, fun _ => 0, e', fun _ => rfl, Nat.le_refl _, ⟨none, 0, rfl, .inl rfl⟩⟩
  · have e' : v = .slice (some a) len cap := by cases v <;> simp_all [Value.cells]
    refine ⟨some a, len, cap, fun i => zs.getD i 0, e', fun h => (by cases h), hl, ?_⟩
    refine ⟨some a, cap, rfl, ?_⟩
    by_cases h0 : len = 0
    · exact .inl h0
    · have hlz : len ≤ zs.length := by rw [hz]; split <;> omega
      have c0 := hcell 0 (by omega)
      have key : ∀ x : Addr, ∀ u, w.cell? x = some u → x.spot = none ∧ x.block < w.heap.size := by
        intro x u hx
        unfold World.cell? at hx
        by_cases hb : x.block < w.heap.size
        · refine ⟨?_, hb⟩
          cases hs : x.spot with
          | none => rfl
          | some y => rw [hs] at hx; split at hx <;> simp at hx
        · rw [Array.getElem?_eq_none (by omega)] at hx; cases hx
      have ha0 : a.add 0 = a := by unfold Addr.add; rw [if_pos rfl]
      rw [ha0] at c0
      obtain ⟨k1, k2⟩ := key _ _ c0
      obtain ⟨b, off, spot⟩ := a
      simp only at k1 k2
      subst k1
      refine .inr ⟨b, off, rfl, k2, fun i hi => ?_⟩
      have := hcell i (by omega)
      have hadd : (⟨b, off, none⟩ : Addr).add i = ⟨b, off + i, none⟩ := by unfold Addr.add; split <;> simp_all
      rwa [hadd] at this
theorem makes_law {ad : Option Addr} {len cap : Nat} {z : Nat → Int} (n : Int) (w : World) (hT : Tabs w) (hn : ad = none → cap = 0) (hl : len ≤ cap) (hI : IntsAt w (.slice ad len cap) z len) :
    Calls Tryd.prog 3 #[.slice ad len cap, .int .i64 n] w fun e w' => e = .returned (.bool true) ∧ Below w.heap.size w w' :=
  makes_any ad len cap z n w hT hI hn hl
end Go.Proofs.YtaljhmpaccldcaaDoor
