/- A slice of bools among the arguments; StealOrder's walk. -/
import Derived.Test.YtfejimlfnelhhaaSn
import Derived.Test.YtfejimlfnelhhaaOp
namespace Go.Proofs.Ytfejimlfnelhhaa
open Go.ChangeShapes Go.WideShapes Go.ChangeAt Go.RowKit

/-- A slice's bools. -/
def BoolsIn (w : World) (A : Option Addr) (len : Nat) (z : Nat → Bool) : Prop :=
  ∀ i, i < len → ∃ b off, A = some ⟨b, off, none⟩ ∧ b < w.heap.size ∧ w.cell? ⟨b, off + i, none⟩ = some (.bool (z i))
theorem BoolsIn.below {w w' : World} {A : Option Addr} {len : Nat} {z : Nat → Bool} (h : BoolsIn w A len z) (hb : Below w.heap.size w w') : BoolsIn w' A len z := fun i hi => by
  obtain ⟨b, off, e, hlt, hc⟩ := h i hi
  exact ⟨b, off, e, Nat.lt_of_lt_of_le hlt hb.size, (hb.cell (p := ⟨b, off + i, none⟩) hlt).trans hc⟩
set_option maxRecDepth 100000 in
theorem open_slice_bools {t e : TypeId} (hu : Try.prog.underlying t = some (.slice e)) (hs : Try.prog.underlying e = some .bool) (hC : Try.prog.cellsOf e = 1)
    {H : Type} {enc : TypeId × Value → H} {w : World} {base : Nat} {spare : Nat → Bool} {held : Bool} {r : Reach} {b0 : Nat} {v : Value} {d : DataW H} {ps : List MemPlace}
    (hv : Value.okWide Try.prog w r b0 t v) (h : DataW.Trod enc Try.prog w base spare held t v d ps) : ∃ ad len cap z, v = .slice ad len cap ∧ len ≤ cap ∧ BoolsIn w ad len z := by
  obtain ⟨fuel, hf⟩ := h
  have hagg : ∀ cs, v ≠ .agg cs := by
    rintro cs rfl
    unfold Value.okWide at hv
    rw [hu] at hv
    simp only at hv
    unfold Cell.okWide at hv
    rw [hu] at hv
    simp only at hv
    unfold Cell.ok at hv
    rw [hu] at hv
    simp at hv
  rcases Go.Deep.open_slice hu hf with ⟨e1, _⟩ | ⟨a, len, cap, m, n, D, Pl, e1, _, hl, _, hm, _, hcell⟩
  · have e' : v = .slice none 0 0 := by cases v <;> simp_all [Value.cells]
    exact ⟨none, 0, 0, fun _ => false, e', Nat.le_refl _, fun i hi => absurd hi (by omega)⟩
  · have e' : v = .slice (some a) len cap := by cases v <;> simp_all [Value.cells]
    have hlm : len ≤ m := by rw [hm]; split <;> omega
    have key : ∀ x : Addr, ∀ u, w.cell? x = some u → x.spot = none ∧ x.block < w.heap.size := by
      intro x u hx
      unfold World.cell? at hx
      by_cases hb : x.block < w.heap.size
      · refine ⟨?_, hb⟩
        cases hs : x.spot with
        | none => rfl
        | some y => rw [hs] at hx; split at hx <;> simp at hx
      · rw [Array.getElem?_eq_none (by omega)] at hx; cases hx
    have one' : ∀ i, ∃ q : Bool, i < len → w.cell? (a.add i) = some (.bool q) := fun i => by
      by_cases hi : i < len
      · obtain ⟨cs', hc, ht⟩ := hcell i (by omega)
        rw [hC, Nat.mul_one] at hc
        obtain ⟨_, hcl, hat⟩ := World.cells?_some hc
        match cs', hcl with
        | [u0], _ =>
          obtain ⟨q, e0, _⟩ := DataW.trod_bool hs ht
          cases e0
          refine ⟨q, fun _ => ?_⟩
          have := hat 0 (by omega)
          have ha0 : (a.add i).add 0 = a.add i := by unfold Addr.add; rw [if_pos rfl]
          rw [ha0] at this
          exact this
      · exact ⟨false, fun h => absurd h hi⟩
    obtain ⟨F, hF⟩ := Classical.axiomOfChoice one'
    refine ⟨some a, len, cap, F, e', hl, fun i hi => ?_⟩
    have ha0 : a.add 0 = a := by unfold Addr.add; rw [if_pos rfl]
    have z := hF 0 (by omega)
    rw [ha0] at z
    obtain ⟨k1, k2⟩ := key _ _ z
    obtain ⟨b, off, spot⟩ := a
    simp only at k1 k2
    subst k1
    refine ⟨b, off, rfl, k2, ?_⟩
    have := hF i hi
    have hadd : (⟨b, off, none⟩ : Addr).add i = ⟨b, off + i, none⟩ := by unfold Addr.add; split <;> simp_all
    rwa [hadd] at this
end Go.Proofs.Ytfejimlfnelhhaa
