/- Two questions asked in one region that draws its order: what holds whatever has come up (layer 14). -/
import Derived.Test.YtdomgipbadimmaaCh
import Derived.Test.YtdomgipbadimmaaCz
namespace Go.Proofs.Ytdomgipbadimmaa
open Go.RowKit
set_option maxRecDepth 100000

def slotG (o : Nat) : Nat := [6, 7, 8, 9, 10, 11, 12, 13, 14, 15, 16, 17, 18, 19, 20, 4, 5].getD o 0
theorem slotG_inj : ∀ o, o < 17 → ∀ p, p < 17 → slotG o = slotG p → o = p := by decide
structure JG (val : Nat → Value) (z : Int) (w0 : World) (L : Array Bool) (v : Nat → Value) (w : World) : Prop where
  sz : L.size = 17
  bl : Below w0.heap.size w0 w
  pv : ∀ o, o < 17 → o ≠ 5 → o ≠ 12 → o ≠ 13 → OnL L o → v (slotG o) = val o
  c5 : OnL L 5 → ∃ q, v 11 = fOf q ∧ w.cell? ⟨q, 0, none⟩ = some (.int .i64 z)
  c12 : OnL L 12 → ∃ q, v 18 = fOf q ∧ w.cell? ⟨q, 0, none⟩ = some (.int .i64 z)
  c13 : OnL L 13 → ∃ q q0, v 19 = fNot q ∧ w.cell? ⟨q, 0, none⟩ = some (fOf q0) ∧ w.cell? ⟨q0, 0, none⟩ = some (.int .i64 z)
section
variable {val : Nat → Value} {z : Int} {w0 w w' : World} {L : Array Bool} {v : Nat → Value}
theorem keep_cell (hb : Below w.heap.size w w') {q : Nat} {x : Value} (h : w.cell? ⟨q, 0, none⟩ = some x) : w'.cell? ⟨q, 0, none⟩ = some x :=
  (hb.cell (p := ⟨q, 0, none⟩) (by unfold World.cell? at h; by_cases e : q < w.heap.size; exact e; rw [Array.getElem?_eq_none (by simpa using e)] at h; cases h)).trans h
theorem JG.step (h : JG val z w0 L v w) {o : Nat} (ho : o < 17) (x : Value) (hb : Below w.heap.size w w') (hx : o ≠ 5 → o ≠ 12 → o ≠ 13 → x = val o)
    (h5 : o = 5 → ∃ q, x = fOf q ∧ w'.cell? ⟨q, 0, none⟩ = some (.int .i64 z)) (h12 : o = 12 → ∃ q, x = fOf q ∧ w'.cell? ⟨q, 0, none⟩ = some (.int .i64 z))
    (h13 : o = 13 → ∃ q q0, x = fNot q ∧ w'.cell? ⟨q, 0, none⟩ = some (fOf q0) ∧ w'.cell? ⟨q0, 0, none⟩ = some (.int .i64 z)) : JG val z w0 (L.setIfInBounds o true) (updV v (slotG o) x) w' := by
  have other : ∀ k, k < 17 → k ≠ o → slotG k ≠ slotG o := fun k hk e q => e (slotG_inj k hk o ho q)
  refine ⟨by simpa using h.sz, h.bl.trans (hb.mono h.bl.size), fun k hk k1 k2 k3 hon => ?_, fun hon => ?_, fun hon => ?_, fun hon => ?_⟩
  · by_cases e : k = o
    · subst e; rw [updV_same]; exact hx k1 k2 k3
    · rw [updV_other _ _ (other k hk e)]
      exact h.pv k hk k1 k2 k3 ((onL_set hon).resolve_left e)
  · by_cases e : o = 5
    · subst e
      obtain ⟨q, a, b⟩ := h5 rfl
      exact ⟨q, (updV_same _ _ _).trans a, b⟩
    · obtain ⟨q, a, b⟩ := h.c5 ((onL_set hon).resolve_left fun q => e q.symm)
      exact ⟨q, (updV_other v x (s := slotG o) (k := 11) (other 5 (by decide) fun q => e q.symm)).trans a, keep_cell hb b⟩
  · by_cases e : o = 12
    · subst e
      obtain ⟨q, a, b⟩ := h12 rfl
      exact ⟨q, (updV_same _ _ _).trans a, b⟩
    · obtain ⟨q, a, b⟩ := h.c12 ((onL_set hon).resolve_left fun q => e q.symm)
      exact ⟨q, (updV_other v x (s := slotG o) (k := 18) (other 12 (by decide) fun q => e q.symm)).trans a, keep_cell hb b⟩
  · by_cases e : o = 13
    · subst e
      obtain ⟨q, q0, a, b, c⟩ := h13 rfl
      exact ⟨q, q0, (updV_same _ _ _).trans a, b, c⟩
    · obtain ⟨q, q0, a, b, c⟩ := h.c13 ((onL_set hon).resolve_left fun q => e q.symm)
      exact ⟨q, q0, (updV_other v x (s := slotG o) (k := 19) (other 13 (by decide) fun q => e q.symm)).trans a, keep_cell hb b, keep_cell hb c⟩
theorem JG.start : JG val z w0 (Array.replicate 17 false) v { w0 with drawn := w0.drawn + 1 } :=
  ⟨by simp, ⟨rfl, rfl, rfl, Nat.le_refl _, fun _ _ => rfl⟩, fun o _ _ _ _ h => absurd h (onL_none _ _), fun h => absurd h (onL_none _ _), fun h => absurd h (onL_none _ _), fun h => absurd h (onL_none _ _)⟩
end
end Go.Proofs.Ytdomgipbadimmaa
