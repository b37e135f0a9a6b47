/- Two numbers among the arguments (layer 15). -/
import Derived.Test.YtefmhfjjahloeaaFr
namespace Go.Proofs.Ytefmhfjjahloeaa
open Go.ChangeShapes Go.WideShapes Go.ChangeAt Go.RowKit

set_option maxRecDepth 100000 in
theorem open_int2 {H : Type} {enc : TypeId × Value → H} {w : World} {base b0 : Nat} {spare : Nat → Bool} {held : Bool} {r : Reach} {v : Value} {d : DataW H} {ps : List MemPlace}
    (hv : Value.okWide Try.prog w r b0 22 v) (h : DataW.Trod enc Try.prog w base spare held 22 v d ps) : ∃ a b : Int, v = .agg #[.int .i64 a, .int .i64 b] := by
  have hc : Try.prog.cellsOf 22 = 2 := by kernel_rfl
  unfold Value.okWide at hv
  rw [Try.underlying22] at hv
  obtain ⟨cs, rfl, hs, _⟩ := hv
  rw [hc] at hs
  obtain ⟨fuel, hf⟩ := h
  obtain ⟨c0, c1, rfl⟩ : ∃ a b, cs = #[a, b] := by
    obtain ⟨l⟩ := cs
    match l, hs with
    | [a, b], _ => exact ⟨a, b, rfl⟩
  obtain ⟨xs, m, _, _, _, hxl, hi⟩ := DataW.trod_array Try.underlying22 hf
  have g0 := hi 0 (by omega)
  have g1 := hi 1 (by omega)
  rw [show Try.prog.cellsOf 3 = 1 by kernel_rfl] at g0 g1
  rw [List.getElem?_eq_getElem (by omega)] at g0 g1
  obtain ⟨n0, e0, _, f0⟩ := DataW.trod_int Try.underlying3 g0
  obtain ⟨n1, e1, _, f1⟩ := DataW.trod_int Try.underlying3 g1
  simp only [Value.cells, Nat.mul_one, List.drop_zero, List.drop_succ_cons, List.take_succ_cons, List.take_zero, List.cons.injEq, and_true] at e0 e1
  subst e0; subst e1
  exact ⟨n0, n1, rfl⟩
end Go.Proofs.Ytefmhfjjahloeaa
