/- layer 31 (codec): bytes among the arguments. -/
import Derived.Test.YtchhenpijbecaaaDoorCd
namespace Go.Proofs.YtchhenpijbecaaaDoor
open Go.ChangeShapes Go.WideShapes Go.ChangeAt Go.RowKit

theorem b64_of {n : Int} (h : (Lit.int .i64 n).wf = true) : B64 n := by
  unfold B64; simpa [Lit.wf, IntKind.min, IntKind.max, IntKind.signed, IntKind.bits] using h
set_option maxRecDepth 100000 in
theorem open_bytes {H : Type} {enc : TypeId × Value → H} {w : World} {base : Nat} {spare : Nat → Bool} {held : Bool} {r : Reach} {b0 : Nat} {v : Value} {d : DataW H} {ps : List MemPlace}
    (hv : Value.okWide Tryd.prog w r b0 22 v) (h : DataW.Trod enc Tryd.prog w base spare held 22 v d ps) : ∃ (ad : Option Addr) (l : List UInt8) (len cap : Nat), v = .slice ad len cap ∧ l.length = len ∧ len ≤ cap ∧ BysIn w.heap.size w ad l := by
  obtain ⟨fuel, hf⟩ := h
  have hagg : ∀ cs, v ≠ .agg cs := by
    rintro cs rfl
    unfold Value.okWide at hv
    rw [Tryd.underlying22] at hv
    simp only at hv
    unfold Cell.okWide at hv
    rw [Tryd.underlying22] at hv
    simp only at hv
    unfold Cell.ok at hv
    rw [Tryd.underlying22] at hv
    simp at hv
  have hc : Tryd.prog.cellsOf 5 = 1 := by kernel_rfl
  rcases open_ints Tryd.underlying22 Tryd.underlying5 hc hf with ⟨e, _⟩ | ⟨a, len, cap, zs, e, _, hl, _, hz, _, hcell, hwf⟩
  · have e' : v = .slice none 0 0 := by cases v <;> simp_all [Value.cells]
    exact ⟨none, [], 0, 0, e', rfl, Nat.le_refl _, fun i hi => absurd hi (by simp)⟩
  · have e' : v = .slice (some a) len cap := by cases v <;> simp_all [Value.cells]
    have hlz : len ≤ zs.length := by rw [hz]; split <;> omega
    refine ⟨some a, (zs.take len).map fun z => UInt8.ofNat z.toNat, len, cap, e', by simp; omega, hl, fun i hi => ?_⟩
    have hi' : i < len := by simp at hi; omega
    have key : ∀ x : Addr, ∀ u, w.cell? x = some u → x.spot = none ∧ x.block < w.heap.size := by
      intro x u hx
      unfold World.cell? at hx
      by_cases hb : x.block < w.heap.size
      · refine ⟨?_, hb⟩
        cases hs : x.spot with
        | none => rfl
        | some y => rw [hs] at hx; split at hx <;> simp at hx
      · rw [Array.getElem?_eq_none (by omega)] at hx; cases hx
    have c0 := hcell 0 (by omega)
    have ha0 : a.add 0 = a := by unfold Addr.add; rw [if_pos rfl]
    rw [ha0] at c0
    obtain ⟨k1, k2⟩ := key _ _ c0
    obtain ⟨b, off, spot⟩ := a
    simp only at k1 k2
    subst k1
    refine ⟨b, off, rfl, k2, ?_⟩
    have := hcell i (by omega)
    have hadd : (⟨b, off, none⟩ : Addr).add i = ⟨b, off + i, none⟩ := by unfold Addr.add; split <;> simp_all
    rw [hadd] at this
    rw [this]
    have hg : zs.getD i 0 = zs[i] := by rw [List.getD_eq_getElem?_getD, List.getElem?_eq_getElem (by omega)]; rfl
    have hb := hwf zs[i] (List.getElem_mem _)
    have hb2 : 0 ≤ zs[i] ∧ zs[i] ≤ 255 := by simpa [Lit.wf, IntKind.min, IntKind.max, IntKind.signed, IntKind.bits] using hb
    simp only [List.getElem_map, List.getElem_take]
    rw [hg, u8_of (by omega)]
    congr 2; omega
end Go.Proofs.YtchhenpijbecaaaDoor
