/- layer 35 (census): rows of numbers among the arguments. -/
import Derived.Test.YtnbiklkgkidlnaaCa
import Derived.Test.YtnbiklkgkidlnaaCr
import Derived.Deep.Slices
import Derived.ChangeSlices
namespace Go.Proofs.Ytnbiklkgkidlnaa
open Go.ChangeShapes Go.WideShapes Go.ChangeAt Go.RowKit
set_option maxRecDepth 100000

section
variable {H : Type} {enc : TypeId × Value → H} {w : World} {base b0 : Nat} {spare : Nat → Bool} {held : Bool} {r : Reach}
theorem addr_add0 (x : Addr) : x.add 0 = x := by unfold Addr.add; rw [if_pos rfl]
theorem addr_key (x : Addr) (u : Value) (hx : w.cell? x = some u) : x.spot = none ∧ x.block < w.heap.size := by
  unfold World.cell? at hx
  by_cases hb : x.block < w.heap.size
  · refine ⟨?_, hb⟩
    cases hs : x.spot with
    | none => rfl
    | some y => rw [hs] at hx; split at hx <;> simp at hx
  · rw [Array.getElem?_eq_none (by omega)] at hx; cases hx
/-- A row of structs, wherever it is read. -/
theorem open_rows {α : Type} {t e : TypeId} {n fuel : Nat} {cs : List Value} {x : DataW H × List MemPlace} (hu : Try.prog.underlying t = some (.slice e)) (hC : Try.prog.cellsOf e = n) (hn : 0 < n) (cells : α → List Value) (Q : α → Prop) (dflt : α)
    (one : ∀ (m : Nat) (c : List Value) (d : DataW H) (ps : List MemPlace), c.length = n → DataW.trod enc Try.prog w base spare held m e c = some (d, ps) → ∃ x : α, c = cells x ∧ Q x)
    (h : DataW.trod enc Try.prog w base spare held fuel t cs = some x) : ∃ (A : Option Addr) (l : List α) (cap : Nat), cs = [.slice A l.length cap] ∧ l.length ≤ cap ∧ ∀ i x, l[i]? = some x → Q x ∧ ∃ b off, A = some ⟨b, off, none⟩ ∧ b < w.heap.size ∧ ∀ j u, (cells x)[j]? = some u → w.cell? ⟨b, off + i * n + j, none⟩ = some u := by
  rcases DataW.trod_slice hu h with ⟨e1, _⟩ | ⟨a, len, cap, elems, rest, m, _, e1, _, _, hl, _, hel, hcell, _, _⟩
  · exact ⟨none, [], 0, by simpa using e1, Nat.le_refl _, fun i x hx => by simp at hx⟩
  · have key : ∀ i, ∃ x : α, i < len → Q x ∧ ∃ c, c.length = n ∧ c = cells x ∧ ∀ j, j < n → w.cell? ((a.add (i * n)).add j) = c[j]? := fun i => by
      by_cases hi : i < len
      · have q := hcell i hi
        rw [hC, List.getElem?_eq_getElem (by omega)] at q
        obtain ⟨c, hcs, ht⟩ := Option.bind_eq_some_iff.1 q
        obtain ⟨_, hcl, hat⟩ := World.cells?_some hcs
        obtain ⟨x, hx, hq⟩ := one m c _ _ hcl ht
        exact ⟨x, fun _ => ⟨hq, c, hcl, hx, fun j hj => hat j hj⟩⟩
      · exact ⟨dflt, fun z => absurd z hi⟩
    obtain ⟨F, hF⟩ := Classical.axiomOfChoice key
    refine ⟨some a, (List.range len).map F, cap, by simpa using e1, by simpa using hl, fun i x hx => ?_⟩
    have hi : i < len := by have := (List.getElem?_eq_some_iff.1 hx).1; simpa using this
    obtain rfl : F i = x := by rw [List.getElem?_map, List.getElem?_range hi] at hx; simpa using hx
    obtain ⟨hq, c, hcl, hcx, hat⟩ := hF i hi
    obtain ⟨_, c0, hcl0, hcx0, hat0⟩ := hF 0 (by omega)
    have k0 := hat0 0 hn
    rw [Nat.zero_mul, addr_add0, addr_add0, List.getElem?_eq_getElem (by omega)] at k0
    obtain ⟨k1, k2⟩ := addr_key _ _ k0
    obtain ⟨b, off, spot⟩ := a
    simp only at k1 k2
    subst k1
    refine ⟨hq, b, off, rfl, k2, fun j u hj => ?_⟩
    have hjn : j < n := by have := (List.getElem?_eq_some_iff.1 hj).1; rw [← hcx, hcl] at this; exact this
    have := hat j hjn
    rw [Addr.add_mid, Addr.add_mid] at this
    rw [this, hcx]; exact hj
theorem slice_of_cells {t e : TypeId} {v : Value} (hu : Try.prog.underlying t = some (.slice e)) (hv : Value.okWide Try.prog w r b0 t v) {u : Value} (hc : v.cells.toList = [u]) : v = u := by
  have hagg : ∀ cs, v ≠ .agg cs := by
    rintro cs rfl
    unfold Value.okWide at hv
    rw [hu] at hv
    simp only at hv
    unfold Cell.okWide at hv
    rw [hu] at hv
    simp only at hv
    unfold Cell.ok at hv
    rw [hu] at hv
    simp at hv
  cases v <;> simp_all [Value.cells]
theorem one1 {m : Nat} {c : List Value} {d : DataW H} {ps : List MemPlace} (h : DataW.trod enc Try.prog w base spare held m 3 c = some (d, ps)) : ∃ e : Int, c = [.int .i64 e] ∧ W64 e := by
  obtain ⟨n0, e0, _, w0⟩ := DataW.trod_int Try.underlying3 h
  exact ⟨n0, by simpa using e0, w0⟩
theorem open_numbers {v : Value} {d : DataW H} {ps : List MemPlace} (hv : Value.okWide Try.prog w r b0 26 v) (h : DataW.Trod enc Try.prog w base spare held 26 v d ps) :
    ∃ (A : Option Addr) (l : List Int) (n cap : Nat), v = .slice A n cap ∧ l.length = n ∧ n ≤ cap ∧ RowN w.heap.size w A l ∧ ∀ x ∈ l, W64 x := by
  obtain ⟨fuel, hf⟩ := h
  obtain ⟨A, l, cap, hc, hcap, hl⟩ := open_rows (α := Int) (n := 1) Try.underlying26 (by kernel_rfl) (by decide) (fun e => [.int .i64 e]) W64 0 (fun m c d ps _ h => one1 h) hf
  refine ⟨A, l, l.length, cap, slice_of_cells Try.underlying26 hv hc, rfl, hcap, fun i hi => ?_, fun x hx => ?_⟩
  · obtain ⟨_, b, off, ea, hb, hcell⟩ := hl i _ (List.getElem?_eq_getElem hi)
    exact ⟨b, off, ea, hb, by have := hcell 0 _ rfl; simpa using this⟩
  · obtain ⟨i, hi⟩ := List.mem_iff_getElem?.1 hx
    exact (hl i x hi).1
end
theorem open_uint2w {H : Type} {enc : TypeId × Value → H} {w : World} {base b0 : Nat} {spare : Nat → Bool} {held : Bool} {r : Reach} {v : Value} {d : DataW H} {ps : List MemPlace}
    (hv : Value.okWide Try.prog w r b0 44 v) (h : DataW.Trod enc Try.prog w base spare held 44 v d ps) : ∃ a b : Int, v = .agg #[.int .u64 a, .int .u64 b] := by
  have hc : Try.prog.cellsOf 44 = 2 := by kernel_rfl
  unfold Value.okWide at hv
  rw [Try.underlying44] at hv
  obtain ⟨cs, rfl, hs, _⟩ := hv
  rw [hc] at hs
  obtain ⟨fuel, hf⟩ := h
  obtain ⟨c0, c1, rfl⟩ : ∃ a b, cs = #[a, b] := by
    obtain ⟨l⟩ := cs
    match l, hs with
    | [a, b], _ => exact ⟨a, b, rfl⟩
  obtain ⟨xs, m, _, _, _, hxl, hi⟩ := DataW.trod_array Try.underlying44 hf
  have g0 := hi 0 (by omega)
  have g1 := hi 1 (by omega)
  rw [show Try.prog.cellsOf 43 = 1 by kernel_rfl] at g0 g1
  rw [List.getElem?_eq_getElem (by omega)] at g0 g1
  obtain ⟨n0, e0, _, _⟩ := DataW.trod_int Try.underlying43 g0
  obtain ⟨n1, e1, _, _⟩ := DataW.trod_int Try.underlying43 g1
  simp only [Value.cells, Nat.mul_one, List.drop_zero, List.drop_succ_cons, List.take_succ_cons, List.take_zero, List.cons.injEq, and_true] at e0 e1
  subst e0; subst e1
  exact ⟨n0, n1, rfl⟩
end Go.Proofs.Ytnbiklkgkidlnaa
