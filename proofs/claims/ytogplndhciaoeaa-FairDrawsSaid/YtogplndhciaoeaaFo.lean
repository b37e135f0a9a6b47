/- layer 33 (fair): rows of entries and of numbers among the arguments. -/
import Derived.Test.YtogplndhciaoeaaFb
import Derived.Test.YtogplndhciaoeaaFr
import Derived.Deep.Slices
import Derived.ChangeSlices
namespace Go.Proofs.Ytogplndhciaoeaa
open Go.ChangeShapes Go.WideShapes Go.ChangeAt Go.RowKit
set_option maxRecDepth 100000

/-- an entry's numbers are numbers. -/
def FitE (x : En) : Prop := W64 x.k ∧ W64 x.a ∧ W64 x.b ∧ W64 x.c ∧ 0 ≤ x.d ∧ x.d ≤ 18446744073709551615
section
variable {H : Type} {enc : TypeId × Value → H} {w : World} {base b0 : Nat} {spare : Nat → Bool} {held : Bool} {r : Reach}
theorem addr_add0 (x : Addr) : x.add 0 = x := by unfold Addr.add; rw [if_pos rfl]
theorem addr_key (x : Addr) (u : Value) (hx : w.cell? x = some u) : x.spot = none ∧ x.block < w.heap.size := by
  unfold World.cell? at hx
  by_cases hb : x.block < w.heap.size
  · refine ⟨?_, hb⟩
    cases hs : x.spot with
    | none => rfl
    | some y => rw [hs] at hx; split at hx <;> simp at hx
  · rw [Array.getElem?_eq_none (by omega)] at hx; cases hx
/-- A row of structs, wherever it is read. -/
theorem open_rows {α : Type} {t e : TypeId} {n fuel : Nat} {cs : List Value} {x : DataW H × List MemPlace} (hu : Try.prog.underlying t = some (.slice e)) (hC : Try.prog.cellsOf e = n) (hn : 0 < n) (cells : α → List Value) (Q : α → Prop) (dflt : α)
    (one : ∀ (m : Nat) (c : List Value) (d : DataW H) (ps : List MemPlace), c.length = n → DataW.trod enc Try.prog w base spare held m e c = some (d, ps) → ∃ x : α, c = cells x ∧ Q x)
    (h : DataW.trod enc Try.prog w base spare held fuel t cs = some x) : ∃ (A : Option Addr) (l : List α) (cap : Nat), cs = [.slice A l.length cap] ∧ l.length ≤ cap ∧ ∀ i x, l[i]? = some x → Q x ∧ ∃ b off, A = some ⟨b, off, none⟩ ∧ b < w.heap.size ∧ ∀ j u, (cells x)[j]? = some u → w.cell? ⟨b, off + i * n + j, none⟩ = some u := by
  rcases DataW.trod_slice hu h with ⟨e1, _⟩ | ⟨a, len, cap, elems, rest, m, _, e1, _, _, hl, _, hel, hcell, _, _⟩
  · exact ⟨none, [], 0, by simpa using e1, Nat.le_refl _, fun i x hx => by simp at hx⟩
  · have key : ∀ i, ∃ x : α, i < len → Q x ∧ ∃ c, c.length = n ∧ c = cells x ∧ ∀ j, j < n → w.cell? ((a.add (i * n)).add j) = c[j]? := fun i => by
      by_cases hi : i < len
      · have q := hcell i hi
        rw [hC, List.getElem?_eq_getElem (by omega)] at q
        obtain ⟨c, hcs, ht⟩ := Option.bind_eq_some_iff.1 q
        obtain ⟨_, hcl, hat⟩ := World.cells?_some hcs
        obtain ⟨x, hx, hq⟩ := one m c _ _ hcl ht
        exact ⟨x, fun _ => ⟨hq, c, hcl, hx, fun j hj => hat j hj⟩⟩
      · exact ⟨dflt, fun z => absurd z hi⟩
    obtain ⟨F, hF⟩ := Classical.axiomOfChoice key
    refine ⟨some a, (List.range len).map F, cap, by simpa using e1, by simpa using hl, fun i x hx => ?_⟩
    have hi : i < len := by have := (List.getElem?_eq_some_iff.1 hx).1; simpa using this
    obtain rfl : F i = x := by rw [List.getElem?_map, List.getElem?_range hi] at hx; simpa using hx
    obtain ⟨hq, c, hcl, hcx, hat⟩ := hF i hi
    obtain ⟨_, c0, hcl0, hcx0, hat0⟩ := hF 0 (by omega)
    have k0 := hat0 0 hn
    rw [Nat.zero_mul, addr_add0, addr_add0, List.getElem?_eq_getElem (by omega)] at k0
    obtain ⟨k1, k2⟩ := addr_key _ _ k0
    obtain ⟨b, off, spot⟩ := a
    simp only at k1 k2
    subst k1
    refine ⟨hq, b, off, rfl, k2, fun j u hj => ?_⟩
    have hjn : j < n := by have := (List.getElem?_eq_some_iff.1 hj).1; rw [← hcx, hcl] at this; exact this
    have := hat j hjn
    rw [Addr.add_mid, Addr.add_mid] at this
    rw [this, hcx]; exact hj
theorem slice_of_cells {t e : TypeId} {v : Value} (hu : Try.prog.underlying t = some (.slice e)) (hv : Value.okWide Try.prog w r b0 t v) {u : Value} (hc : v.cells.toList = [u]) : v = u := by
  have hagg : ∀ cs, v ≠ .agg cs := by
    rintro cs rfl
    unfold Value.okWide at hv
    rw [hu] at hv
    simp only at hv
    unfold Cell.okWide at hv
    rw [hu] at hv
    simp only at hv
    unfold Cell.ok at hv
    rw [hu] at hv
    simp at hv
  cases v <;> simp_all [Value.cells]
theorem one5cN {m : Nat} {c : List Value} {d : DataW H} {ps : List MemPlace} (hc : c.length = 5) (h : DataW.trod enc Try.prog w base spare held m 34 c = some (d, ps)) : ∃ e : En, c = clE e ∧ FitE e := by
  obtain ⟨xs, _, _, _, _, hxl, hg⟩ := DataW.trod_struct Try.underlying34 h
  have g0 := hg 0 ⟨"Kind", 3, 0, false, "", "", 0⟩ rfl
  have g1 := hg 1 ⟨"A", 3, 1, false, "", "", 8⟩ rfl
  have g2 := hg 2 ⟨"B", 3, 2, false, "", "", 16⟩ rfl
  have g3 := hg 3 ⟨"C", 3, 3, false, "", "", 24⟩ rfl
  have g4 := hg 4 ⟨"Draw", 32, 4, false, "", "", 32⟩ rfl
  have k1 : Try.prog.cellsOf 3 = 1 := by kernel_rfl
  have k2 : Try.prog.cellsOf 32 = 1 := by kernel_rfl
  dsimp only at g0 g1 g2 g3 g4
  rw [k1] at g0 g1 g2 g3
  rw [k2] at g4
  match c, hc with
  | [u0, u1, u2, u3, u4], _ =>
    simp only [List.drop_zero, List.drop_succ_cons, List.take_succ_cons, List.take_zero] at g0 g1 g2 g3 g4
    have l5 : xs.length = 5 := hxl
    have q0 : xs[0]? = some (xs[0]'(by omega)) := List.getElem?_eq_getElem (by omega)
    have q1 : xs[1]? = some (xs[1]'(by omega)) := List.getElem?_eq_getElem (by omega)
    have q2 : xs[2]? = some (xs[2]'(by omega)) := List.getElem?_eq_getElem (by omega)
    have q3 : xs[3]? = some (xs[3]'(by omega)) := List.getElem?_eq_getElem (by omega)
    have q4 : xs[4]? = some (xs[4]'(by omega)) := List.getElem?_eq_getElem (by omega)
    obtain ⟨n0, e0, _, w0⟩ := DataW.trod_int Try.underlying3 (g0.trans q0)
    obtain ⟨n1, e1, _, w1⟩ := DataW.trod_int Try.underlying3 (g1.trans q1)
    obtain ⟨n2, e2, _, w2⟩ := DataW.trod_int Try.underlying3 (g2.trans q2)
    obtain ⟨n3, e3, _, w3⟩ := DataW.trod_int Try.underlying3 (g3.trans q3)
    obtain ⟨n4, e4, _, w4⟩ := DataW.trod_int Try.underlying32 (g4.trans q4)
    cases e0; cases e1; cases e2; cases e3; cases e4
    have hu : 0 ≤ n4 ∧ n4 ≤ 18446744073709551615 := by simpa [Lit.wf, IntKind.min, IntKind.max, IntKind.signed, IntKind.bits] using w4
    exact ⟨⟨n0, n1, n2, n3, n4⟩, rfl, w0, w1, w2, w3, hu⟩
theorem open_entries {v : Value} {d : DataW H} {ps : List MemPlace} (hv : Value.okWide Try.prog w r b0 28 v) (h : DataW.Trod enc Try.prog w base spare held 28 v d ps) :
    ∃ (A : Option Addr) (l : List En) (n cap : Nat), v = .slice A n cap ∧ l.length = n ∧ n ≤ cap ∧ RowsE w.heap.size w A l ∧ ∀ x ∈ l, FitE x := by
  obtain ⟨fuel, hf⟩ := h
  obtain ⟨A, l, cap, hc, hcap, hl⟩ := open_rows (α := En) (n := 5) Try.underlying28 (by kernel_rfl) (by decide) clE FitE ⟨0, 0, 0, 0, 0⟩ (fun m c d ps hc h => one5cN hc h) hf
  refine ⟨A, l, l.length, cap, slice_of_cells Try.underlying28 hv hc, rfl, hcap, fun i e he => ?_, fun x hx => ?_⟩
  · obtain ⟨_, b, off, ea, hb, hcell⟩ := hl i e he
    exact ⟨b, off, ea, hb, fun j u hu => hcell j u hu⟩
  · obtain ⟨i, hi⟩ := List.mem_iff_getElem?.1 hx
    exact (hl i x hi).1
theorem one1 {m : Nat} {c : List Value} {d : DataW H} {ps : List MemPlace} (h : DataW.trod enc Try.prog w base spare held m 3 c = some (d, ps)) : ∃ e : Int, c = [.int .i64 e] ∧ W64 e := by
  obtain ⟨n0, e0, _, w0⟩ := DataW.trod_int Try.underlying3 h
  exact ⟨n0, by simpa using e0, w0⟩
theorem open_numbers {v : Value} {d : DataW H} {ps : List MemPlace} (hv : Value.okWide Try.prog w r b0 23 v) (h : DataW.Trod enc Try.prog w base spare held 23 v d ps) :
    ∃ (A : Option Addr) (l : List Int) (n cap : Nat), v = .slice A n cap ∧ l.length = n ∧ n ≤ cap ∧ RowN w.heap.size w A l ∧ ∀ x ∈ l, W64 x := by
  obtain ⟨fuel, hf⟩ := h
  obtain ⟨A, l, cap, hc, hcap, hl⟩ := open_rows (α := Int) (n := 1) Try.underlying23 (by kernel_rfl) (by decide) (fun e => [.int .i64 e]) W64 0 (fun m c d ps _ h => one1 h) hf
  refine ⟨A, l, l.length, cap, slice_of_cells Try.underlying23 hv hc, rfl, hcap, fun i hi => ?_, fun x hx => ?_⟩
  · obtain ⟨_, b, off, ea, hb, hcell⟩ := hl i _ (List.getElem?_eq_getElem hi)
    exact ⟨b, off, ea, hb, by have := hcell 0 _ rfl; simpa using this⟩
  · obtain ⟨i, hi⟩ := List.mem_iff_getElem?.1 hx
    exact (hl i x hi).1
end
end Go.Proofs.Ytogplndhciaoeaa
