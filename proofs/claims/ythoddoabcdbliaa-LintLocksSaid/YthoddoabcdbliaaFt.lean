/- What the arguments are. -/
import Derived.Test.YthoddoabcdbliaaCh
import Derived.Test.YthoddoabcdbliaaFr
import Derived.Test.YthoddoabcdbliaaEp
namespace Go.Proofs.Ythoddoabcdbliaa
open Go.ChangeShapes Go.WideShapes Go.ChangeAt Go.RowKit

set_option maxRecDepth 100000 in
/-- A program's two cells. -/
theorem prog_cells {H : Type} {enc : TypeId × Value → H} {w : World} {base fuel : Nat} {spare : Nat → Bool} {held : Bool} {c0 v1 : Value} {d : DataW H} {ps : List MemPlace}
    (hf : DataW.trod enc Try.prog w base spare held fuel 24 [c0, v1] = some (d, ps)) : ∃ prio A l cap, In64 prio ∧ [c0, v1] = [.int .i64 prio, .slice A l.length cap] ∧ l.length ≤ cap ∧ InsIn w A l := by
  obtain ⟨xs, m, _, _, _, hxl, hg⟩ := DataW.trod_struct Try.underlying24 hf
  have h0 := hg 0 ⟨"Prio", 3, 0, false, "", "", 0⟩ rfl
  have h1 := hg 1 ⟨"Code", 22, 1, false, "", "", 8⟩ rfl
  dsimp only at h0 h1
  rw [show Try.prog.cellsOf 3 = 1 by kernel_rfl] at h0
  rw [show Try.prog.cellsOf 22 = 1 by kernel_rfl] at h1
  have hx2 : xs.length = 2 := hxl
  rw [List.getElem?_eq_getElem (by omega)] at h0 h1
  obtain ⟨n0, e0, _, wf0⟩ := DataW.trod_int Try.underlying3 h0
  have hin : In64 n0 := by simpa [In64, Lit.wf, IntKind.min, IntKind.max, IntKind.signed, IntKind.bits] using wf0
  obtain rfl : c0 = .int .i64 n0 := by simpa using e0
  simp only [List.drop_succ_cons, List.drop_zero, List.take_succ_cons, List.take_zero] at h1
  rcases DataW.trod_slice Try.underlying22 h1 with ⟨e1, _⟩ | ⟨a, len, cap, elems, rest, n, _, e1, _, _, hl, _, hel, hcell, _, _⟩
  · obtain rfl : v1 = .slice none 0 0 := by simpa using e1
    exact ⟨n0, none, [], 0, hin, rfl, Nat.le_refl _, fun i x hx => by simp at hx⟩
  · obtain rfl : v1 = .slice (some a) len cap := by simpa using e1
    have hC : Try.prog.cellsOf 41 = 4 := by kernel_rfl
    rw [hC] at hcell
    have one : ∀ i, i < len → ∃ x : I4, Fits x ∧ ∀ (j : Nat) u, ([Value.int .i64 x.op, .int .i64 x.a, .int .i64 x.b, .int .i32 x.n])[j]? = some u → w.cell? ((a.add (i * 4)).add j) = some u := by
      intro i hi
      have q := hcell i hi
      rw [List.getElem?_eq_getElem (by omega)] at q
      obtain ⟨cs', hcs', ht⟩ := Option.bind_eq_some_iff.1 q
      obtain ⟨_, hcl, hat⟩ := World.cells?_some hcs'
      obtain ⟨ys, n', _, _, _, hyl, hh⟩ := DataW.trod_struct Try.underlying41 ht
      have g0 := hh 0 ⟨"Op", 3, 0, false, "", "", 0⟩ rfl
      have g1 := hh 1 ⟨"A", 3, 1, false, "", "", 8⟩ rfl
      have g2 := hh 2 ⟨"B", 3, 2, false, "", "", 16⟩ rfl
      have g3 := hh 3 ⟨"N", 21, 3, false, "", "", 24⟩ rfl
      dsimp only at g0 g1 g2 g3
      rw [show Try.prog.cellsOf 3 = 1 by kernel_rfl] at g0 g1 g2
      rw [show Try.prog.cellsOf 21 = 1 by kernel_rfl] at g3
      have l4 : ys.length = 4 := hyl
      rw [List.getElem?_eq_getElem (by omega)] at g0 g1 g2 g3
      match cs', hcl with
      | [u0, u1, u2, u3], _ =>
        simp only [List.drop_zero, List.drop_succ_cons, List.take_succ_cons, List.take_zero] at g0 g1 g2 g3
        obtain ⟨m0, q0, _, w0⟩ := DataW.trod_int Try.underlying3 g0
        obtain ⟨m1, q1, _, w1⟩ := DataW.trod_int Try.underlying3 g1
        obtain ⟨m2, q2, _, w2⟩ := DataW.trod_int Try.underlying3 g2
        obtain ⟨m3, q3, _, w3⟩ := DataW.trod_int Try.underlying21 g3
        cases q0; cases q1; cases q2; cases q3
        refine ⟨⟨m0, m1, m2, m3⟩, ⟨?_, ?_, ?_, ?_⟩, fun j u hj => ?_⟩
        · simpa [In64, Lit.wf, IntKind.min, IntKind.max, IntKind.signed, IntKind.bits] using w0
        · simpa [In64, Lit.wf, IntKind.min, IntKind.max, IntKind.signed, IntKind.bits] using w1
        · simpa [In64, Lit.wf, IntKind.min, IntKind.max, IntKind.signed, IntKind.bits] using w2
        · simpa [Lit.wf, IntKind.min, IntKind.max, IntKind.signed, IntKind.bits] using w3
        · have hj4 : j < 4 := (List.getElem?_eq_some_iff.1 hj).1
          rw [hat j hj4]; exact hj
    have one' : ∀ i, ∃ x : I4, i < len → Fits x ∧ ∀ (j : Nat) u, ([Value.int .i64 x.op, .int .i64 x.a, .int .i64 x.b, .int .i32 x.n])[j]? = some u → w.cell? ((a.add (i * 4)).add j) = some u := fun i => by
      by_cases hi : i < len
      · obtain ⟨x, hx⟩ := one i hi
        exact ⟨x, fun _ => hx⟩
      · exact ⟨I4.zero, fun h => absurd h hi⟩
    obtain ⟨F, hF⟩ := Classical.axiomOfChoice one'
    refine ⟨n0, some a, (List.range len).map F, cap, hin, by simp, by simpa using hl, fun i x hx => ?_⟩
    have hi : i < len := by have := (List.getElem?_eq_some_iff.1 hx).1; simpa using this
    obtain rfl : F i = x := by
      rw [List.getElem?_map, List.getElem?_range hi] at hx; simpa using hx
    obtain ⟨hfit, hcl⟩ := hF i hi
    have hadd : ∀ (b off j : Nat), (⟨b, off, none⟩ : Addr).add j = ⟨b, off + j, none⟩ := fun b off j => by unfold Addr.add; split <;> simp_all
    have ha0 : ∀ x : Addr, x.add 0 = x := fun x => by unfold Addr.add; rw [if_pos rfl]
    have key : ∀ x : Addr, ∀ u, w.cell? x = some u → x.spot = none ∧ x.block < w.heap.size := by
      intro x u hx
      unfold World.cell? at hx
      by_cases hb : x.block < w.heap.size
      · refine ⟨?_, hb⟩
        cases hs : x.spot with
        | none => rfl
        | some y => rw [hs] at hx; split at hx <;> simp at hx
      · rw [Array.getElem?_eq_none (by omega)] at hx; cases hx
    have k0 : a.spot = none ∧ a.block < w.heap.size := by
      have z := (hF 0 (by omega)).2 0 _ rfl
      rw [Nat.zero_mul, ha0, ha0] at z
      exact key _ _ z
    obtain ⟨b, off, spot⟩ := a
    obtain ⟨k1, k2⟩ := k0
    simp only at k1 k2
    subst k1
    refine ⟨hfit, b, off, rfl, k2, ?_, ?_, ?_, ?_⟩
    · have := hcl 0 _ rfl; rw [hadd, ha0] at this; exact this
    · have := hcl 1 _ rfl; rw [hadd, hadd] at this; exact this
    · have := hcl 2 _ rfl; rw [hadd, hadd] at this; exact this
    · have := hcl 3 _ rfl; rw [hadd, hadd] at this; exact this
set_option maxRecDepth 100000 in
/-- A program among the arguments. -/
theorem open_prog2 {H : Type} {enc : TypeId × Value → H} {w : World} {base b0 : Nat} {spare : Nat → Bool} {held : Bool} {r : Reach} {v : Value} {d : DataW H} {ps : List MemPlace}
    (hv : Value.okWide Try.prog w r b0 24 v) (h : DataW.Trod enc Try.prog w base spare held 24 v d ps) : ∃ prio A l cap, In64 prio ∧ v = .agg #[.int .i64 prio, .slice A l.length cap] ∧ l.length ≤ cap ∧ InsIn w A l := by
  have hc : Try.prog.cellsOf 24 = 2 := by kernel_rfl
  unfold Value.okWide at hv
  rw [Try.underlying24] at hv
  obtain ⟨cs, rfl, hs, _⟩ := hv
  rw [hc] at hs
  obtain ⟨fuel, hf⟩ := h
  obtain ⟨c0, v1, rfl⟩ : ∃ a b, cs = #[a, b] := by
    obtain ⟨l⟩ := cs
    match l, hs with
    | [a, b], _ => exact ⟨a, b, rfl⟩
  obtain ⟨prio, A, l, cap, h1, h2, h3, h4⟩ := prog_cells (by simpa [Value.cells] using hf)
  obtain ⟨rfl, rfl⟩ : c0 = .int .i64 prio ∧ v1 = .slice A l.length cap := by simpa using h2
  exact ⟨prio, A, l, cap, h1, rfl, h3, h4⟩
end Go.Proofs.Ythoddoabcdbliaa
