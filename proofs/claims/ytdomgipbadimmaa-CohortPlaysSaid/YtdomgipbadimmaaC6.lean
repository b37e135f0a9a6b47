/- A slice of things to be done (a kind and three numbers each) among the arguments. -/
import Derived.Test.YtdomgipbadimmaaBu
import Derived.Test.YtdomgipbadimmaaFr
import Derived.ChangeSlices
import Derived.Deep.Slices
namespace Go.Proofs.Ytdomgipbadimmaa
open Go.ChangeShapes Go.WideShapes Go.ChangeAt Go.RowKit

/-- A slice's things: each has a kind and three numbers. -/
def OpsC (w : World) (A : Option Addr) (len : Nat) (K : Nat → Nat) (I J L : Nat → Int) : Prop :=
  ∀ i, i < len → ∃ b off, A = some ⟨b, off, none⟩ ∧ b < w.heap.size ∧ w.cell? ⟨b, off + i * 4, none⟩ = some (.int .u64 (K i)) ∧ w.cell? ⟨b, off + i * 4 + 1, none⟩ = some (.int .i64 (I i)) ∧ w.cell? ⟨b, off + i * 4 + 2, none⟩ = some (.int .i64 (J i)) ∧ w.cell? ⟨b, off + i * 4 + 3, none⟩ = some (.int .i64 (L i))
theorem OpsC.below {w w' : World} {A : Option Addr} {len : Nat} {K : Nat → Nat} {I J L : Nat → Int} (h : OpsC w A len K I J L) (hb : Below w.heap.size w w') : OpsC w' A len K I J L := fun i hi => by
  obtain ⟨b, off, e, hlt, h0, h1, h2, h3⟩ := h i hi
  exact ⟨b, off, e, Nat.lt_of_lt_of_le hlt hb.size, (hb.cell (p := ⟨b, _, none⟩) hlt).trans h0, (hb.cell (p := ⟨b, _, none⟩) hlt).trans h1, (hb.cell (p := ⟨b, _, none⟩) hlt).trans h2, (hb.cell (p := ⟨b, _, none⟩) hlt).trans h3⟩
theorem OpsC.less {w : World} {A : Option Addr} {len len' : Nat} {K : Nat → Nat} {I J L : Nat → Int} (h : OpsC w A len K I J L) (hl : len' ≤ len) : OpsC w A len' K I J L := fun i hi => h i (by omega)
set_option maxRecDepth 100000 in
theorem open_slice_opsC {t e : TypeId} {f0 f1 f2 f3 : Field} (hu : Try.prog.underlying t = some (.slice e)) (hs : Try.prog.underlying e = some (.struct #[f0, f1, f2, f3])) (h0 : Try.prog.underlying f0.type = some (.int .u64)) (h1 : Try.prog.underlying f1.type = some (.int .i64)) (h2 : Try.prog.underlying f2.type = some (.int .i64)) (h3 : Try.prog.underlying f3.type = some (.int .i64))
    (c0 : Try.prog.cellsOf f0.type = 1) (c1 : Try.prog.cellsOf f1.type = 1) (c2 : Try.prog.cellsOf f2.type = 1) (c3 : Try.prog.cellsOf f3.type = 1) (o0 : f0.offset = 0) (o1 : f1.offset = 1) (o2 : f2.offset = 2) (o3 : f3.offset = 3) (hC : Try.prog.cellsOf e = 4)
    {H : Type} {enc : TypeId × Value → H} {w : World} {base : Nat} {spare : Nat → Bool} {held : Bool} {r : Reach} {b0 : Nat} {v : Value} {d : DataW H} {ps : List MemPlace}
    (hv : Value.okWide Try.prog w r b0 t v) (h : DataW.Trod enc Try.prog w base spare held t v d ps) : ∃ ad len cap K I J L, v = .slice ad len cap ∧ len ≤ cap ∧ OpsC w ad len K I J L := by
  obtain ⟨fuel, hf⟩ := h
  have hagg : ∀ cs, v ≠ .agg cs := by
    rintro cs rfl
    unfold Value.okWide at hv
    rw [hu] at hv
    simp only at hv
    unfold Cell.okWide at hv
    rw [hu] at hv
    simp only at hv
    unfold Cell.ok at hv
    rw [hu] at hv
    simp at hv
  rcases Go.Deep.open_slice hu hf with ⟨e1, _⟩ | ⟨a, len, cap, m, n, D, Pl, e1, _, hl, _, hm, _, hcell⟩
  · have e' : v = .slice none 0 0 := by cases v <;> simp_all [Value.cells]
    exact ⟨none, 0, 0, fun _ => 0, fun _ => 0, fun _ => 0, fun _ => 0, e', Nat.le_refl _, fun i hi => absurd hi (by omega)⟩
  · have e' : v = .slice (some a) len cap := by cases v <;> simp_all [Value.cells]
    have hlm : len ≤ m := by rw [hm]; split <;> omega
    have key : ∀ x : Addr, ∀ u, w.cell? x = some u → x.spot = none ∧ x.block < w.heap.size := by
      intro x u hx
      unfold World.cell? at hx
      by_cases hb : x.block < w.heap.size
      · refine ⟨?_, hb⟩
        cases hs : x.spot with
        | none => rfl
        | some y => rw [hs] at hx; split at hx <;> simp at hx
      · rw [Array.getElem?_eq_none (by omega)] at hx; cases hx
    have one : ∀ i, i < len → ∃ (k : Nat) (p q r : Int), ∀ j u, ([Value.int .u64 (k : Int), .int .i64 p, .int .i64 q, .int .i64 r])[j]? = some u → w.cell? ((a.add (i * 4)).add j) = some u := by
      intro i hi
      obtain ⟨cs', hc, ht⟩ := hcell i (by omega)
      rw [hC] at hc
      obtain ⟨xs, n', _, _, _, hxl, hg⟩ := DataW.trod_struct hs ht
      obtain ⟨_, hcl, hat⟩ := World.cells?_some hc
      have g0 := hg 0 f0 rfl
      have g1 := hg 1 f1 rfl
      have g2 := hg 2 f2 rfl
      have g3 := hg 3 f3 rfl
      rw [o0, c0] at g0; rw [o1, c1] at g1; rw [o2, c2] at g2; rw [o3, c3] at g3
      match cs', hcl with
      | [u0, u1, u2, u3], _ =>
        simp only [List.drop_zero, List.drop_succ_cons, List.take_succ_cons, List.take_zero] at g0 g1 g2 g3
        have l3 : xs.length = 4 := hxl
        have q0 : xs[0]? = some (xs[0]'(by omega)) := List.getElem?_eq_getElem (by omega)
        have q1 : xs[1]? = some (xs[1]'(by omega)) := List.getElem?_eq_getElem (by omega)
        have q2 : xs[2]? = some (xs[2]'(by omega)) := List.getElem?_eq_getElem (by omega)
        have q3 : xs[3]? = some (xs[3]'(by omega)) := List.getElem?_eq_getElem (by omega)
        obtain ⟨n0, e0, _, w0⟩ := DataW.trod_int h0 (g0.trans q0)
        obtain ⟨n1, e1, _, _⟩ := DataW.trod_int h1 (g1.trans q1)
        obtain ⟨n2, e2, _, _⟩ := DataW.trod_int h2 (g2.trans q2)
        obtain ⟨n3, e3, _, _⟩ := DataW.trod_int h3 (g3.trans q3)
        cases e0; cases e1; cases e2; cases e3
        have hmin : IntKind.u64.min = 0 := rfl
        have hn0 : 0 ≤ n0 := by simp only [Lit.wf, Bool.and_eq_true, decide_eq_true_eq] at w0; omega
        refine ⟨n0.toNat, n1, n2, n3, fun j u hj => ?_⟩
        rw [show ((n0.toNat : Nat) : Int) = n0 by omega] at hj
        have hj3 : j < 4 := (List.getElem?_eq_some_iff.1 hj).1
        rw [hat j hj3]; exact hj
    have one' : ∀ i, ∃ t : Nat × Int × Int × Int, i < len → ∀ j u, ([Value.int .u64 (t.1 : Int), .int .i64 t.2.1, .int .i64 t.2.2.1, .int .i64 t.2.2.2])[j]? = some u → w.cell? ((a.add (i * 4)).add j) = some u := fun i => by
      by_cases hi : i < len
      · obtain ⟨k, p, q, r, h⟩ := one i hi
        exact ⟨(k, p, q, r), fun _ => h⟩
      · exact ⟨(0, 0, 0, 0), fun h => absurd h hi⟩
    obtain ⟨F, hF⟩ := Classical.axiomOfChoice one'
    refine ⟨some a, len, cap, fun i => (F i).1, fun i => (F i).2.1, fun i => (F i).2.2.1, fun i => (F i).2.2.2, e', hl, fun i hi => ?_⟩
    have hadd : ∀ (b off j : Nat), (⟨b, off, none⟩ : Addr).add j = ⟨b, off + j, none⟩ := fun b off j => by unfold Addr.add; split <;> simp_all
    have ha0 : ∀ x : Addr, x.add 0 = x := fun x => by unfold Addr.add; rw [if_pos rfl]
    have k0 : a.spot = none ∧ a.block < w.heap.size := by
      have z := hF 0 (by omega) 0 _ rfl
      rw [Nat.zero_mul, ha0, ha0] at z
      exact key _ _ z
    obtain ⟨b, off, spot⟩ := a
    obtain ⟨k1, k2⟩ := k0
    simp only at k1 k2
    subst k1
    refine ⟨b, off, rfl, k2, ?_, ?_, ?_, ?_⟩
    · have := hF i hi 0 _ rfl; rw [hadd, ha0] at this; exact this
    · have := hF i hi 1 _ rfl; rw [hadd, hadd] at this; exact this
    · have := hF i hi 2 _ rfl; rw [hadd, hadd] at this; exact this
    · have := hF i hi 3 _ rfl; rw [hadd, hadd] at this; exact this
end Go.Proofs.Ytdomgipbadimmaa
