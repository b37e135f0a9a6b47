/- Things to be done with tasks, among the arguments (layer 12). -/
import Derived.Test.YtdlncbndhljhfaaTp
import Derived.Deep.Slices
namespace Go.Proofs.Ytdlncbndhljhfaa
open Go.ChangeShapes Go.WideShapes Go.ChangeAt Go.RowKit

theorem take1_get {cs : List Value} {off : Nat} {v : Value} (h : (cs.drop off).take 1 = [v]) : cs[off]? = some v := by
  have := congrArg (fun l : List Value => l[0]?) h
  simpa [List.getElem?_take, List.getElem?_drop] using this
section
variable {H : Type} {enc : TypeId × Value → H} {w : World} {base fuel : Nat} {spare : Nat → Bool} {held : Bool}
theorem cell_int {cs : List Value} {off : Nat} {t : TypeId} {k : IntKind} {y : DataW H × List MemPlace} (hu : Try.prog.underlying t = some (.int k)) (hc : Try.prog.cellsOf t = 1) (h : DataW.trod enc Try.prog w base spare held fuel t ((cs.drop off).take (Try.prog.cellsOf t)) = some y) : ∃ n, cs[off]? = some (.int k n) := by
  rw [hc] at h
  obtain ⟨n, e, _⟩ := DataW.trod_int hu h
  exact ⟨n, take1_get e⟩
theorem cell_arr {cs : List Value} {off n : Nat} {t e : TypeId} {k : IntKind} {y : DataW H × List MemPlace} (hu : Try.prog.underlying t = some (.array n e)) (hn : Try.prog.cellsOf t = n) (he : Try.prog.underlying e = some (.int k)) (hc : Try.prog.cellsOf e = 1) (h : DataW.trod enc Try.prog w base spare held fuel t ((cs.drop off).take (Try.prog.cellsOf t)) = some y) (j : Nat) (hj : j < n) : ∃ m, cs[off + j]? = some (.int k m) := by
  rw [hn] at h
  obtain ⟨xs, m, _, _, hl, hxl, hi⟩ := DataW.trod_array hu h
  have g := hi j hj
  rw [hc, Nat.mul_one, List.getElem?_eq_getElem (by omega)] at g
  obtain ⟨q, e1, _⟩ := DataW.trod_int he g
  have := take1_get e1
  rw [List.getElem?_take, if_pos hj, List.getElem?_drop] at this
  exact ⟨q, this⟩
theorem trod_task {cs : List Value} {y : DataW H × List MemPlace} (h : DataW.trod enc Try.prog w base spare held fuel 38 cs = some y) : OkT cs := by
  obtain ⟨xs, n', _, _, hl, hxl, hg⟩ := DataW.trod_struct Try.underlying38 h
  rw [show Try.prog.cellsOf 38 = 29 by kernel_rfl] at hl
  have hx11 : xs.length = 11 := hxl
  have g0 := hg 0 ⟨"Prog", 3, 0, false, "", "", 0⟩ rfl
  have g1 := hg 1 ⟨"Pc", 3, 1, false, "", "", 8⟩ rfl
  have g2 := hg 2 ⟨"Regs", 33, 2, false, "", "", 16⟩ rfl
  have g3 := hg 3 ⟨"Prio", 3, 6, false, "", "", 32⟩ rfl
  have g4 := hg 4 ⟨"Mask", 36, 7, false, "", "", 40⟩ rfl
  have g5 := hg 5 ⟨"Pin", 3, 23, false, "", "", 168⟩ rfl
  have g6 := hg 6 ⟨"Bubble", 3, 24, false, "", "", 176⟩ rfl
  have g7 := hg 7 ⟨"State", 3, 25, false, "", "", 184⟩ rfl
  have g8 := hg 8 ⟨"On", 3, 26, false, "", "", 192⟩ rfl
  have g9 := hg 9 ⟨"Last", 3, 27, false, "", "", 200⟩ rfl
  have g10 := hg 10 ⟨"Reg", 3, 28, false, "", "", 208⟩ rfl
  dsimp only at g0 g1 g2 g3 g4 g5 g6 g7 g8 g9 g10
  rw [List.getElem?_eq_getElem (by omega)] at g0 g1 g2 g3 g4 g5 g6 g7 g8 g9 g10
  have c0 := cell_int Try.underlying3 (by kernel_rfl) g0
  have c1 := cell_int Try.underlying3 (by kernel_rfl) g1
  have c2 := cell_arr Try.underlying33 (by kernel_rfl) Try.underlying21 (by kernel_rfl) g2
  have c3 := cell_int Try.underlying3 (by kernel_rfl) g3
  have c4 := cell_arr Try.underlying36 (by kernel_rfl) Try.underlying34 (by kernel_rfl) g4
  have c5 := cell_int Try.underlying3 (by kernel_rfl) g5
  have c6 := cell_int Try.underlying3 (by kernel_rfl) g6
  have c7 := cell_int Try.underlying3 (by kernel_rfl) g7
  have c8 := cell_int Try.underlying3 (by kernel_rfl) g8
  have c9 := cell_int Try.underlying3 (by kernel_rfl) g9
  have c10 := cell_int Try.underlying3 (by kernel_rfl) g10
  refine ⟨hl, fun j hj => ?_⟩
  by_cases h1 : 2 ≤ j ∧ j ≤ 5
  · rw [show kindT j = .i32 from if_pos h1, show j = 2 + (j - 2) by omega]
    exact c2 (j - 2) (by omega)
  · by_cases h2 : 7 ≤ j ∧ j ≤ 22
    · rw [show kindT j = .u64 from (if_neg h1).trans (if_pos h2), show j = 7 + (j - 7) by omega]
      exact c4 (j - 7) (by omega)
    · rw [show kindT j = .i64 from (if_neg h1).trans (if_neg h2)]
      have : j = 0 ∨ j = 1 ∨ j = 6 ∨ j = 23 ∨ j = 24 ∨ j = 25 ∨ j = 26 ∨ j = 27 ∨ j = 28 := by omega
      rcases this with rfl | rfl | rfl | rfl | rfl | rfl | rfl | rfl | rfl
      · exact c0
      · exact c1
      · exact c3
      · exact c5
      · exact c6
      · exact c7
      · exact c8
      · exact c9
      · exact c10
end
/-- One thing to be done. -/
structure OpR where
  kind : Nat
  x : List Value
  id : Int
  on : Int
def OpsT (w : World) (A : Option Addr) (l : List OpR) : Prop :=
  ∀ i o, l[i]? = some o → OkT o.x ∧ ∃ b off, A = some ⟨b, off, none⟩ ∧ b < w.heap.size ∧ w.cell? ⟨b, off + i * 32, none⟩ = some (.int .u64 o.kind) ∧ w.rangeAt b (off + i * 32 + 1) o.x ∧ w.cell? ⟨b, off + i * 32 + 30, none⟩ = some (.int .i64 o.id) ∧ w.cell? ⟨b, off + i * 32 + 31, none⟩ = some (.int .i64 o.on)
theorem OpsT.below {w w' : World} {A : Option Addr} {l : List OpR} (h : OpsT w A l) (hb : Below w.heap.size w w') : OpsT w' A l := fun i o ho => by
  obtain ⟨h0, b, off, e, hlt, h1, h2, h3, h4⟩ := h i o ho
  exact ⟨h0, b, off, e, Nat.lt_of_lt_of_le hlt hb.size, (hb.cell (p := ⟨b, _, none⟩) hlt).trans h1, fun j u hj => (hb.cell (p := ⟨b, _, none⟩) hlt).trans (h2 j u hj), (hb.cell (p := ⟨b, _, none⟩) hlt).trans h3, (hb.cell (p := ⟨b, _, none⟩) hlt).trans h4⟩
theorem OpsT.take {w : World} {A : Option Addr} {l : List OpR} (h : OpsT w A l) (n : Nat) : OpsT w A (l.take n) := fun i o ho => by
  rw [List.getElem?_take] at ho
  split at ho
  · exact h i o ho
  · cases ho
set_option maxRecDepth 100000 in
theorem open_slice_opsT {H : Type} {enc : TypeId × Value → H} {w : World} {base : Nat} {spare : Nat → Bool} {held : Bool} {r : Reach} {b0 : Nat} {v : Value} {d : DataW H} {ps : List MemPlace}
    (hv : Value.okWide Try.prog w r b0 22 v) (h : DataW.Trod enc Try.prog w base spare held 22 v d ps) : ∃ ad l cap, v = .slice ad l.length cap ∧ l.length ≤ cap ∧ OpsT w ad l := by
  have hu := Try.underlying22
  have hC : Try.prog.cellsOf 40 = 32 := by kernel_rfl
  obtain ⟨fuel, hf⟩ := h
  have hagg : ∀ cs, v ≠ .agg cs := by
    rintro cs rfl
    unfold Value.okWide at hv
    rw [hu] at hv
    simp only at hv
    unfold Cell.okWide at hv
    rw [hu] at hv
    simp only at hv
    unfold Cell.ok at hv
    rw [hu] at hv
    simp at hv
  rcases Go.Deep.open_slice hu hf with ⟨e1, _⟩ | ⟨a, len, cap, m, n, D, Pl, e1, _, hl, _, hm, _, hcell⟩
  · have e' : v = .slice none 0 0 := by cases v <;> simp_all [Value.cells]
    exact ⟨none, [], 0, e', Nat.le_refl _, fun i o hi => by simp at hi⟩
  · have e' : v = .slice (some a) len cap := by cases v <;> simp_all [Value.cells]
    have hlm : len ≤ m := by rw [hm]; split <;> omega
    have key : ∀ x : Addr, ∀ u, w.cell? x = some u → x.spot = none ∧ x.block < w.heap.size := by
      intro x u hx
      unfold World.cell? at hx
      by_cases hb : x.block < w.heap.size
      · refine ⟨?_, hb⟩
        cases hs : x.spot with
        | none => rfl
        | some y => rw [hs] at hx; split at hx <;> simp at hx
      · rw [Array.getElem?_eq_none (by omega)] at hx; cases hx
    have one : ∀ i, i < len → ∃ o : OpR, OkT o.x ∧ ∀ j u, (Value.int .u64 (o.kind : Int) :: (o.x ++ [Value.int .i64 o.id, .int .i64 o.on]))[j]? = some u → w.cell? ((a.add (i * 32)).add j) = some u := by
      intro i hi
      obtain ⟨cs', hc, ht⟩ := hcell i (by omega)
      rw [hC] at hc
      obtain ⟨xs, n', _, _, hcl0, hxl, hg⟩ := DataW.trod_struct Try.underlying40 ht
      obtain ⟨_, hcl, hat⟩ := World.cells?_some hc
      have hx4 : xs.length = 4 := hxl
      have g0 := hg 0 ⟨"Kind", 32, 0, false, "", "", 0⟩ rfl
      have g1 := hg 1 ⟨"X", 38, 1, false, "", "", 8⟩ rfl
      have g2 := hg 2 ⟨"Id", 3, 30, false, "", "", 224⟩ rfl
      have g3 := hg 3 ⟨"On", 3, 31, false, "", "", 232⟩ rfl
      dsimp only at g0 g1 g2 g3
      rw [List.getElem?_eq_getElem (by omega)] at g0 g1 g2 g3
      rw [show Try.prog.cellsOf 32 = 1 by kernel_rfl] at g0
      obtain ⟨n0, e0, _, w0⟩ := DataW.trod_int Try.underlying32 g0
      have c0 := take1_get e0
      obtain ⟨n2, c2⟩ := cell_int Try.underlying3 (by kernel_rfl) g2
      obtain ⟨n3, c3⟩ := cell_int Try.underlying3 (by kernel_rfl) g3
      have hok := trod_task g1
      rw [show Try.prog.cellsOf 38 = 29 by kernel_rfl] at hok
      have hmin : IntKind.u64.min = 0 := rfl
      have hn0 : 0 ≤ n0 := by simp only [Lit.wf, Bool.and_eq_true, decide_eq_true_eq] at w0; omega
      refine ⟨⟨n0.toNat, (cs'.drop 1).take 29, n2, n3⟩, hok, fun j u hj => ?_⟩
      dsimp only at hj
      rw [show ((n0.toNat : Nat) : Int) = n0 by omega] at hj
      have hl29 := hok.len
      have hj32 : j < 32 := by
        have := (List.getElem?_eq_some_iff.1 hj).1
        simp only [List.length_cons, List.length_append, hl29, List.length_nil] at this; omega
      rw [hat j hj32, ← hj]
      by_cases j0 : j = 0
      · subst j0; rw [c0]; rfl
      · obtain ⟨j', rfl⟩ : ∃ j', j = j' + 1 := ⟨j - 1, by omega⟩
        rw [List.getElem?_cons_succ]
        by_cases j1 : j' < 29
        · rw [List.getElem?_append_left (by omega), List.getElem?_take, if_pos j1, List.getElem?_drop, Nat.add_comm]
        · rw [List.getElem?_append_right (by omega), hl29]
          have : j' = 29 ∨ j' = 30 := by omega
          rcases this with rfl | rfl
          · exact c2
          · exact c3
    have one' : ∀ i, ∃ o : OpR, i < len → OkT o.x ∧ ∀ j u, (Value.int .u64 (o.kind : Int) :: (o.x ++ [Value.int .i64 o.id, .int .i64 o.on]))[j]? = some u → w.cell? ((a.add (i * 32)).add j) = some u := fun i => by
      by_cases hi : i < len
      · obtain ⟨o, h⟩ := one i hi
        exact ⟨o, fun _ => h⟩
      · exact ⟨⟨0, [], 0, 0⟩, fun h => absurd h hi⟩
    obtain ⟨F, hF⟩ := Classical.axiomOfChoice one'
    refine ⟨some a, (List.range len).map F, cap, by simpa using e', by simpa using hl, fun i o ho => ?_⟩
    have hi : i < len := by have := (List.getElem?_eq_some_iff.1 ho).1; simpa using this
    obtain rfl : F i = o := by
      rw [List.getElem?_map, List.getElem?_range hi] at ho; simpa using ho
    have hadd : ∀ (b off j : Nat), (⟨b, off, none⟩ : Addr).add j = ⟨b, off + j, none⟩ := fun b off j => by unfold Addr.add; split <;> simp_all
    have ha0 : ∀ x : Addr, x.add 0 = x := fun x => by unfold Addr.add; rw [if_pos rfl]
    have k0 : a.spot = none ∧ a.block < w.heap.size := by
      have z := (hF 0 (by omega)).2 0 _ rfl
      rw [Nat.zero_mul, ha0, ha0] at z
      exact key _ _ z
    obtain ⟨b, off, spot⟩ := a
    obtain ⟨k1, k2⟩ := k0
    simp only at k1 k2
    subst k1
    obtain ⟨hok, hcl⟩ := hF i hi
    have hl29 := hok.len
    refine ⟨hok, b, off, rfl, k2, ?_, fun j u hj => ?_, ?_, ?_⟩
    · have := hcl 0 _ rfl; rw [hadd, ha0] at this; exact this
    · have hj' : j < 29 := by have := (List.getElem?_eq_some_iff.1 hj).1; rwa [hl29] at this
      have := hcl (j + 1) u (by rw [List.getElem?_cons_succ, List.getElem?_append_left (by omega)]; exact hj)
      rw [hadd, hadd] at this
      rw [show off + i * 32 + 1 + j = off + i * 32 + (j + 1) by omega]; exact this
    · have := hcl 30 _ (by rw [List.getElem?_cons_succ, List.getElem?_append_right (by omega), hl29]; rfl); rw [hadd, hadd] at this; exact this
    · have := hcl 31 _ (by rw [List.getElem?_cons_succ, List.getElem?_append_right (by omega), hl29]; rfl); rw [hadd, hadd] at this; exact this
end Go.Proofs.Ytdlncbndhljhfaa
