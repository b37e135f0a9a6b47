/- Things to be done with bubbles, among the arguments (layer 13). -/
import Derived.Test.YtekahmfchpgmfaaSo
import Derived.Test.YtekahmfchpgmfaaBu
import Derived.Test.YtekahmfchpgmfaaFr
import Derived.ChangeSlices
import Derived.Deep.Slices
import Derived.Deep.MidRow
namespace Go.Proofs.Ytekahmfchpgmfaa
open Go.ChangeShapes Go.WideShapes Go.ChangeAt Go.RowKit
set_option maxRecDepth 100000

theorem take1_get {cs : List Value} {off : Nat} {v : Value} (h : (cs.drop off).take 1 = [v]) : cs[off]? = some v := by
  have := congrArg (fun l : List Value => l[0]?) h
  simpa [List.getElem?_take, List.getElem?_drop] using this
/-- One thing to be done with bubbles. -/
structure OpB where
  kind : Nat
  b : Int
  home : Int
  mask : Nat → Bool
def opbL (o : OpB) : List Value := .int .u64 o.kind :: .int .i64 o.b :: .int .i64 o.home :: (cellsOf o.mask).toList
theorem opbL_len (o : OpB) : (opbL o).length = 19 := by simp [opbL, cellsOf]
def OpsB (w : World) (A : Option Addr) (l : List OpB) : Prop :=
  ∀ i o, l[i]? = some o → ∃ b off, A = some ⟨b, off, none⟩ ∧ b < w.heap.size ∧ w.rangeAt b (off + i * 19) (opbL o)
theorem OpsB.below {w w' : World} {A : Option Addr} {l : List OpB} (h : OpsB w A l) (hb : Below w.heap.size w w') : OpsB w' A l := fun i o ho => by
  obtain ⟨b, off, e, hlt, h2⟩ := h i o ho
  exact ⟨b, off, e, Nat.lt_of_lt_of_le hlt hb.size, fun j u hj => (hb.cell (p := ⟨b, _, none⟩) hlt).trans (h2 j u hj)⟩
section
variable {H : Type} {enc : TypeId × Value → H} {w : World} {base fuel : Nat} {spare : Nat → Bool} {held : Bool}
theorem trod_opB {cs : List Value} {y : DataW H × List MemPlace} (h : DataW.trod enc Try.prog w base spare held fuel 68 cs = some y) : ∃ o : OpB, cs = opbL o := by
  obtain ⟨xs, n', _, _, hl, hxl, hg⟩ := DataW.trod_struct Try.underlying68 h
  rw [show Try.prog.cellsOf 68 = 19 by kernel_rfl] at hl
  have hx4 : xs.length = 4 := hxl
  have g0 := hg 0 ⟨"Kind", 43, 0, false, "", "", 0⟩ rfl
  have g1 := hg 1 ⟨"B", 3, 1, false, "", "", 8⟩ rfl
  have g2 := hg 2 ⟨"Home", 3, 2, false, "", "", 16⟩ rfl
  have g3 := hg 3 ⟨"Mask", 28, 3, false, "", "", 24⟩ rfl
  dsimp only at g0 g1 g2 g3
  rw [List.getElem?_eq_getElem (by omega)] at g0 g1 g2 g3
  rw [show Try.prog.cellsOf 43 = 1 by kernel_rfl] at g0
  rw [show Try.prog.cellsOf 3 = 1 by kernel_rfl] at g1 g2
  rw [show Try.prog.cellsOf 28 = 16 by kernel_rfl] at g3
  obtain ⟨n0, e0, _, w0⟩ := DataW.trod_int Try.underlying43 g0
  obtain ⟨n1, e1, _⟩ := DataW.trod_int Try.underlying3 g1
  obtain ⟨n2, e2, _⟩ := DataW.trod_int Try.underlying3 g2
  have c0 := take1_get e0
  have c1 := take1_get e1
  have c2 := take1_get e2
  have hn0 : 0 ≤ n0 := by
    have hmin : IntKind.u64.min = 0 := rfl
    simp only [Lit.wf, Bool.and_eq_true, decide_eq_true_eq] at w0; omega
  obtain ⟨ys, m, _, _, hyl, hys, hi⟩ := DataW.trod_array underSet g3
  have hw : ∀ i, i < 16 → ∃ n : Nat, n < 2 ^ 64 ∧ cs[3 + i]? = some (.int .u64 n) := fun i hi16 => by
    have h1 := hi i hi16
    rw [show Try.prog.cellsOf 26 = 1 by kernel_rfl, Nat.mul_one, List.getElem?_eq_getElem (by omega)] at h1
    obtain ⟨n, e1, _, e3⟩ := DataW.trod_int Try.underlying26 h1
    have hb : 0 ≤ n ∧ n ≤ 18446744073709551615 := by
      simpa [Lit.wf, IntKind.min, IntKind.max, IntKind.signed, IntKind.bits] using e3
    obtain ⟨k, rfl⟩ := Int.eq_ofNat_of_zero_le hb.1
    refine ⟨k, by omega, ?_⟩
    have := take1_get e1
    rw [List.getElem?_take, if_pos hi16, List.getElem?_drop] at this
    exact this
  refine ⟨⟨n0.toNat, n1, n2, fun n => match cs[3 + n / 64]? with | some (.int _ x) => x.toNat.testBit (n % 64) | _ => false⟩, ?_⟩
  apply List.ext_getElem?
  intro j
  unfold opbL
  dsimp only
  rw [show ((n0.toNat : Nat) : Int) = n0 by omega]
  match j with
  | 0 => exact c0
  | 1 => exact c1
  | 2 => exact c2
  | j + 3 =>
    rw [List.getElem?_cons_succ, List.getElem?_cons_succ, List.getElem?_cons_succ]
    by_cases hj : j < 16
    · obtain ⟨n, hn, e⟩ := hw j hj
      rw [show j + 3 = 3 + j by omega, e, Array.getElem?_toList, cellsOf_get _ j hj, ← word_eq hn fun k hk => ?_]
      rw [show (64 * j + k) / 64 = j by omega, e]
      simp only [Int.toNat_natCast]
      rw [show (64 * j + k) % 64 = k by omega]
    · rw [List.getElem?_eq_none (by omega), List.getElem?_eq_none (by simp [cellsOf]; omega)]
end
theorem open_slice_opsB {H : Type} {enc : TypeId × Value → H} {w : World} {base : Nat} {spare : Nat → Bool} {held : Bool} {r : Reach} {b0 : Nat} {v : Value} {d : DataW H} {ps : List MemPlace}
    (hv : Value.okWide Try.prog w r b0 22 v) (h : DataW.Trod enc Try.prog w base spare held 22 v d ps) : ∃ ad l cap, v = .slice ad l.length cap ∧ (l.length ≤ cap ∧ l.length ≤ maxLen) ∧ OpsB w ad l := by
  have hu := Try.underlying22
  have hC : Try.prog.cellsOf 68 = 19 := by kernel_rfl
  obtain ⟨fuel, hf⟩ := h
  have hagg : ∀ cs, v ≠ .agg cs := by
    rintro cs rfl
    unfold Value.okWide at hv
    rw [hu] at hv
    simp only at hv
    unfold Cell.okWide at hv
    rw [hu] at hv
    simp only at hv
    unfold Cell.ok at hv
    rw [hu] at hv
    simp at hv
  rcases Go.Deep.open_slice hu hf with ⟨e1, _⟩ | ⟨a, len, cap, m, n, D, Pl, e1, _, hl, hmx, hm, _, hcell⟩
  · have e' : v = .slice none 0 0 := by cases v <;> simp_all [Value.cells]
    exact ⟨none, [], 0, e', ⟨Nat.le_refl _, Nat.zero_le _⟩, fun i o hi => by simp at hi⟩
  · have e' : v = .slice (some a) len cap := by cases v <;> simp_all [Value.cells]
    have hlm : len ≤ m := by rw [hm]; split <;> omega
    have key : ∀ x : Addr, ∀ u, w.cell? x = some u → x.spot = none ∧ x.block < w.heap.size := by
      intro x u hx
      unfold World.cell? at hx
      by_cases hb : x.block < w.heap.size
      · refine ⟨?_, hb⟩
        cases hs : x.spot with
        | none => rfl
        | some y => rw [hs] at hx; split at hx <;> simp at hx
      · rw [Array.getElem?_eq_none (by omega)] at hx; cases hx
    have one' : ∀ i, ∃ o : OpB, i < len → ∀ j u, (opbL o)[j]? = some u → w.cell? ((a.add (i * 19)).add j) = some u := fun i => by
      by_cases hi : i < len
      · obtain ⟨cs', hc, ht⟩ := hcell i (by omega)
        rw [hC] at hc
        obtain ⟨o, rfl⟩ := trod_opB ht
        obtain ⟨_, hcl, hat⟩ := World.cells?_some hc
        refine ⟨o, fun _ j u hj => ?_⟩
        have hj19 : j < 19 := by have := (List.getElem?_eq_some_iff.1 hj).1; rwa [opbL_len] at this
        rw [hat j hj19, ← hj]
      · exact ⟨⟨0, 0, 0, fun _ => false⟩, fun h => absurd h hi⟩
    obtain ⟨F, hF⟩ := Classical.axiomOfChoice one'
    refine ⟨some a, (List.range len).map F, cap, by simpa using e', ⟨by simpa using hl, by rw [List.length_map, List.length_range]; exact Nat.le_trans hl hmx⟩, fun i o ho => ?_⟩
    have hi : i < len := by have := (List.getElem?_eq_some_iff.1 ho).1; simpa using this
    obtain rfl : F i = o := by
      rw [List.getElem?_map, List.getElem?_range hi] at ho; simpa using ho
    have hadd : ∀ (b off j : Nat), (⟨b, off, none⟩ : Addr).add j = ⟨b, off + j, none⟩ := fun b off j => by unfold Addr.add; split <;> simp_all
    have ha0 : ∀ x : Addr, x.add 0 = x := fun x => by unfold Addr.add; rw [if_pos rfl]
    have k0 : a.spot = none ∧ a.block < w.heap.size := by
      have z := hF 0 (by omega) 0 _ rfl
      rw [Nat.zero_mul, ha0, ha0] at z
      exact key _ _ z
    obtain ⟨b, off, spot⟩ := a
    obtain ⟨k1, k2⟩ := k0
    simp only at k1 k2
    subst k1
    refine ⟨b, off, rfl, k2, fun j u hj => ?_⟩
    have := hF i hi j u hj
    rw [hadd, hadd] at this
    exact this
end Go.Proofs.Ytekahmfchpgmfaa
