/- layer 31 (codec): bytes in memory; numbers written behind them. -/
import Derived.Test.YtchhenpijbecaaaDoorCc
namespace Go.Proofs.YtchhenpijbecaaaDoor
open Go.ChangeShapes Go.WideShapes Go.ChangeAt Go.RowKit
set_option maxRecDepth 100000

/-- a row of bytes of the call's own. -/
abbrev OwB (B : Nat) (w : World) (v : Value) (l : List UInt8) : Prop := w.ownsRow B 5 1 v l.length (Lib.byteCells l)
/-- bytes that lie below a block. -/
def BysIn (B : Nat) (w : World) (A : Option Addr) (l : List UInt8) : Prop :=
  ∀ i (hi : i < l.length), ∃ b off, A = some ⟨b, off, none⟩ ∧ b < B ∧ w.cell? ⟨b, off + i, none⟩ = some (.int .u8 (l[i].toNat : Int))
theorem BysIn.below {B : Nat} {w w' : World} {A : Option Addr} {l : List UInt8} (h : BysIn B w A l) (hb : Below B w w') : BysIn B w' A l := fun i hi => by
  obtain ⟨b, off, e, hlt, hc⟩ := h i hi
  exact ⟨b, off, e, hlt, (hb.cell (p := ⟨b, off + i, none⟩) hlt).trans hc⟩
theorem BysIn.mono {B B' : Nat} {w : World} {A : Option Addr} {l : List UInt8} (h : BysIn B w A l) (hb : B ≤ B') : BysIn B' w A l := fun i hi => by
  obtain ⟨b, off, e, hlt, hc⟩ := h i hi
  exact ⟨b, off, e, by omega, hc⟩
/-- bytes behind which a byte may be written: the call's own, or such as have no room. -/
def AppB (B : Nat) (w : World) (v : Value) (l : List UInt8) : Prop := OwB B w v l ∨ ∃ A, v = .slice A l.length l.length ∧ BysIn B w A l
theorem AppB.below {B : Nat} {w w' : World} {v : Value} {l : List UInt8} (h : AppB B w v l) (hb : Below w.heap.size w w') (hB : B ≤ w.heap.size) : AppB B w' v l := by
  rcases h with h | ⟨A, e, h⟩
  · refine .inl ⟨h.1, ?_⟩
    rcases h.2 with h' | ⟨g, cap, cur, e, hg, hh, hc⟩
    · exact .inl h'
    · exact .inr ⟨g, cap, cur, e, hg, (hb.block g (h.lt g (by rw [e]; rfl)).2).trans hh, hc⟩
  · exact .inr ⟨A, e, h.below (hb.mono hB)⟩
/-- numbers in a block. -/
def NumsB (w : World) (q : Nat) (xs : List Int) : Prop := ∃ cs, Blk w q 3 cs ∧ ∀ i (hi : i < xs.length), cs[i]? = some (.int .i64 xs[i])
theorem NumsB.lt {w : World} {q : Nat} {xs : List Int} (h : NumsB w q xs) : q < w.heap.size := by
  obtain ⟨cs, h, _⟩ := h; exact Blk.lt h
theorem NumsB.but {w w' : World} {q : Nat} {xs : List Int} {X : Nat → Prop} (h : NumsB w q xs) (hb : But X w w') (hq : ¬ X q) : NumsB w' q xs := by
  obtain ⟨cs, h, hc⟩ := h; exact ⟨cs, h.but hb hq, hc⟩
theorem NumsB.cell {w : World} {q : Nat} {xs : List Int} (h : NumsB w q xs) (i : Nat) (hi : i < xs.length) : w.cell? ⟨q, i, none⟩ = some (.int .i64 xs[i]) := by
  obtain ⟨cs, h, hc⟩ := h; rw [h.cell]; exact hc i hi
theorem own_ne {B q : Nat} {w : World} {v : Value} {l : List UInt8} {xs : List Int} (h : OwB B w v l) (hN : NumsB w q xs) : v.ownBlock ≠ some q := by
  intro e
  obtain ⟨cs, hb, -⟩ := hN
  rcases h.2 with ⟨rfl, -⟩ | ⟨g, cap, cur, rfl, hg, hh, hc⟩
  · cases e
  · injection e with e
    subst e
    unfold Blk at hb
    rw [hb] at hh
    simp at hh
theorem own_mono {w : World} {B B' e k n : Nat} {v : Value} {xs : List Value} (h : w.ownsRow B e k v n xs) (hb : B' ≤ B) : w.ownsRow B' e k v n xs := by
  refine ⟨h.1, ?_⟩
  rcases h.2 with h' | ⟨g, cap, cur, e, hg, hh, hc⟩
  · exact .inl h'
  · exact .inr ⟨g, cap, cur, e, by omega, hh, hc⟩
theorem cells_app (a b : List UInt8) : Lib.byteCells a ++ Lib.byteCells b = Lib.byteCells (a ++ b) := by simp [Lib.byteCells]
theorem bcell_get {l : List UInt8} {j : Nat} {u : Value} (h : (Lib.byteCells l)[j]? = some u) : ∃ hj : j < l.length, u = .int .u8 (l[j].toNat : Int) := by
  have hj : j < l.length := by
    have := (List.getElem?_eq_some_iff.1 h).1
    simpa [Lib.byteCells] using this
  refine ⟨hj, ?_⟩
  simp [Lib.byteCells, hj] at h
  exact h.symm
/-- append of one byte, told once. -/
theorem app_b {ops : Array Oper} {rest : List Oper} {o : Oper} {a : Act} {w : World} {Q : Exit → Act → World → Prop} (hgd : o.guard = none) (s x : Operand) (ho : o.op = .call { callee := .builtin .append, args := #[s, x], argTypes := #[22, 22] })
    (B q : Nat) (v : Value) (l : List UInt8) (xs : List Int) (hs : a.eval s = v) (h : AppB B w v l) (hN : NumsB w q xs) (g cap : Nat) (c : UInt8) (z : Int) (hz : z = (c.toNat : Int)) (hx : a.eval x = .slice (some ⟨g, 0, none⟩) 1 cap) (hc : w.cell? ⟨g, 0, none⟩ = some (.int .u8 z)) (hl : l.length ≤ 1000000) (hB : B ≤ w.heap.size)
    (K : ∀ v' w', OwB B w' v' (l ++ [c]) → Below B w w' → NumsB w' q xs → wpList Tryd.prog ops Q rest (a.put o.dst v') w') : wpList Tryd.prog ops Q (o :: rest) a w := by
  obtain ⟨i0, hi0, hz0, hz1, hz2⟩ := info_parts infoByte
  have hadd : ∀ (b off j : Nat), (⟨b, off, none⟩ : Addr).add j = ⟨b, off + j, none⟩ := fun b off j => by unfold Addr.add; split <;> simp_all
  have hnew : ∀ j u, [Value.int .u8 z][j]? = some u → w.cell? ((⟨g, 0, none⟩ : Addr).add j) = some u := fun j u hu => by
    match j, hu with
    | 0, hu => simp at hu; subst hu; exact hc
  have e1 : Lib.byteCells l ++ [.int .u8 z] = Lib.byteCells (l ++ [c]) := by rw [hz]; exact cells_app l [c]
  rcases h with h | ⟨A, e, h⟩
  · refine wpList_append_own w hgd s x 22 ho B 5 i0 (.int .u8 0) 1 1 Tryd.underlying22 hi0 hz0 hz1 hz2 rfl (by decide) v l.length _ hs h ⟨g, 0, none⟩ 1 cap [.int .u8 z] hx rfl hnew (by intro u hu; simp at hu; subst hu; rfl) (by unfold maxLen; omega) (by omega) hB ?_
    intro v' w' h1 h2 _
    rw [e1] at h1
    have hbut : But (fun k => v.ownBlock = some k) w w' := (But.refl _ _).grown h2 fun k hk => .inl hk
    refine K v' w' (by unfold OwB; rw [List.length_append]; exact h1) (hbut.below hB fun k _ hk => (h.lt k hk).1) (hN.but hbut (own_ne h hN))
  · refine wpList_append_grows w hgd s x 22 ho 5 i0 (.int .u8 0) 1 1 Tryd.underlying22 hi0 hz0 hz1 hz2 rfl (by decide) A l.length l.length (Lib.byteCells l) (by rw [hs, e]) ?_ (by simp [Lib.byteCells]) ?_ ⟨g, 0, none⟩ 1 cap [.int .u8 z] hx rfl hnew (by intro u hu; simp at hu; subst hu; rfl) (by omega) (by unfold maxLen; omega) (by omega) ?_
    · intro hA
      rcases Nat.eq_zero_or_pos l.length with h0 | h0
      · exact ⟨h0, h0⟩
      · obtain ⟨b, off, e', _⟩ := h 0 h0; rw [hA] at e'; cases e'
    · intro b hb j u hu
      obtain ⟨hj, rfl⟩ := bcell_get hu
      obtain ⟨b', off, e', _, hcell⟩ := h j hj
      rw [hb] at e'; injection e' with e'; subst e'
      rw [hadd]; exact hcell
    · intro v' w' h1 h2
      rw [e1] at h1
      have hbut : But Nob w w' := (But.refl _ _).grown h2 fun k hk => by cases hk
      exact K v' w' (by unfold OwB; rw [List.length_append]; exact own_mono h1 hB) (hbut.below hB fun k _ hk => hk.elim) (hN.but hbut id)
end Go.Proofs.YtchhenpijbecaaaDoor
