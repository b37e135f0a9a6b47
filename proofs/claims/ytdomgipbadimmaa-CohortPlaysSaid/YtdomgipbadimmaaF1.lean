/- The code's locks and the document's, side by side (layer 14). -/
import Derived.Test.YtdomgipbadimmaaF0
import Derived.Test.YtdomgipbadimmaaC7
namespace Go.Proofs.Ytdomgipbadimmaa
open Go.RowKit
set_option maxRecDepth 100000

/-- Blocks that may be the code's. -/
def CodeB (w0 : World) (D : Nat → Prop) (xb : Nat) (x : Nat) : Prop := w0.heap.size ≤ x ∧ x ≠ xb ∧ ¬ D x
/-- The document's locks. -/
structure DocM (D : Nat → Prop) (xb k : Nat) (cs : List Coh) (W : World) : Prop where
  blk : ∃ cells : Array Value, Blk W xb 93 cells ∧ cells.size = cs.length * 6 ∧ ∀ (i : Nat) (c : Coh), cs[i]? = some c → ∃ E wv rv, (∀ j, j < 6 → cells[i * 6 + j]? = (dcells c wv rv)[j]?) ∧ DLk D c E wv rv W ∧ RelC c E ∧ E.length ≤ k ∧ CohB c k
  ne : ∀ x, D x → x ≠ xb
section
variable {D D' X : Nat → Prop} {xb k i : Nat} {cs : List Coh} {W W' w0 : World} {c c' : Coh}
theorem DocM.but (h : DocM D xb k cs W) (hb : But X W W') (hX : ∀ x, D x ∨ x = xb → ¬ X x) : DocM D xb k cs W' := by
  obtain ⟨cells, a, b, d⟩ := h.blk
  refine ⟨⟨cells, a.but hb (hX _ (.inr rfl)), b, fun i c hc => ?_⟩, h.ne⟩
  obtain ⟨E, wv, rv, e, f, g⟩ := d i c hc
  exact ⟨E, wv, rv, e, f.but hb fun x q => hX x (.inl q), g⟩
theorem DocM.below (h : DocM D xb k cs W) (hb : Below W.heap.size W W') : DocM D xb k cs W' := h.but (X := Nob) (But.of_below hb) fun _ _ q => q
theorem DocM.up (h : DocM D xb k cs W) : DocM D xb (k + 1) cs W := by
  obtain ⟨cells, a, b, d⟩ := h.blk
  refine ⟨⟨cells, a, b, fun i c hc => ?_⟩, h.ne⟩
  obtain ⟨E, wv, rv, e, f, g, q, r⟩ := d i c hc
  exact ⟨E, wv, rv, e, f, g, Nat.le_succ_of_le q, ⟨by have := r.pas; omega, Nat.le_succ_of_le r.rnd, fun x hx => Nat.le_succ_of_le (r.row x hx)⟩⟩
/-- One of them in memory. -/
theorem DocM.at (h : DocM D xb k cs W) (hc : cs[i]? = some c) : ∃ E wv rv, DLk D c E wv rv W ∧ RelC c E ∧ E.length ≤ k ∧ CohB c k ∧ W.cell? ⟨xb, i * 6, none⟩ = some (.bool (heldD c)) ∧ W.cell? ⟨xb, i * 6 + 1, none⟩ = some (.int .i64 (ownD c)) ∧ W.cell? ⟨xb, i * 6 + 2, none⟩ = some (.int .i64 c.soc) ∧ W.cell? ⟨xb, i * 6 + 3, none⟩ = some (.int .i64 c.pas) ∧ W.cell? ⟨xb, i * 6 + 4, none⟩ = some wv ∧ W.cell? ⟨xb, i * 6 + 5, none⟩ = some rv := by
  obtain ⟨cells, a, b, d⟩ := h.blk
  obtain ⟨E, wv, rv, e, f, g, q, r⟩ := d i c hc
  refine ⟨E, wv, rv, f, g, q, r, ?_, ?_, ?_, ?_, ?_, ?_⟩
  · have := e 0 (by omega); rw [a.cell]; exact this
  · have := e 1 (by omega); rw [a.cell]; exact this
  · have := e 2 (by omega); rw [a.cell]; exact this
  · have := e 3 (by omega); rw [a.cell]; exact this
  · have := e 4 (by omega); rw [a.cell]; exact this
  · have := e 5 (by omega); rw [a.cell]; exact this
theorem DocM.free (h : DocM D xb k cs W) (j : Nat) : W.frozen? ⟨xb, j, none⟩ = false := by
  obtain ⟨cells, a, _, _⟩ := h.blk
  exact a.free j
theorem DocM.lt (h : DocM D xb k cs W) : xb < W.heap.size := by
  obtain ⟨cells, a, _, _⟩ := h.blk
  exact a.lt
/-- One of them stored anew. -/
def put6 (w : World) (g o : Nat) (y0 y1 y2 y3 y4 y5 : Value) : World := (((((w.setCell ⟨g, o, none⟩ y0).setCell ⟨g, o + 1, none⟩ y1).setCell ⟨g, o + 2, none⟩ y2).setCell ⟨g, o + 3, none⟩ y3).setCell ⟨g, o + 4, none⟩ y4).setCell ⟨g, o + 5, none⟩ y5
theorem put6_but (w : World) (g o : Nat) (y0 y1 y2 y3 y4 y5 : Value) : But (fun x => x = g) w (put6 w g o y0 y1 y2 y3 y4 y5) :=
  ((((((But.refl (fun x => x = g) w).set ⟨g, o, none⟩ _ (.inl rfl)).set ⟨g, o + 1, none⟩ _ (.inl rfl)).set ⟨g, o + 2, none⟩ _ (.inl rfl)).set ⟨g, o + 3, none⟩ _ (.inl rfl)).set ⟨g, o + 4, none⟩ _ (.inl rfl)).set ⟨g, o + 5, none⟩ _ (.inl rfl)
theorem put6_blk {w : World} {g o : Nat} {t : TypeId} {cells : Array Value} (h : Blk w g t cells) (y0 y1 y2 y3 y4 y5 : Value) :
    Blk (put6 w g o y0 y1 y2 y3 y4 y5) g t ((((((cells.setIfInBounds o y0).setIfInBounds (o + 1) y1).setIfInBounds (o + 2) y2).setIfInBounds (o + 3) y3).setIfInBounds (o + 4) y4).setIfInBounds (o + 5) y5) :=
  (((((h.set_ o y0).set_ (o + 1) y1).set_ (o + 2) y2).set_ (o + 3) y3).set_ (o + 4) y4).set_ (o + 5) y5
theorem DocM.put (h : DocM D xb k cs W) (hi : i < cs.length) (hD : ∀ x, D x → D' x) (hne : ∀ x, D' x → x ≠ xb) {E : List Ent} {wv rv : Value} (hd : DLk D' c' E wv rv W) (hr : RelC c' E) (hk : E.length ≤ k) (hk2 : CohB c' k) :
    DocM D' xb k (cs.set i c') (put6 W xb (i * 6) (.bool (heldD c')) (.int .i64 (ownD c')) (.int .i64 c'.soc) (.int .i64 c'.pas) wv rv) := by
  obtain ⟨cells, a, b, d⟩ := h.blk
  have hu := put6_but W xb (i * 6) (.bool (heldD c')) (.int .i64 (ownD c')) (.int .i64 c'.soc) (.int .i64 c'.pas) wv rv
  refine ⟨⟨_, put6_blk a _ _ _ _ _ _, by simpa using b, fun p q hq => ?_⟩, hne⟩
  rw [List.getElem?_set] at hq
  by_cases e : i = p
  · subst e
    rw [if_pos rfl, if_pos hi] at hq
    cases hq
    refine ⟨E, wv, rv, fun j hj => ?_, hd.but hu fun x hx => hne x hx, hr, hk, hk2⟩
    have hsz : i * 6 + 5 < cells.size := by omega
    match j, hj with
    | 0, _ => simp [Array.getElem?_setIfInBounds, dcells]; omega
    | 1, _ => simp [Array.getElem?_setIfInBounds, dcells]; omega
    | 2, _ => simp [Array.getElem?_setIfInBounds, dcells]; omega
    | 3, _ => simp [Array.getElem?_setIfInBounds, dcells]; omega
    | 4, _ => simp [Array.getElem?_setIfInBounds, dcells]; omega
    | 5, _ => simp [Array.getElem?_setIfInBounds, dcells]; omega
  · rw [if_neg e] at hq
    obtain ⟨E2, wv2, rv2, f, g, r⟩ := d p q hq
    refine ⟨E2, wv2, rv2, fun j hj => ?_, (g.mono fun x _ q => hD x q).but hu fun x hx => hne x hx, r⟩
    rw [← f j hj]
    simp only [Array.getElem?_setIfInBounds, Array.size_setIfInBounds]
    rw [if_neg (by omega), if_neg (by omega), if_neg (by omega), if_neg (by omega), if_neg (by omega), if_neg (by omega)]
end
/-- Both, apart from what was there at the start. -/
structure Two14 (w0 : World) (pb lb xb k : Nat) (ks : List Coh) (W : World) : Prop where
  ex : ∃ D lab, CohL (CodeB w0 D xb) pb lb lab ks W ∧ DocM D xb k ks W ∧ (∀ x, D x → x < W.heap.size)
  xlow : w0.heap.size ≤ xb
  low : Below w0.heap.size w0 W
theorem Two14.nob {w0 W W' : World} {pb lb xb k : Nat} {ks : List Coh} (h : Two14 w0 pb lb xb k ks W) (hb : But Nob W W') : Two14 w0 pb lb xb k ks W' := by
  obtain ⟨D, lab, a, b, d⟩ := h.ex
  exact ⟨⟨D, lab, a.nob hb, b.but hb fun _ _ q => q, fun x hx => Nat.lt_of_lt_of_le (d x hx) hb.size⟩, h.xlow, h.low.trans (hb.below (B := w0.heap.size) h.low.size fun _ _ q => q.elim)⟩

section
variable {B : Nat → Prop} {pb lb : Nat} {lab : Nat → LabC} {ks : List Coh} {w : World}
theorem ownerL_out (h : CohL B pb lb lab ks w) (i : Int) (hi : ¬ (0 ≤ i ∧ i < ks.length)) : Calls Try.prog 18 #[.pointer (some ⟨pb, 0, none⟩), .int .i64 i] w fun e w' => e = .returned (.tuple #[.int .i64 0, .bool false]) ∧ w = w' := by
  have P := Lib.hid (has_any h i)
  rw [show decide ((0 : Int) ≤ i ∧ i < (ks.length : Int)) = false by simpa using hi] at P
  clear h hi
  go_enter Try.func18, Try.ntmps18
  go_wp2_with (go_at_call 43; (with_reducible refine P.out.mono ?_); rintro e w2 ⟨rfl, rfl⟩)
  go_ret2
  exact ⟨rfl, rfl⟩
theorem takeL_out (h : CohL B pb lb lab ks w) (i t s : Int) (hi : ¬ (0 ≤ i ∧ i < ks.length)) : Calls Try.prog 17 #[.pointer (some ⟨pb, 0, none⟩), .int .i64 i, .int .i64 t, .int .i64 s] w fun e w' => e = .returned (.tuple #[.bool false, .int .i64 3]) ∧ w = w' := by
  have P := Lib.hid (has_any h i)
  rw [show decide ((0 : Int) ≤ i ∧ i < (ks.length : Int)) = false by simpa using hi] at P
  clear h hi
  go_enter Try.func17, Try.ntmps17
  go_wp2_with (go_at_call 43; (with_reducible refine P.out.mono ?_); rintro e w2 ⟨rfl, rfl⟩)
  go_ret2
  exact ⟨rfl, rfl⟩
theorem giveL_out (h : CohL B pb lb lab ks w) (i t : Int) (hi : ¬ (0 ≤ i ∧ i < ks.length)) : Calls Try.prog 21 #[.pointer (some ⟨pb, 0, none⟩), .int .i64 i, .int .i64 t] w fun e w' => e = .returned (.tuple #[.int .i64 0, .bool false, .int .i64 3]) ∧ w = w' := by
  have P := Lib.hid (has_any h i)
  rw [show decide ((0 : Int) ≤ i ∧ i < (ks.length : Int)) = false by simpa using hi] at P
  clear h hi
  go_enter Try.func21, Try.ntmps21
  go_wp2_with (go_at_call 43; (with_reducible refine P.out.mono ?_); rintro e w2 ⟨rfl, rfl⟩)
  go_ret3
  exact ⟨rfl, rfl⟩
end
end Go.Proofs.Ytdomgipbadimmaa
