/- Rows of links as they lie in memory; isList, isNode, own, In, Len, behind, First, Next. -/
import Derived.Test.YtdlncbndhljhfaaBu
import Derived.Test.YtdlncbndhljhfaaCm
namespace Go.Proofs.Ytdlncbndhljhfaa
open Go.RowKit

/-- The links' cells. -/
structure LkV (g nl : Nat) (R Ah Be : Nat → Int) (w : World) : Prop where
  row : ∃ S : Array Value, nl * 3 ≤ S.size ∧ Blk w g 117 S ∧ ∀ i, i < nl → S[i * 3]? = some (.int .i64 (R i)) ∧ S[i * 3 + 1]? = some (.int .i64 (Ah i)) ∧ S[i * 3 + 2]? = some (.int .i64 (Be i))
/-- Rows of links: the struct's block, the links', the lengths'. -/
structure ChV (b gl gn cl cn n m : Nat) (R Ah Be L : Nat → Int) (w : World) : Prop where
  hn : n ≤ 4096
  hm : m ≤ 4096
  hcl : n + m ≤ cl
  hcn : m ≤ cn
  ne1 : gl ≠ b
  ne2 : gn ≠ b
  ne3 : gl ≠ gn
  own : Blk w b 119 #[.slice (some ⟨gl, 0, none⟩) (n + m) cl, .int .i64 n, .slice (some ⟨gn, 0, none⟩) m cn]
  lks : LkV gl (n + m) R Ah Be w
  lens : ∃ S : Array Value, m ≤ S.size ∧ Blk w gn 3 S ∧ ∀ k, k < m → S[k]? = some (.int .i64 (L k))
section
variable {b gl gn cl cn n m : Nat} {R Ah Be L : Nat → Int} {w w' : World}
theorem LkV.but {X : Nat → Prop} {g nl : Nat} (h : LkV g nl R Ah Be w) (hb : But X w w') (hx : ¬ X g) : LkV g nl R Ah Be w' := let ⟨S, a, c, d⟩ := h.row; ⟨S, a, c.but hb hx, d⟩
theorem LkV.cell {g nl i : Nat} (h : LkV g nl R Ah Be w) (hi : i < nl) : w.cell? ⟨g, i * 3, none⟩ = some (.int .i64 (R i)) ∧ w.cell? ⟨g, i * 3 + 1, none⟩ = some (.int .i64 (Ah i)) ∧ w.cell? ⟨g, i * 3 + 2, none⟩ = some (.int .i64 (Be i)) := by
  obtain ⟨S, _, c, d⟩ := h.row
  obtain ⟨d0, d1, d2⟩ := d i hi
  exact ⟨(c.cell _).trans d0, (c.cell _).trans d1, (c.cell _).trans d2⟩
theorem LkV.free {g nl : Nat} (h : LkV g nl R Ah Be w) (o : Nat) : w.frozen? ⟨g, o, none⟩ = false := let ⟨_, _, c, _⟩ := h.row; c.free o
theorem LkV.setA {g nl i : Nat} (h : LkV g nl R Ah Be w) (hi : i < nl) (x : Int) : LkV g nl R (updI Ah i x) Be (w.setCell ⟨g, i * 3 + 1, none⟩ (.int .i64 x)) := by
  obtain ⟨S, a, c, d⟩ := h.row
  refine ⟨S.setIfInBounds (i * 3 + 1) (.int .i64 x), by simpa using a, c.set_ _ _, fun j hj => ?_⟩
  obtain ⟨d0, d1, d2⟩ := d j hj
  refine ⟨?_, ?_, ?_⟩
  · rw [Array.getElem?_setIfInBounds, if_neg (by omega)]; exact d0
  · rw [Array.getElem?_setIfInBounds]
    by_cases e : j = i
    · subst e; rw [if_pos rfl, if_pos (by omega), updI_same]
    · rw [if_neg (by omega), updI_other _ _ e]; exact d1
  · rw [Array.getElem?_setIfInBounds, if_neg (by omega)]; exact d2
theorem LkV.setB {g nl i : Nat} (h : LkV g nl R Ah Be w) (hi : i < nl) (x : Int) : LkV g nl R Ah (updI Be i x) (w.setCell ⟨g, i * 3 + 2, none⟩ (.int .i64 x)) := by
  obtain ⟨S, a, c, d⟩ := h.row
  refine ⟨S.setIfInBounds (i * 3 + 2) (.int .i64 x), by simpa using a, c.set_ _ _, fun j hj => ?_⟩
  obtain ⟨d0, d1, d2⟩ := d j hj
  refine ⟨?_, ?_, ?_⟩
  · rw [Array.getElem?_setIfInBounds, if_neg (by omega)]; exact d0
  · rw [Array.getElem?_setIfInBounds, if_neg (by omega)]; exact d1
  · rw [Array.getElem?_setIfInBounds]
    by_cases e : j = i
    · subst e; rw [if_pos rfl, if_pos (by omega), updI_same]
    · rw [if_neg (by omega), updI_other _ _ e]; exact d2
theorem LkV.setR {g nl i : Nat} (h : LkV g nl R Ah Be w) (hi : i < nl) (x : Int) : LkV g nl (updI R i x) Ah Be (w.setCell ⟨g, i * 3, none⟩ (.int .i64 x)) := by
  obtain ⟨S, a, c, d⟩ := h.row
  refine ⟨S.setIfInBounds (i * 3) (.int .i64 x), by simpa using a, c.set_ _ _, fun j hj => ?_⟩
  obtain ⟨d0, d1, d2⟩ := d j hj
  refine ⟨?_, ?_, ?_⟩
  · rw [Array.getElem?_setIfInBounds]
    by_cases e : j = i
    · subst e; rw [if_pos rfl, if_pos (by omega), updI_same]
    · rw [if_neg (by omega), updI_other _ _ e]; exact d0
  · rw [Array.getElem?_setIfInBounds, if_neg (by omega)]; exact d1
  · rw [Array.getElem?_setIfInBounds, if_neg (by omega)]; exact d2
/-- The blocks of rows of links. -/
def Own3 (b gl gn : Nat) : Nat → Prop := fun k => k = b ∨ k = gl ∨ k = gn
theorem ChV.but {X : Nat → Prop} (h : ChV b gl gn cl cn n m R Ah Be L w) (hb : But X w w') (hX : ∀ k, Own3 b gl gn k → ¬ X k) : ChV b gl gn cl cn n m R Ah Be L w' :=
  ⟨h.hn, h.hm, h.hcl, h.hcn, h.ne1, h.ne2, h.ne3, h.own.but hb (hX _ (.inl rfl)), h.lks.but hb (hX _ (.inr (.inl rfl))), let ⟨S, a, c, d⟩ := h.lens; ⟨S, a, c.but hb (hX _ (.inr (.inr rfl))), d⟩⟩
theorem ChV.links {p : Nat} {v : Value} {R' Ah' Be' : Nat → Int} (h : ChV b gl gn cl cn n m R Ah Be L w) (hl : LkV gl (n + m) R' Ah' Be' (w.setCell ⟨gl, p, none⟩ v)) : ChV b gl gn cl cn n m R' Ah' Be' L (w.setCell ⟨gl, p, none⟩ v) :=
  ⟨h.hn, h.hm, h.hcl, h.hcn, h.ne1, h.ne2, h.ne3, h.own.far (Ne.symm h.ne1) _, hl, let ⟨S, a, c, d⟩ := h.lens; ⟨S, a, c.far (Ne.symm h.ne3) _, d⟩⟩
theorem ChV.setL (h : ChV b gl gn cl cn n m R Ah Be L w) {k : Nat} (hk : k < m) (x : Int) : ChV b gl gn cl cn n m R Ah Be (updI L k x) (w.setCell ⟨gn, k, none⟩ (.int .i64 x)) := by
  refine ⟨h.hn, h.hm, h.hcl, h.hcn, h.ne1, h.ne2, h.ne3, h.own.far (Ne.symm h.ne2) _, h.lks.but (X := fun q => q = gn) ((But.refl _ _).set _ _ (.inl rfl)) h.ne3, ?_⟩
  obtain ⟨S, a, c, d⟩ := h.lens
  refine ⟨S.setIfInBounds k (.int .i64 x), by simpa using a, c.set_ _ _, fun j hj => ?_⟩
  rw [Array.getElem?_setIfInBounds]
  by_cases e : j = k
  · subst e; rw [if_pos rfl, if_pos (by omega), updI_same]
  · rw [if_neg (Ne.symm e), updI_other _ _ e]; exact d j hj
theorem ChV.cells (h : ChV b gl gn cl cn n m R Ah Be L w) : w.cell? ⟨b, 0, none⟩ = some (.slice (some ⟨gl, 0, none⟩) (n + m) cl) ∧ w.cell? ⟨b, 1, none⟩ = some (.int .i64 n) ∧ w.cell? ⟨b, 2, none⟩ = some (.slice (some ⟨gn, 0, none⟩) m cn) :=
  ⟨h.own.cell 0, h.own.cell 1, h.own.cell 2⟩
theorem ChV.len (h : ChV b gl gn cl cn n m R Ah Be L w) {k : Nat} (hk : k < m) : w.cell? ⟨gn, k, none⟩ = some (.int .i64 (L k)) ∧ w.frozen? ⟨gn, k, none⟩ = false := by
  obtain ⟨S, _, c, d⟩ := h.lens
  exact ⟨(c.cell _).trans (d k hk), c.free k⟩
theorem ChV.lt (h : ChV b gl gn cl cn n m R Ah Be L w) {k : Nat} (hk : Own3 b gl gn k) : k < w.heap.size := by
  rcases hk with rfl | rfl | rfl
  · exact h.own.lt
  · obtain ⟨S, _, c, _⟩ := h.lks.row; exact c.lt
  · obtain ⟨S, _, c, _⟩ := h.lens; exact c.lt
end
def inB (k : Int) (m : Nat) : Bool := decide (0 ≤ k) && decide (k < m)
theorem inB_yes {k m : Nat} (h : k < m) : inB k m = true := by simp [inB]; omega
theorem inB_no {k : Int} {m : Nat} (h : k < 0 ∨ (m : Int) ≤ k) : inB k m = false := by simp [inB]; omega
section
variable {b gl gn cl cn n m : Nat} {R Ah Be L : Nat → Int} {w : World}
set_option maxHeartbeats 1000000 in
theorem isList_any (k : Int) (h : ChV b gl gn cl cn n m R Ah Be L w) : Calls Try.prog 79 #[.pointer (some ⟨b, 0, none⟩), .int .i64 k] w fun e w' => e = .returned (.bool (inB k m)) ∧ w = w' := by
  obtain ⟨c0, c1, c2⟩ := h.cells
  clear h
  by_cases h0 : k < 0
  · rw [inB_no (.inl h0)]
    have t : ¬ 0 ≤ k := by omega
    go_enter Try.func79, Try.ntmps79
    go_wp2
    go_ret
    exact ⟨rfl, rfl⟩
  · by_cases h1 : (m : Int) ≤ k
    · rw [inB_no (.inr h1)]
      have t : 0 ≤ k := by omega
      have t2 : ¬ k < (m : Int) := by omega
      have t3 : decide (k < (m : Int)) = false := by simp; omega
      go_enter Try.func79, Try.ntmps79
      go_wp2
      go_ret
      exact ⟨rfl, rfl⟩
    · obtain ⟨j, rfl⟩ : ∃ j : Nat, k = j := ⟨k.toNat, by omega⟩
      rw [inB_yes (by omega)]
      have t : (0 : Int) ≤ (j : Int) := by omega
      have t2 : decide (j < m) = true := by simp; omega
      go_enter Try.func79, Try.ntmps79
      go_wp2
      go_ret
      exact ⟨rfl, rfl⟩
set_option maxHeartbeats 1000000 in
theorem isNode_any (k : Int) (h : ChV b gl gn cl cn n m R Ah Be L w) : Calls Try.prog 80 #[.pointer (some ⟨b, 0, none⟩), .int .i64 k] w fun e w' => e = .returned (.bool (inB k n)) ∧ w = w' := by
  obtain ⟨c0, c1, c2⟩ := h.cells
  clear h
  by_cases h0 : k < 0
  · rw [inB_no (.inl h0)]
    have t : ¬ 0 ≤ k := by omega
    go_enter Try.func80, Try.ntmps80
    go_wp2
    go_ret
    exact ⟨rfl, rfl⟩
  · by_cases h1 : (n : Int) ≤ k
    · rw [inB_no (.inr h1)]
      have t : 0 ≤ k := by omega
      have t2 : ¬ k < (n : Int) := by omega
      have t3 : decide (k < (n : Int)) = false := by simp; omega
      go_enter Try.func80, Try.ntmps80
      go_wp2
      go_ret
      exact ⟨rfl, rfl⟩
    · obtain ⟨j, rfl⟩ : ∃ j : Nat, k = j := ⟨k.toNat, by omega⟩
      rw [inB_yes (by omega)]
      have t : (0 : Int) ≤ (j : Int) := by omega
      have t2 : decide (j < n) = true := by simp; omega
      go_enter Try.func80, Try.ntmps80
      go_wp2
      go_ret
      exact ⟨rfl, rfl⟩
theorem isList_nil (k : Int) : Calls Try.prog 79 #[.pointer none, .int .i64 k] w fun e w' => e = .returned (.bool false) ∧ w = w' := by
  go_enter Try.func79, Try.ntmps79
  go_wp2
  go_ret
  exact ⟨rfl, rfl⟩
theorem isNode_nil (k : Int) : Calls Try.prog 80 #[.pointer none, .int .i64 k] w fun e w' => e = .returned (.bool false) ∧ w = w' := by
  go_enter Try.func80, Try.ntmps80
  go_wp2
  go_ret
  exact ⟨rfl, rfl⟩
theorem own_at (k : Nat) (hk : k ≤ 4096) (hn : n ≤ 4096) (c1 : w.cell? ⟨b, 1, none⟩ = some (.int .i64 n)) : Calls Try.prog 78 #[.pointer (some ⟨b, 0, none⟩), .int .i64 k] w fun e w' => e = .returned (.int .i64 ((n + k : Nat) : Int)) ∧ w = w' := by
  have hs : IntKind.i64.wrap ((n : Int) + k) = (n : Int) + k := IntWalk.i64_in _ (by omega)
  go_enter Try.func78, Try.ntmps78
  go_wp2
  go_ret
  exact ⟨by rw [show ((n + k : Nat) : Int) = (n : Int) + k by omega]; rfl, rfl⟩
end
end Go.Proofs.Ytdlncbndhljhfaa
