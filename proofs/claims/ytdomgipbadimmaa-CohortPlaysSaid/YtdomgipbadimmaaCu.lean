/- A row of numbers of a call's own whose front may be cut off. -/
import Derived.Test.YtdomgipbadimmaaRu
import Derived.Laws.OwnMore
import Derived.ArgAppend
namespace Go.Proofs.Ytdomgipbadimmaa
open Go.RowKit

def numC (l : List Int) : List Value := l.map (Value.int .i64)
/-- Where a slice lies. -/
def RowB (v : Value) (k : Nat) : Prop := ∃ off len cap, v = .slice (some ⟨k, off, none⟩) len cap
/-- A row of the call's own, from block B on, whose front may have been cut off. -/
def CutR (B : Nat) (v : Value) (L : List Int) (w : World) : Prop :=
  (v = .slice none 0 0 ∧ L = []) ∨ ∃ (b off cap : Nat) (cs : Array Value), v = .slice (some ⟨b, off, none⟩) L.length cap ∧ L.length ≤ cap ∧ B ≤ b ∧ Blk w b 3 cs ∧ off + cap ≤ cs.size ∧ ∀ i x, L[i]? = some x → cs[off + i]? = some (.int .i64 x)
theorem cutR_nil (B : Nat) (w : World) : CutR B (.slice none 0 0) [] w := .inl ⟨rfl, rfl⟩
theorem CutR.but {B : Nat} {v : Value} {L : List Int} {w w' : World} {X : Nat → Prop} (h : CutR B v L w) (hb : But X w w') (hX : ∀ k, RowB v k → ¬ X k) : CutR B v L w' := by
  rcases h with h | ⟨b, off, cap, cs, rfl, hl, hB, hk, hs, hc⟩
  · exact .inl h
  · exact .inr ⟨b, off, cap, cs, rfl, hl, hB, hk.but hb (hX b ⟨_, _, _, rfl⟩), hs, hc⟩
theorem CutR.lt {B : Nat} {v : Value} {L : List Int} {w : World} (h : CutR B v L w) {k : Nat} (hk : RowB v k) : B ≤ k ∧ k < w.heap.size := by
  rcases h with ⟨rfl, _⟩ | ⟨b, off, cap, cs, rfl, hl, hB, hb, hs, hc⟩
  · obtain ⟨_, _, _, e⟩ := hk; cases e
  · obtain ⟨_, _, _, e⟩ := hk; cases e; exact ⟨hB, hb.lt⟩
/-- It is a slice; its first cell; its end. -/
theorem CutR.slice {B : Nat} {v : Value} {L : List Int} {w : World} (h : CutR B v L w) : ∃ A cap, v = .slice A L.length cap ∧ L.length ≤ cap := by
  rcases h with ⟨rfl, rfl⟩ | ⟨b, off, cap, cs, rfl, hl, hB, hb, hs, hc⟩
  · exact ⟨none, 0, rfl, Nat.le_refl _⟩
  · exact ⟨_, cap, rfl, hl⟩
theorem CutR.cons {B : Nat} {v : Value} {x : Int} {L : List Int} {w : World} (h : CutR B v (x :: L) w) :
    ∃ (b off cap : Nat), v = .slice (some ⟨b, off, none⟩) (L.length + 1) (cap + 1) ∧ L.length ≤ cap ∧ w.cell? ⟨b, off, none⟩ = some (.int .i64 x) ∧ CutR B (.slice (some ⟨b, off + 1, none⟩) L.length cap) L w ∧ RowB v b := by
  rcases h with ⟨_, h⟩ | ⟨b, off, cap, cs, rfl, hl, hB, hb, hs, hc⟩
  · cases h
  · simp only [List.length_cons] at hl ⊢
    obtain ⟨c, rfl⟩ : ∃ c, cap = c + 1 := ⟨cap - 1, by omega⟩
    refine ⟨b, off, c, rfl, by omega, ?_, .inr ⟨b, off + 1, c, cs, rfl, by omega, hB, hb, by omega, fun i y hy => ?_⟩, ⟨_, _, _, rfl⟩⟩
    · rw [hb.cell]; exact hc 0 x rfl
    · have := hc (i + 1) y (by rw [List.getElem?_cons_succ]; exact hy)
      rw [show off + 1 + i = off + (i + 1) by omega]; exact this
theorem CutR.empty {B : Nat} {v : Value} {x : Int} {w : World} (h : CutR B v [x] w) {b off len cap : Nat} (e : v = .slice (some ⟨b, off, none⟩) len cap) : CutR B (.slice (some ⟨b, off, none⟩) 0 0) [] w := by
  rcases h with ⟨_, h⟩ | ⟨b', off', cap', cs, e', hl, hB, hb, hs, hc⟩
  · cases h
  · rw [e] at e'; cases e'
    exact .inr ⟨b, off, 0, cs, rfl, Nat.le_refl _, hB, hb, by omega, fun i y hy => by simp at hy⟩
theorem own_cut {B H : Nat} {v : Value} {L : List Int} {w : World} (hB : B ≤ H) (h : w.ownsRow H 3 1 v L.length (numC L)) (hpos : 0 < L.length) : CutR B v L w ∧ ∀ k, RowB v k → H ≤ k := by
  rcases h.2 with ⟨_, h0⟩ | ⟨g, cap, cur, rfl, hg, hh, hnc, _, hsz, htk⟩
  · simp at h0; rw [h0] at hpos; simp at hpos
  · refine ⟨.inr ⟨g, 0, cap, cur, rfl, hnc, by omega, hh, by omega, fun i x hx => ?_⟩, fun k ⟨_, _, _, e⟩ => by cases e; exact hg⟩
    have hlt := (List.getElem?_eq_some_iff.1 hx).1
    have := h.cellAt i (by simpa using hlt)
    rw [cell_of_row w g i cur 3 (0, 0) hh] at this
    rw [Nat.zero_add, this]
    simp [numC, hx]
set_option maxHeartbeats 1000000 in
theorem app_cut {ops : Array Oper} {rest : List Oper} {o : Oper} {a : Act} {W : World} {Q : Exit → Act → World → Prop} (hgd : o.guard = none) (s x : Operand) (ho : o.op = .call { callee := .builtin .append, args := #[s, x], argTypes := #[55, 55] })
    (B : Nat) (v : Value) (L : List Int) (hs : a.eval s = v) (hown : CutR B v L W) (g1 : Nat) (y : Int) (hx : a.eval x = .slice (some ⟨g1, 0, none⟩) 1 1) (hb : W.cell? ⟨g1, 0, none⟩ = some (.int .i64 y)) (hl : L.length ≤ 10000) (hB : B ≤ W.heap.size)
    (h : ∀ v' w', CutR B v' (L ++ [y]) w' → But (RowB v) W w' → (∀ k, RowB v' k → RowB v k ∨ W.heap.size ≤ k) → wpList Try.prog ops Q rest (a.put o.dst v') w') : wpList Try.prog ops Q (o :: rest) a W := by
  obtain ⟨i0, hi0, hz0, hz1, hz2⟩ := info_parts infoInt
  have hnew : ∀ j u, (numC [y])[j]? = some u → W.cell? ((⟨g1, 0, none⟩ : Addr).add j) = some u := by
    intro j u hu
    match j, hu with
    | 0, hu =>
      have hadd : (⟨g1, 0, none⟩ : Addr).add 0 = ⟨g1, 0, none⟩ := by unfold Addr.add; split <;> simp_all
      rw [hadd, hb]; simpa [numC] using hu
    | j + 1, hu => simp [numC] at hu
  have h1c : ∀ u ∈ numC [y], u.oneCell' = true := by intro u hu; simp [numC] at hu; rcases hu with rfl; rfl
  have grow : ∀ v' w', w'.ownsRow W.heap.size 3 1 v' (L.length + 1) (numC L ++ numC [y]) → W.grownBy w' none → wpList Try.prog ops Q rest (a.put o.dst v') w' := by
    intro v' w' own gr
    have := own_cut (L := L ++ [y]) hB (by rw [List.length_append, show numC (L ++ [y]) = numC L ++ numC [y] by simp [numC]]; exact own) (by simp)
    exact h v' w' this.1 ((But.refl _ W).grown gr (fun k e => by cases e)) (fun k hk => .inr (this.2 k hk))
  rcases hown with ⟨rfl, rfl⟩ | ⟨b, off, cap, cs, rfl, hlc, hBb, hk, hsz, hc⟩
  · exact wpList_append_grows W hgd s x 55 ho 3 i0 _ 1 8 Try.underlying55 hi0 hz0 hz1 hz2 rfl (by decide) none 0 0 [] hs (fun _ => ⟨rfl, rfl⟩) rfl (fun _ e => by cases e) ⟨g1, 0, none⟩ 1 1 (numC [y]) hx rfl hnew h1c (by omega) (by unfold maxLen; omega) (by omega) grow
  · refine wpList_append_arg W hgd s x 55 ho 3 i0 _ 1 8 Try.underlying55 hi0 hz0 hz1 hz2 rfl (by decide) b off L.length cap (numC L) hs (by simp [numC]) ?_ ⟨g1, 0, none⟩ 1 1 (numC [y]) hx rfl hnew h1c ?_ (by unfold maxLen; omega) (by omega) ?_ (fun _ => grow)
    · intro j u hu
      rw [hk.cell]
      simp only [numC, List.getElem?_map] at hu
      obtain ⟨z, hz, rfl⟩ := Option.map_eq_some_iff.1 hu
      exact hc j z hz
    · intro hr j hj
      have hj0 : j = 0 := by simp [numC] at hj; exact hj
      subst hj0
      refine ⟨?_, hk.free _⟩
      rw [hk.cell, Array.getElem?_eq_getElem (by omega)]; rfl
    · intro hr
      refine h _ _ ?_ ?_ (fun k hk' => .inl (by obtain ⟨_, _, _, e⟩ := hk'; cases e; exact ⟨_, _, _, rfl⟩))
      · refine .inr ⟨b, off, cap, cs.setIfInBounds (off + L.length) (.int .i64 y), by simp, by simp; omega, hBb, ?_, by simpa using hsz, fun i z hz => ?_⟩
        · have := hk.set_ (off + L.length) (.int .i64 y)
          rw [Nat.mul_one]; exact this
        · by_cases e : i < L.length
          · rw [List.getElem?_append_left e] at hz
            rw [Array.getElem?_setIfInBounds, if_neg (by omega)]; exact hc i z hz
          · have hi : i = L.length := by have := (List.getElem?_eq_some_iff.1 hz).1; simp at this; omega
            subst hi
            simp at hz; subst hz
            rw [Array.getElem?_setIfInBounds, if_pos rfl, if_pos (by omega)]
      · exact (But.refl _ W).set ⟨b, _, none⟩ _ (.inl ⟨_, _, _, rfl⟩)
end Go.Proofs.Ytdomgipbadimmaa
