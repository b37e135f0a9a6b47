/- A lock that parties wait for in a row: its struct in memory. -/
import Derived.Test.YtckdabokaelnoaaMm
namespace Go.Proofs.Ytckdabokaelnoaa
open Go.RowKit

theorem arr_same {S : Array Value} {p : Nat} {v : Value} (h : p < S.size) : (S.setIfInBounds p v)[p]? = some v := by simp [h]
theorem arr_other {S : Array Value} {p q : Nat} {v : Value} (h : p ≠ q) : (S.setIfInBounds p v)[q]? = S[q]? := by rw [Array.getElem?_setIfInBounds, if_neg h]
/-- The struct's cells. -/
structure CsM (D : Lk) (S : Array Value) : Prop where
  sz : S.size = 82
  tail : S[0]? = some (.int .i64 D.tail)
  nx : ∀ k, k < 16 → S[1 + k * 2]? = some (.int .i64 (D.nx k))
  wt : ∀ k, k < 16 → S[1 + k * 2 + 1]? = some (.bool (D.wt k))
  st : ∀ k, k < 16 → S[33 + k * 3]? = some (.int .i64 ((D.cl k).st : Nat))
  sp : ∀ k, k < 16 → S[33 + k * 3 + 1]? = some (.int .i64 ((D.cl k).sp : Nat))
  ot : ∀ k, k < 16 → S[33 + k * 3 + 2]? = some (.int .i64 (D.cl k).ot)
  n : S[81]? = some (.int .i64 (D.n : Nat))
/-- The struct in memory. -/
def LkM (b : Nat) (D : Lk) (w : World) : Prop := ∃ S, CsM D S ∧ Blk w b 144 S
section
variable {b : Nat} {D : Lk} {w w' : World} {S : Array Value}
theorem LkM.but {X : Nat → Prop} (h : LkM b D w) (hb : But X w w') (hx : ¬ X b) : LkM b D w' := let ⟨S, a, c⟩ := h; ⟨S, a, c.but hb hx⟩
theorem LkM.below {B : Nat} (h : LkM b D w) (hb : Below B w w') (hx : b < B) : LkM b D w' := let ⟨S, a, c⟩ := h; ⟨S, a, c.below hb hx⟩
theorem LkM.drew (h : LkM b D w) : LkM b D w.drew := h
theorem LkM.lt (h : LkM b D w) : b < w.heap.size := let ⟨_, _, c⟩ := h; c.lt
theorem LkM.free (h : LkM b D w) (o : Nat) : w.frozen? ⟨b, o, none⟩ = false := let ⟨_, _, c⟩ := h; c.free o
theorem LkM.tail (h : LkM b D w) : w.cell? ⟨b, 0, none⟩ = some (.int .i64 D.tail) := let ⟨_, a, c⟩ := h; (c.cell _).trans a.tail
theorem LkM.n (h : LkM b D w) : w.cell? ⟨b, 81, none⟩ = some (.int .i64 (D.n : Nat)) := let ⟨_, a, c⟩ := h; (c.cell _).trans a.n
theorem LkM.nx (h : LkM b D w) {k : Nat} (hk : k < 16) : w.cell? ⟨b, 1 + k * 2, none⟩ = some (.int .i64 (D.nx k)) := let ⟨_, a, c⟩ := h; (c.cell _).trans (a.nx k hk)
theorem LkM.wt (h : LkM b D w) {k : Nat} (hk : k < 16) : w.cell? ⟨b, 1 + k * 2 + 1, none⟩ = some (.bool (D.wt k)) := let ⟨_, a, c⟩ := h; (c.cell _).trans (a.wt k hk)
theorem LkM.st (h : LkM b D w) {k : Nat} (hk : k < 16) : w.cell? ⟨b, 33 + k * 3, none⟩ = some (.int .i64 ((D.cl k).st : Nat)) := let ⟨_, a, c⟩ := h; (c.cell _).trans (a.st k hk)
theorem LkM.sp (h : LkM b D w) {k : Nat} (hk : k < 16) : w.cell? ⟨b, 33 + k * 3 + 1, none⟩ = some (.int .i64 ((D.cl k).sp : Nat)) := let ⟨_, a, c⟩ := h; (c.cell _).trans (a.sp k hk)
theorem LkM.ot (h : LkM b D w) {k : Nat} (hk : k < 16) : w.cell? ⟨b, 33 + k * 3 + 2, none⟩ = some (.int .i64 (D.cl k).ot) := let ⟨_, a, c⟩ := h; (c.cell _).trans (a.ot k hk)
theorem CsM.stail (a : CsM D S) (v : Int) : CsM { D with tail := v } (S.setIfInBounds (0) (.int .i64 v)) := by
  refine ⟨by simpa using a.sz, ?_, ?_, ?_, ?_, ?_, ?_, ?_⟩
  · rw [arr_same (by rw [a.sz]; omega)]
  · intro j hj; rw [arr_other (by omega)]; exact a.nx j hj
  · intro j hj; rw [arr_other (by omega)]; exact a.wt j hj
  · intro j hj; rw [arr_other (by omega)]; exact a.st j hj
  · intro j hj; rw [arr_other (by omega)]; exact a.sp j hj
  · intro j hj; rw [arr_other (by omega)]; exact a.ot j hj
  · rw [arr_other (by omega)]; exact a.n
theorem LkM.stail (h : LkM b D w) (v : Int) : LkM b { D with tail := v } (w.setCell ⟨b, 0, none⟩ (.int .i64 v)) := let ⟨_, a, c⟩ := h; ⟨_, a.stail v, c.set_ _ _⟩
theorem CsM.snx (a : CsM D S) {k : Nat} (hk : k < 16) (v : Int) : CsM { D with nx := updF D.nx k v } (S.setIfInBounds (1 + k * 2) (.int .i64 v)) := by
  refine ⟨by simpa using a.sz, ?_, ?_, ?_, ?_, ?_, ?_, ?_⟩
  · rw [arr_other (by omega)]; exact a.tail
  · intro j hj
    by_cases e : j = k
    · subst e; rw [arr_same (by rw [a.sz]; omega)]; simp only [updF_same]
    · rw [arr_other (by omega)]; simp only [updF_other _ _ e]; exact a.nx j hj
  · intro j hj; rw [arr_other (by omega)]; exact a.wt j hj
  · intro j hj; rw [arr_other (by omega)]; exact a.st j hj
  · intro j hj; rw [arr_other (by omega)]; exact a.sp j hj
  · intro j hj; rw [arr_other (by omega)]; exact a.ot j hj
  · rw [arr_other (by omega)]; exact a.n
theorem LkM.snx (h : LkM b D w) {k : Nat} (hk : k < 16) (v : Int) : LkM b { D with nx := updF D.nx k v } (w.setCell ⟨b, 1 + k * 2, none⟩ (.int .i64 v)) := let ⟨_, a, c⟩ := h; ⟨_, a.snx hk v, c.set_ _ _⟩
theorem CsM.swt (a : CsM D S) {k : Nat} (hk : k < 16) (v : Bool) : CsM { D with wt := updF D.wt k v } (S.setIfInBounds (1 + k * 2 + 1) (.bool v)) := by
  refine ⟨by simpa using a.sz, ?_, ?_, ?_, ?_, ?_, ?_, ?_⟩
  · rw [arr_other (by omega)]; exact a.tail
  · intro j hj; rw [arr_other (by omega)]; exact a.nx j hj
  · intro j hj
    by_cases e : j = k
    · subst e; rw [arr_same (by rw [a.sz]; omega)]; simp only [updF_same]
    · rw [arr_other (by omega)]; simp only [updF_other _ _ e]; exact a.wt j hj
  · intro j hj; rw [arr_other (by omega)]; exact a.st j hj
  · intro j hj; rw [arr_other (by omega)]; exact a.sp j hj
  · intro j hj; rw [arr_other (by omega)]; exact a.ot j hj
  · rw [arr_other (by omega)]; exact a.n
theorem LkM.swt (h : LkM b D w) {k : Nat} (hk : k < 16) (v : Bool) : LkM b { D with wt := updF D.wt k v } (w.setCell ⟨b, 1 + k * 2 + 1, none⟩ (.bool v)) := let ⟨_, a, c⟩ := h; ⟨_, a.swt hk v, c.set_ _ _⟩
theorem CsM.sst (a : CsM D S) {k : Nat} (hk : k < 16) (v : Nat) : CsM { D with cl := updF D.cl k { D.cl k with st := v } } (S.setIfInBounds (33 + k * 3) (.int .i64 (v : Nat))) := by
  refine ⟨by simpa using a.sz, ?_, ?_, ?_, ?_, ?_, ?_, ?_⟩
  · rw [arr_other (by omega)]; exact a.tail
  · intro j hj; rw [arr_other (by omega)]; exact a.nx j hj
  · intro j hj; rw [arr_other (by omega)]; exact a.wt j hj
  · intro j hj
    by_cases e : j = k
    · subst e; rw [arr_same (by rw [a.sz]; omega)]; simp only [updF_same]
    · rw [arr_other (by omega)]; simp only [updF_other _ _ e]; exact a.st j hj
  · intro j hj
    rw [arr_other (by omega)]
    by_cases e : j = k
    · subst e; simp only [updF_same]; exact a.sp j hj
    · simp only [updF_other _ _ e]; exact a.sp j hj
  · intro j hj
    rw [arr_other (by omega)]
    by_cases e : j = k
    · subst e; simp only [updF_same]; exact a.ot j hj
    · simp only [updF_other _ _ e]; exact a.ot j hj
  · rw [arr_other (by omega)]; exact a.n
theorem LkM.sst (h : LkM b D w) {k : Nat} (hk : k < 16) (v : Nat) : LkM b { D with cl := updF D.cl k { D.cl k with st := v } } (w.setCell ⟨b, 33 + k * 3, none⟩ (.int .i64 (v : Nat))) := let ⟨_, a, c⟩ := h; ⟨_, a.sst hk v, c.set_ _ _⟩
theorem CsM.ssp (a : CsM D S) {k : Nat} (hk : k < 16) (v : Nat) : CsM { D with cl := updF D.cl k { D.cl k with sp := v } } (S.setIfInBounds (33 + k * 3 + 1) (.int .i64 (v : Nat))) := by
  refine ⟨by simpa using a.sz, ?_, ?_, ?_, ?_, ?_, ?_, ?_⟩
  · rw [arr_other (by omega)]; exact a.tail
  · intro j hj; rw [arr_other (by omega)]; exact a.nx j hj
  · intro j hj; rw [arr_other (by omega)]; exact a.wt j hj
  · intro j hj
    rw [arr_other (by omega)]
    by_cases e : j = k
    · subst e; simp only [updF_same]; exact a.st j hj
    · simp only [updF_other _ _ e]; exact a.st j hj
  · intro j hj
    by_cases e : j = k
    · subst e; rw [arr_same (by rw [a.sz]; omega)]; simp only [updF_same]
    · rw [arr_other (by omega)]; simp only [updF_other _ _ e]; exact a.sp j hj
  · intro j hj
    rw [arr_other (by omega)]
    by_cases e : j = k
    · subst e; simp only [updF_same]; exact a.ot j hj
    · simp only [updF_other _ _ e]; exact a.ot j hj
  · rw [arr_other (by omega)]; exact a.n
theorem LkM.ssp (h : LkM b D w) {k : Nat} (hk : k < 16) (v : Nat) : LkM b { D with cl := updF D.cl k { D.cl k with sp := v } } (w.setCell ⟨b, 33 + k * 3 + 1, none⟩ (.int .i64 (v : Nat))) := let ⟨_, a, c⟩ := h; ⟨_, a.ssp hk v, c.set_ _ _⟩
theorem CsM.sot (a : CsM D S) {k : Nat} (hk : k < 16) (v : Int) : CsM { D with cl := updF D.cl k { D.cl k with ot := v } } (S.setIfInBounds (33 + k * 3 + 2) (.int .i64 v)) := by
  refine ⟨by simpa using a.sz, ?_, ?_, ?_, ?_, ?_, ?_, ?_⟩
  · rw [arr_other (by omega)]; exact a.tail
  · intro j hj; rw [arr_other (by omega)]; exact a.nx j hj
  · intro j hj; rw [arr_other (by omega)]; exact a.wt j hj
  · intro j hj
    rw [arr_other (by omega)]
    by_cases e : j = k
    · subst e; simp only [updF_same]; exact a.st j hj
    · simp only [updF_other _ _ e]; exact a.st j hj
  · intro j hj
    rw [arr_other (by omega)]
    by_cases e : j = k
    · subst e; simp only [updF_same]; exact a.sp j hj
    · simp only [updF_other _ _ e]; exact a.sp j hj
  · intro j hj
    by_cases e : j = k
    · subst e; rw [arr_same (by rw [a.sz]; omega)]; simp only [updF_same]
    · rw [arr_other (by omega)]; simp only [updF_other _ _ e]; exact a.ot j hj
  · rw [arr_other (by omega)]; exact a.n
theorem LkM.sot (h : LkM b D w) {k : Nat} (hk : k < 16) (v : Int) : LkM b { D with cl := updF D.cl k { D.cl k with ot := v } } (w.setCell ⟨b, 33 + k * 3 + 2, none⟩ (.int .i64 v)) := let ⟨_, a, c⟩ := h; ⟨_, a.sot hk v, c.set_ _ _⟩
theorem LkM.sall (h : LkM b D w) {k : Nat} (hk : k < 16) (p q : Nat) (o : Int) :
    LkM b { D with cl := updF D.cl k ⟨p, q, o⟩ } (((w.setCell ⟨b, 33 + k * 3, none⟩ (.int .i64 (p : Nat))).setCell ⟨b, 33 + k * 3 + 1, none⟩ (.int .i64 (q : Nat))).setCell ⟨b, 33 + k * 3 + 2, none⟩ (.int .i64 o)) := by
  have := ((h.sst hk p).ssp hk q).sot hk o
  simp only [updF_same, updF_twice] at this
  exact this
end
end Go.Proofs.Ytckdabokaelnoaa
