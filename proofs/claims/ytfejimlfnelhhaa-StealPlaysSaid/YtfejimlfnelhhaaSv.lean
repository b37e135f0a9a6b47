/- A shared row's struct in memory. -/
import Derived.Test.YtfejimlfnelhhaaBu
import Derived.Test.YtfejimlfnelhhaaSm
namespace Go.Proofs.Ytfejimlfnelhhaa
open Go.RowKit

theorem arr_same {S : Array Value} {p : Nat} {v : Value} (h : p < S.size) : (S.setIfInBounds p v)[p]? = some v := by simp [h]
theorem arr_other {S : Array Value} {p q : Nat} {v : Value} (h : p ≠ q) : (S.setIfInBounds p v)[q]? = S[q]? := by rw [Array.getElem?_setIfInBounds, if_neg h]
/-- The struct's cells. -/
structure CsV (D : Dq) (S : Array Value) : Prop where
  sz : S.size = 113
  top : S[0]? = some (.int .i64 D.top)
  bot : S[1]? = some (.int .i64 D.bot)
  sl : ∀ i, i < 64 → S[2 + i]? = some (.int .i64 (D.sl i))
  room : S[66]? = some (.int .i64 D.room)
  c0 : ∀ k, k < 9 → S[67 + k * 5]? = some (.int .i64 ((D.cl k).nx : Nat))
  c1 : ∀ k, k < 9 → S[67 + k * 5 + 1]? = some (.int .i64 (D.cl k).b)
  c2 : ∀ k, k < 9 → S[67 + k * 5 + 2]? = some (.int .i64 (D.cl k).t)
  c3 : ∀ k, k < 9 → S[67 + k * 5 + 3]? = some (.int .i64 (D.cl k).x)
  c4 : ∀ k, k < 9 → S[67 + k * 5 + 4]? = some (.bool (D.cl k).won)
  th : S[112]? = some (.int .i64 D.th)
/-- The struct in memory. -/
def DqV (b : Nat) (D : Dq) (w : World) : Prop := ∃ S, CsV D S ∧ Blk w b 77 S
section
variable {b : Nat} {D : Dq} {w w' : World} {S : Array Value}
theorem DqV.but {X : Nat → Prop} (h : DqV b D w) (hb : But X w w') (hx : ¬ X b) : DqV b D w' := let ⟨S, a, c⟩ := h; ⟨S, a, c.but hb hx⟩
theorem DqV.below {B : Nat} (h : DqV b D w) (hb : Below B w w') (hx : b < B) : DqV b D w' := let ⟨S, a, c⟩ := h; ⟨S, a, c.below hb hx⟩
theorem DqV.drew (h : DqV b D w) : DqV b D w.drew := h
theorem DqV.lt (h : DqV b D w) : b < w.heap.size := let ⟨_, _, c⟩ := h; c.lt
theorem DqV.free (h : DqV b D w) (o : Nat) : w.frozen? ⟨b, o, none⟩ = false := let ⟨_, _, c⟩ := h; c.free o
theorem DqV.top (h : DqV b D w) : w.cell? ⟨b, 0, none⟩ = some (.int .i64 D.top) := let ⟨_, a, c⟩ := h; (c.cell _).trans a.top
theorem DqV.bot (h : DqV b D w) : w.cell? ⟨b, 1, none⟩ = some (.int .i64 D.bot) := let ⟨_, a, c⟩ := h; (c.cell _).trans a.bot
theorem DqV.slot (h : DqV b D w) {i : Nat} (hi : i < 64) : w.cell? ⟨b, 2 + i, none⟩ = some (.int .i64 (D.sl i)) := let ⟨_, a, c⟩ := h; (c.cell _).trans (a.sl i hi)
theorem DqV.room (h : DqV b D w) : w.cell? ⟨b, 66, none⟩ = some (.int .i64 D.room) := let ⟨_, a, c⟩ := h; (c.cell _).trans a.room
theorem DqV.th (h : DqV b D w) : w.cell? ⟨b, 112, none⟩ = some (.int .i64 D.th) := let ⟨_, a, c⟩ := h; (c.cell _).trans a.th
theorem DqV.c0 (h : DqV b D w) {k : Nat} (hk : k < 9) : w.cell? ⟨b, 67 + k * 5, none⟩ = some (.int .i64 ((D.cl k).nx : Nat)) := let ⟨_, a, c⟩ := h; (c.cell _).trans (a.c0 k hk)
theorem DqV.c1 (h : DqV b D w) {k : Nat} (hk : k < 9) : w.cell? ⟨b, 67 + k * 5 + 1, none⟩ = some (.int .i64 (D.cl k).b) := let ⟨_, a, c⟩ := h; (c.cell _).trans (a.c1 k hk)
theorem DqV.c2 (h : DqV b D w) {k : Nat} (hk : k < 9) : w.cell? ⟨b, 67 + k * 5 + 2, none⟩ = some (.int .i64 (D.cl k).t) := let ⟨_, a, c⟩ := h; (c.cell _).trans (a.c2 k hk)
theorem DqV.c3 (h : DqV b D w) {k : Nat} (hk : k < 9) : w.cell? ⟨b, 67 + k * 5 + 3, none⟩ = some (.int .i64 (D.cl k).x) := let ⟨_, a, c⟩ := h; (c.cell _).trans (a.c3 k hk)
theorem DqV.c4 (h : DqV b D w) {k : Nat} (hk : k < 9) : w.cell? ⟨b, 67 + k * 5 + 4, none⟩ = some (.bool (D.cl k).won) := let ⟨_, a, c⟩ := h; (c.cell _).trans (a.c4 k hk)
theorem CsV.snx (a : CsV D S) {k : Nat} (hk : k < 9) (v : Nat) : CsV { D with cl := updC D.cl k { D.cl k with nx := v } } (S.setIfInBounds (67 + k * 5) (.int .i64 (v : Nat))) := by
  refine ⟨by simpa using a.sz, ?_, ?_, fun i hi => ?_, ?_, ?_, ?_, ?_, ?_, ?_, ?_⟩
  · rw [arr_other (by omega)]; exact a.top
  · rw [arr_other (by omega)]; exact a.bot
  · rw [arr_other (by omega)]; exact a.sl i hi
  · rw [arr_other (by omega)]; exact a.room
  · intro j hj
    by_cases e : j = k
    · subst e; rw [arr_same (by rw [a.sz]; omega)]; simp only [updC_same]
    · rw [arr_other (by omega)]; simp only [updC_other _ _ e]; exact a.c0 j hj
  · intro j hj
    rw [arr_other (by omega)]
    by_cases e : j = k
    · subst e; simp only [updC_same]; exact a.c1 j hj
    · simp only [updC_other _ _ e]; exact a.c1 j hj
  · intro j hj
    rw [arr_other (by omega)]
    by_cases e : j = k
    · subst e; simp only [updC_same]; exact a.c2 j hj
    · simp only [updC_other _ _ e]; exact a.c2 j hj
  · intro j hj
    rw [arr_other (by omega)]
    by_cases e : j = k
    · subst e; simp only [updC_same]; exact a.c3 j hj
    · simp only [updC_other _ _ e]; exact a.c3 j hj
  · intro j hj
    rw [arr_other (by omega)]
    by_cases e : j = k
    · subst e; simp only [updC_same]; exact a.c4 j hj
    · simp only [updC_other _ _ e]; exact a.c4 j hj
  · rw [arr_other (by omega)]; exact a.th
theorem DqV.snx (h : DqV b D w) {k : Nat} (hk : k < 9) (v : Nat) : DqV b { D with cl := updC D.cl k { D.cl k with nx := v } } (w.setCell ⟨b, 67 + k * 5, none⟩ (.int .i64 (v : Nat))) := let ⟨_, a, c⟩ := h; ⟨_, a.snx hk v, c.set_ _ _⟩
theorem CsV.sb (a : CsV D S) {k : Nat} (hk : k < 9) (v : Int) : CsV { D with cl := updC D.cl k { D.cl k with b := v } } (S.setIfInBounds (67 + k * 5 + 1) (.int .i64 v)) := by
  refine ⟨by simpa using a.sz, ?_, ?_, fun i hi => ?_, ?_, ?_, ?_, ?_, ?_, ?_, ?_⟩
  · rw [arr_other (by omega)]; exact a.top
  · rw [arr_other (by omega)]; exact a.bot
  · rw [arr_other (by omega)]; exact a.sl i hi
  · rw [arr_other (by omega)]; exact a.room
  · intro j hj
    rw [arr_other (by omega)]
    by_cases e : j = k
    · subst e; simp only [updC_same]; exact a.c0 j hj
    · simp only [updC_other _ _ e]; exact a.c0 j hj
  · intro j hj
    by_cases e : j = k
    · subst e; rw [arr_same (by rw [a.sz]; omega)]; simp only [updC_same]
    · rw [arr_other (by omega)]; simp only [updC_other _ _ e]; exact a.c1 j hj
  · intro j hj
    rw [arr_other (by omega)]
    by_cases e : j = k
    · subst e; simp only [updC_same]; exact a.c2 j hj
    · simp only [updC_other _ _ e]; exact a.c2 j hj
  · intro j hj
    rw [arr_other (by omega)]
    by_cases e : j = k
    · subst e; simp only [updC_same]; exact a.c3 j hj
    · simp only [updC_other _ _ e]; exact a.c3 j hj
  · intro j hj
    rw [arr_other (by omega)]
    by_cases e : j = k
    · subst e; simp only [updC_same]; exact a.c4 j hj
    · simp only [updC_other _ _ e]; exact a.c4 j hj
  · rw [arr_other (by omega)]; exact a.th
theorem DqV.sb (h : DqV b D w) {k : Nat} (hk : k < 9) (v : Int) : DqV b { D with cl := updC D.cl k { D.cl k with b := v } } (w.setCell ⟨b, 67 + k * 5 + 1, none⟩ (.int .i64 v)) := let ⟨_, a, c⟩ := h; ⟨_, a.sb hk v, c.set_ _ _⟩
theorem CsV.st (a : CsV D S) {k : Nat} (hk : k < 9) (v : Int) : CsV { D with cl := updC D.cl k { D.cl k with t := v } } (S.setIfInBounds (67 + k * 5 + 2) (.int .i64 v)) := by
  refine ⟨by simpa using a.sz, ?_, ?_, fun i hi => ?_, ?_, ?_, ?_, ?_, ?_, ?_, ?_⟩
  · rw [arr_other (by omega)]; exact a.top
  · rw [arr_other (by omega)]; exact a.bot
  · rw [arr_other (by omega)]; exact a.sl i hi
  · rw [arr_other (by omega)]; exact a.room
  · intro j hj
    rw [arr_other (by omega)]
    by_cases e : j = k
    · subst e; simp only [updC_same]; exact a.c0 j hj
    · simp only [updC_other _ _ e]; exact a.c0 j hj
  · intro j hj
    rw [arr_other (by omega)]
    by_cases e : j = k
    · subst e; simp only [updC_same]; exact a.c1 j hj
    · simp only [updC_other _ _ e]; exact a.c1 j hj
  · intro j hj
    by_cases e : j = k
    · subst e; rw [arr_same (by rw [a.sz]; omega)]; simp only [updC_same]
    · rw [arr_other (by omega)]; simp only [updC_other _ _ e]; exact a.c2 j hj
  · intro j hj
    rw [arr_other (by omega)]
    by_cases e : j = k
    · subst e; simp only [updC_same]; exact a.c3 j hj
    · simp only [updC_other _ _ e]; exact a.c3 j hj
  · intro j hj
    rw [arr_other (by omega)]
    by_cases e : j = k
    · subst e; simp only [updC_same]; exact a.c4 j hj
    · simp only [updC_other _ _ e]; exact a.c4 j hj
  · rw [arr_other (by omega)]; exact a.th
theorem DqV.st (h : DqV b D w) {k : Nat} (hk : k < 9) (v : Int) : DqV b { D with cl := updC D.cl k { D.cl k with t := v } } (w.setCell ⟨b, 67 + k * 5 + 2, none⟩ (.int .i64 v)) := let ⟨_, a, c⟩ := h; ⟨_, a.st hk v, c.set_ _ _⟩
theorem CsV.sx (a : CsV D S) {k : Nat} (hk : k < 9) (v : Int) : CsV { D with cl := updC D.cl k { D.cl k with x := v } } (S.setIfInBounds (67 + k * 5 + 3) (.int .i64 v)) := by
  refine ⟨by simpa using a.sz, ?_, ?_, fun i hi => ?_, ?_, ?_, ?_, ?_, ?_, ?_, ?_⟩
  · rw [arr_other (by omega)]; exact a.top
  · rw [arr_other (by omega)]; exact a.bot
  · rw [arr_other (by omega)]; exact a.sl i hi
  · rw [arr_other (by omega)]; exact a.room
  · intro j hj
    rw [arr_other (by omega)]
    by_cases e : j = k
    · subst e; simp only [updC_same]; exact a.c0 j hj
    · simp only [updC_other _ _ e]; exact a.c0 j hj
  · intro j hj
    rw [arr_other (by omega)]
    by_cases e : j = k
    · subst e; simp only [updC_same]; exact a.c1 j hj
    · simp only [updC_other _ _ e]; exact a.c1 j hj
  · intro j hj
    rw [arr_other (by omega)]
    by_cases e : j = k
    · subst e; simp only [updC_same]; exact a.c2 j hj
    · simp only [updC_other _ _ e]; exact a.c2 j hj
  · intro j hj
    by_cases e : j = k
    · subst e; rw [arr_same (by rw [a.sz]; omega)]; simp only [updC_same]
    · rw [arr_other (by omega)]; simp only [updC_other _ _ e]; exact a.c3 j hj
  · intro j hj
    rw [arr_other (by omega)]
    by_cases e : j = k
    · subst e; simp only [updC_same]; exact a.c4 j hj
    · simp only [updC_other _ _ e]; exact a.c4 j hj
  · rw [arr_other (by omega)]; exact a.th
theorem DqV.sx (h : DqV b D w) {k : Nat} (hk : k < 9) (v : Int) : DqV b { D with cl := updC D.cl k { D.cl k with x := v } } (w.setCell ⟨b, 67 + k * 5 + 3, none⟩ (.int .i64 v)) := let ⟨_, a, c⟩ := h; ⟨_, a.sx hk v, c.set_ _ _⟩
theorem CsV.swon (a : CsV D S) {k : Nat} (hk : k < 9) (v : Bool) : CsV { D with cl := updC D.cl k { D.cl k with won := v } } (S.setIfInBounds (67 + k * 5 + 4) (.bool v)) := by
  refine ⟨by simpa using a.sz, ?_, ?_, fun i hi => ?_, ?_, ?_, ?_, ?_, ?_, ?_, ?_⟩
  · rw [arr_other (by omega)]; exact a.top
  · rw [arr_other (by omega)]; exact a.bot
  · rw [arr_other (by omega)]; exact a.sl i hi
  · rw [arr_other (by omega)]; exact a.room
  · intro j hj
    rw [arr_other (by omega)]
    by_cases e : j = k
    · subst e; simp only [updC_same]; exact a.c0 j hj
    · simp only [updC_other _ _ e]; exact a.c0 j hj
  · intro j hj
    rw [arr_other (by omega)]
    by_cases e : j = k
    · subst e; simp only [updC_same]; exact a.c1 j hj
    · simp only [updC_other _ _ e]; exact a.c1 j hj
  · intro j hj
    rw [arr_other (by omega)]
    by_cases e : j = k
    · subst e; simp only [updC_same]; exact a.c2 j hj
    · simp only [updC_other _ _ e]; exact a.c2 j hj
  · intro j hj
    rw [arr_other (by omega)]
    by_cases e : j = k
    · subst e; simp only [updC_same]; exact a.c3 j hj
    · simp only [updC_other _ _ e]; exact a.c3 j hj
  · intro j hj
    by_cases e : j = k
    · subst e; rw [arr_same (by rw [a.sz]; omega)]; simp only [updC_same]
    · rw [arr_other (by omega)]; simp only [updC_other _ _ e]; exact a.c4 j hj
  · rw [arr_other (by omega)]; exact a.th
theorem DqV.swon (h : DqV b D w) {k : Nat} (hk : k < 9) (v : Bool) : DqV b { D with cl := updC D.cl k { D.cl k with won := v } } (w.setCell ⟨b, 67 + k * 5 + 4, none⟩ (.bool v)) := let ⟨_, a, c⟩ := h; ⟨_, a.swon hk v, c.set_ _ _⟩
theorem CsV.stop (a : CsV D S) (v : Int) : CsV { D with top := v } (S.setIfInBounds 0 (.int .i64 v)) := by
  refine ⟨by simpa using a.sz, ?_, ?_, fun i hi => ?_, ?_, ?_, ?_, ?_, ?_, ?_, ?_⟩
  · rw [arr_same (by rw [a.sz]; omega)]
  · rw [arr_other (by omega)]; exact a.bot
  · rw [arr_other (by omega)]; exact a.sl i hi
  · rw [arr_other (by omega)]; exact a.room
  · intro j hj; rw [arr_other (by omega)]; exact a.c0 j hj
  · intro j hj; rw [arr_other (by omega)]; exact a.c1 j hj
  · intro j hj; rw [arr_other (by omega)]; exact a.c2 j hj
  · intro j hj; rw [arr_other (by omega)]; exact a.c3 j hj
  · intro j hj; rw [arr_other (by omega)]; exact a.c4 j hj
  · rw [arr_other (by omega)]; exact a.th
theorem DqV.stop (h : DqV b D w) (v : Int) : DqV b { D with top := v } (w.setCell ⟨b, 0, none⟩ (.int .i64 v)) := let ⟨_, a, c⟩ := h; ⟨_, a.stop v, c.set_ _ _⟩
theorem CsV.sbot (a : CsV D S) (v : Int) : CsV { D with bot := v } (S.setIfInBounds 1 (.int .i64 v)) := by
  refine ⟨by simpa using a.sz, ?_, ?_, fun i hi => ?_, ?_, ?_, ?_, ?_, ?_, ?_, ?_⟩
  · rw [arr_other (by omega)]; exact a.top
  · rw [arr_same (by rw [a.sz]; omega)]
  · rw [arr_other (by omega)]; exact a.sl i hi
  · rw [arr_other (by omega)]; exact a.room
  · intro j hj; rw [arr_other (by omega)]; exact a.c0 j hj
  · intro j hj; rw [arr_other (by omega)]; exact a.c1 j hj
  · intro j hj; rw [arr_other (by omega)]; exact a.c2 j hj
  · intro j hj; rw [arr_other (by omega)]; exact a.c3 j hj
  · intro j hj; rw [arr_other (by omega)]; exact a.c4 j hj
  · rw [arr_other (by omega)]; exact a.th
theorem DqV.sbot (h : DqV b D w) (v : Int) : DqV b { D with bot := v } (w.setCell ⟨b, 1, none⟩ (.int .i64 v)) := let ⟨_, a, c⟩ := h; ⟨_, a.sbot v, c.set_ _ _⟩
theorem CsV.ssl (a : CsV D S) {i : Nat} (hi : i < 64) (v : Int) : CsV { D with sl := updS D.sl i v } (S.setIfInBounds (2 + i) (.int .i64 v)) := by
  refine ⟨by simpa using a.sz, ?_, ?_, fun j hj => ?_, ?_, ?_, ?_, ?_, ?_, ?_, ?_⟩
  · rw [arr_other (by omega)]; exact a.top
  · rw [arr_other (by omega)]; exact a.bot
  · by_cases e : j = i
    · subst e; rw [arr_same (by rw [a.sz]; omega)]; simp only [updS_same]
    · rw [arr_other (by omega)]; simp only [updS_other _ _ e]; exact a.sl j hj
  · rw [arr_other (by omega)]; exact a.room
  · intro j hj; rw [arr_other (by omega)]; exact a.c0 j hj
  · intro j hj; rw [arr_other (by omega)]; exact a.c1 j hj
  · intro j hj; rw [arr_other (by omega)]; exact a.c2 j hj
  · intro j hj; rw [arr_other (by omega)]; exact a.c3 j hj
  · intro j hj; rw [arr_other (by omega)]; exact a.c4 j hj
  · rw [arr_other (by omega)]; exact a.th
theorem DqV.ssl (h : DqV b D w) {i : Nat} (hi : i < 64) (v : Int) : DqV b { D with sl := updS D.sl i v } (w.setCell ⟨b, 2 + i, none⟩ (.int .i64 v)) := let ⟨_, a, c⟩ := h; ⟨_, a.ssl hi v, c.set_ _ _⟩
theorem DqV.sall (h : DqV b D w) {k : Nat} (hk : k < 9) (n : Nat) (u t x : Int) (q : Bool) : DqV b { D with cl := updC D.cl k ⟨n, u, t, x, q⟩ } (((((w.setCell ⟨b, 67 + k * 5, none⟩ (.int .i64 (n : Nat))).setCell ⟨b, 67 + k * 5 + 1, none⟩ (.int .i64 u)).setCell ⟨b, 67 + k * 5 + 2, none⟩ (.int .i64 t)).setCell ⟨b, 67 + k * 5 + 3, none⟩ (.int .i64 x)).setCell ⟨b, 67 + k * 5 + 4, none⟩ (.bool q)) := by
  have := ((((h.snx hk n).sb hk u).st hk t).sx hk x).swon hk q
  simp only [updC_same, updC_twice] at this
  exact this
end
end Go.Proofs.Ytfejimlfnelhhaa
