/- The document's shared row in memory. -/
import Derived.Test.YtfejimlfnelhhaaSh
namespace Go.Proofs.Ytfejimlfnelhhaa
open Go.RowKit

/-- A party, as the document has it. -/
structure Pt where
  ca : Nat
  st : Nat
  b : Int
  t : Int
  x : Int
  won : Bool
def Pt.out : Pt := ⟨0, 0, 0, 0, 0, false⟩
def updP (f : Nat → Pt) (i : Nat) (p : Pt) : Nat → Pt := fun j => if j = i then p else f j
theorem updP_same (f : Nat → Pt) (i : Nat) (p : Pt) : updP f i p i = p := by simp [updP]
theorem updP_other (f : Nat → Pt) {i j : Nat} (p : Pt) (h : j ≠ i) : updP f i p j = f j := by simp [updP, h]
/-- The document's words of where one is. -/
def codeP (nx : Nat) : Nat × Nat := if nx = 0 then (0, 0) else if nx ≤ 4 then (1, nx) else if nx ≤ 9 then (2, nx - 4) else (3, nx - 9)
structure PartyOf (c : Cl) (p : Pt) : Prop where
  code : (p.ca, p.st) = codeP c.nx
  x : p.x = c.x
  won : p.won = c.won
  b : 1 ≤ c.nx → c.nx ≤ 9 → p.b = c.b
  t : 5 ≤ c.nx → p.t = c.t
structure RfV (rb gs gp : Nat) (top bot : Int) (sl : Nat → Int) (room th : Nat) (P : Nat → Pt) (w : World) : Prop where
  r1 : 1 ≤ room
  r2 : room ≤ 64
  th8 : th ≤ 8
  ne1 : gs ≠ rb
  ne2 : gp ≠ rb
  ne3 : gs ≠ gp
  own : Blk w rb 35 #[.int .i64 top, .int .i64 bot, .int .i64 room, .slice (some ⟨gs, 0, none⟩) room room, .slice (some ⟨gp, 0, none⟩) (th + 1) (th + 1)]
  sls : ∃ S : Array Value, room ≤ S.size ∧ Blk w gs 3 S ∧ ∀ i, i < room → S[i]? = some (.int .i64 (sl i))
  pts : ∃ S : Array Value, (th + 1) * 6 ≤ S.size ∧ Blk w gp 38 S ∧ ∀ k, k ≤ th → S[k * 6]? = some (.int .i64 ((P k).ca : Nat)) ∧ S[k * 6 + 1]? = some (.int .i64 ((P k).st : Nat)) ∧ S[k * 6 + 2]? = some (.int .i64 (P k).b) ∧ S[k * 6 + 3]? = some (.int .i64 (P k).t) ∧ S[k * 6 + 4]? = some (.int .i64 (P k).x) ∧ S[k * 6 + 5]? = some (.bool (P k).won)
def OwnR (rb gs gp : Nat) : Nat → Prop := fun k => k = rb ∨ k = gs ∨ k = gp
section
variable {rb gs gp : Nat} {top bot : Int} {sl : Nat → Int} {room th : Nat} {P : Nat → Pt} {w w' : World}
theorem RfV.but {X : Nat → Prop} (h : RfV rb gs gp top bot sl room th P w) (hb : But X w w') (hX : ∀ k, OwnR rb gs gp k → ¬ X k) : RfV rb gs gp top bot sl room th P w' :=
  ⟨h.r1, h.r2, h.th8, h.ne1, h.ne2, h.ne3, h.own.but hb (hX _ (.inl rfl)), let ⟨S, a, b, c⟩ := h.sls; ⟨S, a, b.but hb (hX _ (.inr (.inl rfl))), c⟩, let ⟨S, a, b, c⟩ := h.pts; ⟨S, a, b.but hb (hX _ (.inr (.inr rfl))), c⟩⟩
theorem RfV.lt (h : RfV rb gs gp top bot sl room th P w) {k : Nat} (hk : OwnR rb gs gp k) : k < w.heap.size := by
  rcases hk with rfl | rfl | rfl
  · exact h.own.lt
  · obtain ⟨S, _, b, _⟩ := h.sls; exact b.lt
  · obtain ⟨S, _, b, _⟩ := h.pts; exact b.lt
theorem RfV.cells (h : RfV rb gs gp top bot sl room th P w) : w.cell? ⟨rb, 0, none⟩ = some (.int .i64 top) ∧ w.cell? ⟨rb, 1, none⟩ = some (.int .i64 bot) ∧ w.cell? ⟨rb, 2, none⟩ = some (.int .i64 room) ∧ w.cell? ⟨rb, 3, none⟩ = some (.slice (some ⟨gs, 0, none⟩) room room) ∧ w.cell? ⟨rb, 4, none⟩ = some (.slice (some ⟨gp, 0, none⟩) (th + 1) (th + 1)) :=
  ⟨h.own.cell 0, h.own.cell 1, h.own.cell 2, h.own.cell 3, h.own.cell 4⟩
theorem RfV.slot (h : RfV rb gs gp top bot sl room th P w) {i : Nat} (hi : i < room) : w.cell? ⟨gs, i, none⟩ = some (.int .i64 (sl i)) ∧ w.frozen? ⟨gs, i, none⟩ = false := by
  obtain ⟨S, _, b, c⟩ := h.sls; exact ⟨(b.cell _).trans (c i hi), b.free i⟩
theorem RfV.party (h : RfV rb gs gp top bot sl room th P w) {k : Nat} (hk : k ≤ th) : w.cell? ⟨gp, k * 6, none⟩ = some (.int .i64 ((P k).ca : Nat)) ∧ w.cell? ⟨gp, k * 6 + 1, none⟩ = some (.int .i64 ((P k).st : Nat)) ∧ w.cell? ⟨gp, k * 6 + 2, none⟩ = some (.int .i64 (P k).b) ∧ w.cell? ⟨gp, k * 6 + 3, none⟩ = some (.int .i64 (P k).t) ∧ w.cell? ⟨gp, k * 6 + 4, none⟩ = some (.int .i64 (P k).x) ∧ w.cell? ⟨gp, k * 6 + 5, none⟩ = some (.bool (P k).won) := by
  obtain ⟨S, _, b, c⟩ := h.pts
  obtain ⟨c0, c1, c2, c3, c4, c5⟩ := c k hk
  exact ⟨(b.cell _).trans c0, (b.cell _).trans c1, (b.cell _).trans c2, (b.cell _).trans c3, (b.cell _).trans c4, (b.cell _).trans c5⟩
theorem RfV.pfree (h : RfV rb gs gp top bot sl room th P w) (o : Nat) : w.frozen? ⟨gp, o, none⟩ = false := by obtain ⟨S, _, b, c⟩ := h.pts; exact b.free o
theorem RfV.free (h : RfV rb gs gp top bot sl room th P w) (o : Nat) : w.frozen? ⟨rb, o, none⟩ = false := h.own.free o
theorem RfV.stop (h : RfV rb gs gp top bot sl room th P w) (x : Int) : RfV rb gs gp x bot sl room th P (w.setCell ⟨rb, 0, none⟩ (.int .i64 x)) :=
  ⟨h.r1, h.r2, h.th8, h.ne1, h.ne2, h.ne3, by have := h.own.set_ 0 (.int .i64 x); simpa using this, let ⟨S, a, b, c⟩ := h.sls; ⟨S, a, b.far (p := ⟨rb, 0, none⟩) h.ne1 _, c⟩, let ⟨S, a, b, c⟩ := h.pts; ⟨S, a, b.far (p := ⟨rb, 0, none⟩) h.ne2 _, c⟩⟩
theorem RfV.sbot (h : RfV rb gs gp top bot sl room th P w) (x : Int) : RfV rb gs gp top x sl room th P (w.setCell ⟨rb, 1, none⟩ (.int .i64 x)) :=
  ⟨h.r1, h.r2, h.th8, h.ne1, h.ne2, h.ne3, by have := h.own.set_ 1 (.int .i64 x); simpa using this, let ⟨S, a, b, c⟩ := h.sls; ⟨S, a, b.far (p := ⟨rb, 1, none⟩) h.ne1 _, c⟩, let ⟨S, a, b, c⟩ := h.pts; ⟨S, a, b.far (p := ⟨rb, 1, none⟩) h.ne2 _, c⟩⟩
theorem RfV.ssl (h : RfV rb gs gp top bot sl room th P w) {i : Nat} (hi : i < room) (x : Int) : RfV rb gs gp top bot (updS sl i x) room th P (w.setCell ⟨gs, i, none⟩ (.int .i64 x)) := by
  refine ⟨h.r1, h.r2, h.th8, h.ne1, h.ne2, h.ne3, h.own.far (p := ⟨gs, i, none⟩) (Ne.symm h.ne1) _, ?_, let ⟨S, a, b, c⟩ := h.pts; ⟨S, a, b.far (p := ⟨gs, i, none⟩) (Ne.symm h.ne3) _, c⟩⟩
  obtain ⟨S, a, b, c⟩ := h.sls
  refine ⟨S.setIfInBounds i (.int .i64 x), by simpa using a, b.set_ _ _, fun j hj => ?_⟩
  by_cases e : j = i
  · subst e; rw [arr_same (by omega), updS_same]
  · rw [arr_other (Ne.symm e), updS_other _ _ e]; exact c j hj
theorem RfV.sparty (h : RfV rb gs gp top bot sl room th P w) {k : Nat} (hk : k ≤ th) (p : Pt) : RfV rb gs gp top bot sl room th (updP P k p)
    ((((((w.setCell ⟨gp, k * 6, none⟩ (.int .i64 (p.ca : Nat))).setCell ⟨gp, k * 6 + 1, none⟩ (.int .i64 (p.st : Nat))).setCell ⟨gp, k * 6 + 2, none⟩ (.int .i64 p.b)).setCell ⟨gp, k * 6 + 3, none⟩ (.int .i64 p.t)).setCell ⟨gp, k * 6 + 4, none⟩ (.int .i64 p.x)).setCell ⟨gp, k * 6 + 5, none⟩ (.bool p.won)) := by
  have hb : But (fun j => j = gp) w ((((((w.setCell ⟨gp, k * 6, none⟩ (.int .i64 (p.ca : Nat))).setCell ⟨gp, k * 6 + 1, none⟩ (.int .i64 (p.st : Nat))).setCell ⟨gp, k * 6 + 2, none⟩ (.int .i64 p.b)).setCell ⟨gp, k * 6 + 3, none⟩ (.int .i64 p.t)).setCell ⟨gp, k * 6 + 4, none⟩ (.int .i64 p.x)).setCell ⟨gp, k * 6 + 5, none⟩ (.bool p.won)) :=
    ((((((But.refl (fun j => j = gp) w).set ⟨gp, k * 6, none⟩ _ (.inl rfl)).set ⟨gp, k * 6 + 1, none⟩ _ (.inl rfl)).set ⟨gp, k * 6 + 2, none⟩ _ (.inl rfl)).set ⟨gp, k * 6 + 3, none⟩ _ (.inl rfl)).set ⟨gp, k * 6 + 4, none⟩ _ (.inl rfl)).set ⟨gp, k * 6 + 5, none⟩ _ (.inl rfl)
  refine ⟨h.r1, h.r2, h.th8, h.ne1, h.ne2, h.ne3, h.own.but hb (Ne.symm h.ne2), let ⟨S, a, b, c⟩ := h.sls; ⟨S, a, b.but hb h.ne3, c⟩, ?_⟩
  obtain ⟨S, a, b, c⟩ := h.pts
  refine ⟨_, by simpa using a, (((((b.set_ _ _).set_ _ _).set_ _ _).set_ _ _).set_ _ _).set_ _ _, fun j hj => ?_⟩
  obtain ⟨c0, c1, c2, c3, c4, c5⟩ := c j hj
  by_cases e : j = k
  · subst e
    rw [updP_same]
    refine ⟨?_, ?_, ?_, ?_, ?_, ?_⟩
    · rw [arr_other (by omega), arr_other (by omega), arr_other (by omega), arr_other (by omega), arr_other (by omega), arr_same (by omega)]
    · rw [arr_other (by omega), arr_other (by omega), arr_other (by omega), arr_other (by omega), arr_same (by simp; omega)]
    · rw [arr_other (by omega), arr_other (by omega), arr_other (by omega), arr_same (by simp; omega)]
    · rw [arr_other (by omega), arr_other (by omega), arr_same (by simp; omega)]
    · rw [arr_other (by omega), arr_same (by simp; omega)]
    · rw [arr_same (by simp; omega)]
  · rw [updP_other _ _ e]
    refine ⟨?_, ?_, ?_, ?_, ?_, ?_⟩
    · rw [arr_other (by omega), arr_other (by omega), arr_other (by omega), arr_other (by omega), arr_other (by omega), arr_other (by omega)]; exact c0
    · rw [arr_other (by omega), arr_other (by omega), arr_other (by omega), arr_other (by omega), arr_other (by omega), arr_other (by omega)]; exact c1
    · rw [arr_other (by omega), arr_other (by omega), arr_other (by omega), arr_other (by omega), arr_other (by omega), arr_other (by omega)]; exact c2
    · rw [arr_other (by omega), arr_other (by omega), arr_other (by omega), arr_other (by omega), arr_other (by omega), arr_other (by omega)]; exact c3
    · rw [arr_other (by omega), arr_other (by omega), arr_other (by omega), arr_other (by omega), arr_other (by omega), arr_other (by omega)]; exact c4
    · rw [arr_other (by omega), arr_other (by omega), arr_other (by omega), arr_other (by omega), arr_other (by omega), arr_other (by omega)]; exact c5
end
end Go.Proofs.Ytfejimlfnelhhaa
