/- The document's lock: its words in memory; its step, plainly. -/
import Derived.Test.YtckdabokaelnoaaMs
namespace Go.Proofs.Ytckdabokaelnoaa
open Go.RowKit

/-- The document's words. -/
structure Rf where
  tail : Int
  nx : Nat → Int
  wt : Nat → Bool
  st : Nat → Int
  ps : Nat → Int
  ox : Nat → Int
def IntsB (g n : Nat) (f : Nat → Int) (w : World) : Prop := ∃ S : Array Value, n ≤ S.size ∧ (∀ k, k < n → S[k]? = some (.int .i64 (f k))) ∧ Blk w g 3 S
def BolsB (g n : Nat) (f : Nat → Bool) (w : World) : Prop := ∃ S : Array Value, n ≤ S.size ∧ (∀ k, k < n → S[k]? = some (.bool (f k))) ∧ Blk w g 4 S
section
variable {g n : Nat} {f : Nat → Int} {p : Nat → Bool} {w w' : World}
theorem IntsB.but {X : Nat → Prop} (h : IntsB g n f w) (hb : But X w w') (hx : ¬ X g) : IntsB g n f w' := let ⟨S, a, c, d⟩ := h; ⟨S, a, c, d.but hb hx⟩
theorem BolsB.but {X : Nat → Prop} (h : BolsB g n p w) (hb : But X w w') (hx : ¬ X g) : BolsB g n p w' := let ⟨S, a, c, d⟩ := h; ⟨S, a, c, d.but hb hx⟩
theorem IntsB.at_ (h : IntsB g n f w) {k : Nat} (hk : k < n) : w.cell? ⟨g, k, none⟩ = some (.int .i64 (f k)) := let ⟨_, _, c, d⟩ := h; (d.cell _).trans (c k hk)
theorem BolsB.at_ (h : BolsB g n p w) {k : Nat} (hk : k < n) : w.cell? ⟨g, k, none⟩ = some (.bool (p k)) := let ⟨_, _, c, d⟩ := h; (d.cell _).trans (c k hk)
theorem IntsB.free (h : IntsB g n f w) (k : Nat) : w.frozen? ⟨g, k, none⟩ = false := let ⟨_, _, _, d⟩ := h; d.free k
theorem BolsB.free (h : BolsB g n p w) (k : Nat) : w.frozen? ⟨g, k, none⟩ = false := let ⟨_, _, _, d⟩ := h; d.free k
theorem IntsB.lt (h : IntsB g n f w) : g < w.heap.size := let ⟨_, _, _, d⟩ := h; d.lt
theorem BolsB.lt (h : BolsB g n p w) : g < w.heap.size := let ⟨_, _, _, d⟩ := h; d.lt
theorem IntsB.set_ (h : IntsB g n f w) {k : Nat} (hk : k < n) (v : Int) : IntsB g n (updF f k v) (w.setCell ⟨g, k, none⟩ (.int .i64 v)) := by
  obtain ⟨S, s, a, c⟩ := h
  refine ⟨_, by simpa using s, fun j hj => ?_, c.set_ k _⟩
  by_cases e : j = k
  · subst e; rw [updF_same, arr_same (by omega)]
  · rw [updF_other _ _ e, arr_other (fun x => e x.symm)]; exact a j hj
theorem BolsB.set_ (h : BolsB g n p w) {k : Nat} (hk : k < n) (v : Bool) : BolsB g n (updF p k v) (w.setCell ⟨g, k, none⟩ (.bool v)) := by
  obtain ⟨S, s, a, c⟩ := h
  refine ⟨_, by simpa using s, fun j hj => ?_, c.set_ k _⟩
  by_cases e : j = k
  · subst e; rw [updF_same, arr_same (by omega)]
  · rw [updF_other _ _ e, arr_other (fun x => e x.symm)]; exact a j hj
end
/-- The document's lock in memory: a box, five rows. -/
structure RefM (rb gn gw gs ga gx n : Nat) (R : Rf) (w : World) : Prop where
  box : ∃ c, n ≤ c ∧ Blk w rb 93 #[.int .i64 R.tail, .slice (some ⟨gn, 0, none⟩) n c, .slice (some ⟨gw, 0, none⟩) n n, .slice (some ⟨gs, 0, none⟩) n n, .slice (some ⟨ga, 0, none⟩) n n, .slice (some ⟨gx, 0, none⟩) n n]
  nx : IntsB gn n R.nx w
  wt : BolsB gw n R.wt w
  st : IntsB gs n R.st w
  ps : IntsB ga n R.ps w
  ox : IntsB gx n R.ox w
  a1 : gn ≠ rb ∧ gw ≠ rb ∧ gs ≠ rb ∧ ga ≠ rb ∧ gx ≠ rb
  a2 : gw ≠ gn ∧ gs ≠ gn ∧ ga ≠ gn ∧ gx ≠ gn
  a3 : gs ≠ gw ∧ ga ≠ gw ∧ gx ≠ gw
  a4 : ga ≠ gs ∧ gx ≠ gs
  a5 : gx ≠ ga
def OwnX (rb gn gw gs ga gx : Nat) : Nat → Prop := fun j => j = rb ∨ j = gn ∨ j = gw ∨ j = gs ∨ j = ga ∨ j = gx
section
variable {rb gn gw gs ga gx n : Nat} {R : Rf} {w w' : World}
theorem RefM.but {X : Nat → Prop} (h : RefM rb gn gw gs ga gx n R w) (hb : But X w w') (hx : ∀ k, OwnX rb gn gw gs ga gx k → ¬ X k) : RefM rb gn gw gs ga gx n R w' := by
  obtain ⟨c, hc, hB⟩ := h.box
  exact ⟨⟨c, hc, hB.but hb (hx _ (.inl rfl))⟩, h.nx.but hb (hx _ (.inr (.inl rfl))), h.wt.but hb (hx _ (.inr (.inr (.inl rfl)))), h.st.but hb (hx _ (.inr (.inr (.inr (.inl rfl))))), h.ps.but hb (hx _ (.inr (.inr (.inr (.inr (.inl rfl)))))),
    h.ox.but hb (hx _ (.inr (.inr (.inr (.inr (.inr rfl)))))), h.a1, h.a2, h.a3, h.a4, h.a5⟩
theorem RefM.drew (h : RefM rb gn gw gs ga gx n R w) : RefM rb gn gw gs ga gx n R w.drew := h.but ((But.refl Nob w).drew) (fun _ _ x => x)
theorem RefM.lt (h : RefM rb gn gw gs ga gx n R w) {k : Nat} (hk : OwnX rb gn gw gs ga gx k) : k < w.heap.size := by
  obtain ⟨c, hc, hB⟩ := h.box
  rcases hk with rfl | rfl | rfl | rfl | rfl | rfl
  · exact hB.lt
  · exact h.nx.lt
  · exact h.wt.lt
  · exact h.st.lt
  · exact h.ps.lt
  · exact h.ox.lt
/-- The box's cells. -/
theorem RefM.cells (h : RefM rb gn gw gs ga gx n R w) : ∃ c, n ≤ c ∧ w.cell? ⟨rb, 0, none⟩ = some (.int .i64 R.tail) ∧ w.cell? ⟨rb, 1, none⟩ = some (.slice (some ⟨gn, 0, none⟩) n c) ∧ w.cell? ⟨rb, 2, none⟩ = some (.slice (some ⟨gw, 0, none⟩) n n) ∧
    w.cell? ⟨rb, 3, none⟩ = some (.slice (some ⟨gs, 0, none⟩) n n) ∧ w.cell? ⟨rb, 4, none⟩ = some (.slice (some ⟨ga, 0, none⟩) n n) ∧ w.cell? ⟨rb, 5, none⟩ = some (.slice (some ⟨gx, 0, none⟩) n n) ∧ w.frozen? ⟨rb, 0, none⟩ = false := by
  obtain ⟨c, hc, hB⟩ := h.box
  exact ⟨c, hc, (hB.cell 0), (hB.cell 1), (hB.cell 2), (hB.cell 3), (hB.cell 4), (hB.cell 5), hB.free 0⟩
theorem own_one (w : World) {k : Nat} (hk : OwnX rb gn gw gs ga gx k) (i : Nat) (v : Value) : But (OwnX rb gn gw gs ga gx) w (w.setCell ⟨k, i, none⟩ v) := (But.refl _ w).set ⟨k, i, none⟩ v (.inl hk)
theorem RefM.stail (h : RefM rb gn gw gs ga gx n R w) (v : Int) : RefM rb gn gw gs ga gx n { R with tail := v } (w.setCell ⟨rb, 0, none⟩ (.int .i64 v)) := by
  obtain ⟨c, hc, hB⟩ := h.box
  have b1 := h.a1
  have hb : But (fun j => j = rb) w (w.setCell ⟨rb, 0, none⟩ (.int .i64 v)) := (But.refl _ w).set _ _ (.inl rfl)
  exact ⟨⟨c, hc, hB.set_ 0 _⟩, h.nx.but hb b1.1, h.wt.but hb b1.2.1, h.st.but hb b1.2.2.1, h.ps.but hb b1.2.2.2.1, h.ox.but hb b1.2.2.2.2, h.a1, h.a2, h.a3, h.a4, h.a5⟩
theorem RefM.snx (h : RefM rb gn gw gs ga gx n R w) {k : Nat} (hk : k < n) (v : Int) : RefM rb gn gw gs ga gx n { R with nx := updF R.nx k v } (w.setCell ⟨gn, k, none⟩ (.int .i64 v)) := by
  obtain ⟨c, hc, hB⟩ := h.box
  have b1 := h.a1; have b2 := h.a2
  have hb : But (fun j => j = gn) w (w.setCell ⟨gn, k, none⟩ (.int .i64 v)) := (But.refl _ w).set _ _ (.inl rfl)
  exact ⟨⟨c, hc, hB.but hb (fun e => b1.1 e.symm)⟩, h.nx.set_ hk v, h.wt.but hb b2.1, h.st.but hb b2.2.1, h.ps.but hb b2.2.2.1, h.ox.but hb b2.2.2.2, h.a1, h.a2, h.a3, h.a4, h.a5⟩
theorem RefM.swt (h : RefM rb gn gw gs ga gx n R w) {k : Nat} (hk : k < n) (v : Bool) : RefM rb gn gw gs ga gx n { R with wt := updF R.wt k v } (w.setCell ⟨gw, k, none⟩ (.bool v)) := by
  obtain ⟨c, hc, hB⟩ := h.box
  have b1 := h.a1; have b2 := h.a2; have b3 := h.a3
  have hb : But (fun j => j = gw) w (w.setCell ⟨gw, k, none⟩ (.bool v)) := (But.refl _ w).set _ _ (.inl rfl)
  exact ⟨⟨c, hc, hB.but hb (fun e => b1.2.1 e.symm)⟩, h.nx.but hb (fun e => b2.1 e.symm), h.wt.set_ hk v, h.st.but hb b3.1, h.ps.but hb b3.2.1, h.ox.but hb b3.2.2, h.a1, h.a2, h.a3, h.a4, h.a5⟩
theorem RefM.sst (h : RefM rb gn gw gs ga gx n R w) {k : Nat} (hk : k < n) (v : Int) : RefM rb gn gw gs ga gx n { R with st := updF R.st k v } (w.setCell ⟨gs, k, none⟩ (.int .i64 v)) := by
  obtain ⟨c, hc, hB⟩ := h.box
  have b1 := h.a1; have b2 := h.a2; have b3 := h.a3; have b4 := h.a4
  have hb : But (fun j => j = gs) w (w.setCell ⟨gs, k, none⟩ (.int .i64 v)) := (But.refl _ w).set _ _ (.inl rfl)
  exact ⟨⟨c, hc, hB.but hb (fun e => b1.2.2.1 e.symm)⟩, h.nx.but hb (fun e => b2.2.1 e.symm), h.wt.but hb (fun e => b3.1 e.symm), h.st.set_ hk v, h.ps.but hb b4.1, h.ox.but hb b4.2, h.a1, h.a2, h.a3, h.a4, h.a5⟩
theorem RefM.sps (h : RefM rb gn gw gs ga gx n R w) {k : Nat} (hk : k < n) (v : Int) : RefM rb gn gw gs ga gx n { R with ps := updF R.ps k v } (w.setCell ⟨ga, k, none⟩ (.int .i64 v)) := by
  obtain ⟨c, hc, hB⟩ := h.box
  have b1 := h.a1; have b2 := h.a2; have b3 := h.a3; have b4 := h.a4
  have hb : But (fun j => j = ga) w (w.setCell ⟨ga, k, none⟩ (.int .i64 v)) := (But.refl _ w).set _ _ (.inl rfl)
  exact ⟨⟨c, hc, hB.but hb (fun e => b1.2.2.2.1 e.symm)⟩, h.nx.but hb (fun e => b2.2.2.1 e.symm), h.wt.but hb (fun e => b3.2.1 e.symm), h.st.but hb (fun e => b4.1 e.symm), h.ps.set_ hk v, h.ox.but hb h.a5, h.a1, h.a2, h.a3, h.a4, h.a5⟩
theorem RefM.sox (h : RefM rb gn gw gs ga gx n R w) {k : Nat} (hk : k < n) (v : Int) : RefM rb gn gw gs ga gx n { R with ox := updF R.ox k v } (w.setCell ⟨gx, k, none⟩ (.int .i64 v)) := by
  obtain ⟨c, hc, hB⟩ := h.box
  have b1 := h.a1; have b2 := h.a2; have b3 := h.a3; have b4 := h.a4
  have hb : But (fun j => j = gx) w (w.setCell ⟨gx, k, none⟩ (.int .i64 v)) := (But.refl _ w).set _ _ (.inl rfl)
  exact ⟨⟨c, hc, hB.but hb (fun e => b1.2.2.2.2 e.symm)⟩, h.nx.but hb (fun e => b2.2.2.2 e.symm), h.wt.but hb (fun e => b3.2.2 e.symm), h.st.but hb (fun e => b4.2 e.symm), h.ps.but hb (fun e => h.a5 e.symm), h.ox.set_ hk v, h.a1, h.a2, h.a3, h.a4, h.a5⟩
end
/-- What the document's Step tells, and leaves. -/
def RStQ (rb gn gw gs ga gx n : Nat) (w : World) (a : Bool) (c : Int) (R' : Rf) (e : Ending) (w' : World) : Prop := e = .returned (.tuple #[.bool a, .int .i64 c]) ∧ RefM rb gn gw gs ga gx n R' w' ∧ But (OwnX rb gn gw gs ga gx) w w'
end Go.Proofs.Ytckdabokaelnoaa
