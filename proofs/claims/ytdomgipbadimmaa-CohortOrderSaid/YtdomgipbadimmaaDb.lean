/- CohortOrder: what is left, counted down in place; both rows cut anew (layer 14). -/
import Derived.Test.YtdomgipbadimmaaDa
import Derived.Laws.OwnMore
namespace Go.Proofs.Ytdomgipbadimmaa
open Go.RowKit
set_option maxRecDepth 100000

/-- The first j counted down. -/
def decJ (j : Nat) (E : List Ent) : List Ent := (E.take j).map decE ++ E.drop j
theorem decJ_zero (E : List Ent) : decJ 0 E = E := by unfold decJ; simp
theorem decJ_all (E : List Ent) : decJ E.length E = E.map decE := by unfold decJ; simp
theorem decJ_len (j : Nat) (E : List Ent) : (decJ j E).length = E.length := by unfold decJ; simp; omega
theorem decJ_split {E : List Ent} {j : Nat} {x : Ent} (hx : E[j]? = some x) : decJ j E = (E.take j).map decE ++ x :: E.drop (j + 1) ∧ decJ (j + 1) E = (E.take j).map decE ++ decE x :: E.drop (j + 1) := by
  obtain ⟨hj, e⟩ := List.getElem?_eq_some_iff.1 hx
  unfold decJ
  constructor
  · rw [List.drop_eq_getElem_cons hj, e]
  · rw [List.take_add_one, hx, List.map_append, List.append_assoc]; rfl
theorem decJ_take {E : List Ent} {j : Nat} (hj : j ≤ E.length) : ((E.take j).map decE).length = j := by simp; omega
theorem cntE_le (s : Int) (l : List Ent) : cntE s l ≤ l.length := by
  induction l with
  | nil => exact Nat.le_refl _
  | cons e l ih => unfold cntE; split <;> simp only [List.length_cons] <;> omega
theorem OrdM.up {w0 W : World} {pb lb k : Nat} {c : Coh} {E : List Ent} {wv lv : Value} (h : OrdM w0 pb lb k c E wv lv W) : OrdM w0 pb lb (k + 1) c E wv lv W := ⟨h.one.up, h.wai, h.lef, h.sep, h.low, h.inv, h.nod, Nat.le_succ_of_le h.len⟩
section
variable {w0 W W' : World} {pb lb k j : Nat} {c : Coh} {E F : List Ent} {wv lv : Value} {x : Ent}
structure OrdG (w0 : World) (pb lb k : Nat) (c : Coh) (E F : List Ent) (wv lv : Value) (W : World) : Prop where
  one : OneP (NotRows w0 wv lv) pb lb c k W
  wai : WaitR w0.heap.size wv E W
  lef : LeftR w0.heap.size lv F W
  sep : ∀ g, wv.ownBlock = some g → lv.ownBlock ≠ some g
  low : Below w0.heap.size w0 W
theorem OrdG.on (h : OrdG w0 pb lb k c E F wv lv W) (hb : Below W.heap.size W W') : OrdG w0 pb lb k c E F wv lv W' :=
  ⟨h.one.nob (But.of_below hb), h.wai.but (X := Nob) (But.of_below hb) fun _ _ q => q, h.lef.but (X := Nob) (But.of_below hb) fun _ _ q => q, h.sep, h.low.trans (hb.mono h.low.size)⟩
/-- One counted down. -/
theorem OrdG.dec (h : OrdG w0 pb lb k c E (decJ j E) wv lv W) (hx : E[j]? = some x) : ∃ g cap, lv = .slice (some ⟨g, 0, none⟩) E.length cap ∧ E.length ≤ cap ∧ W.cell? ⟨g, j, none⟩ = some (.int .i64 x.lft) ∧ W.frozen? ⟨g, j, none⟩ = false ∧ (W.setCell ⟨g, j, none⟩ (.int .i64 (x.lft - 1))).cell? ⟨g, j, none⟩ = some (.int .i64 (x.lft - 1)) ∧ OrdG w0 pb lb k c E (decJ (j + 1) E) wv lv (W.setCell ⟨g, j, none⟩ (.int .i64 (x.lft - 1))) := by
  obtain ⟨hj, -⟩ := List.getElem?_eq_some_iff.1 hx
  obtain ⟨s1, s2⟩ := decJ_split hx
  have hl : LeftR w0.heap.size lv (decJ j E) W := h.lef
  have hl' := hl
  unfold LeftR MineN at hl
  rcases hl.2 with ⟨_, hn⟩ | ⟨g, cap, cur, hv, hg, hh, hcap, _⟩
  · rw [List.length_map, decJ_len] at hn; omega
  · have hlen : ((decJ j E).map (·.lft)).length = E.length := by rw [List.length_map, decJ_len]
    rw [hlen] at hv hl hcap
    subst hv
    have hc := hl.cellAt j (by omega)
    have hf := hl.frozenAt j
    have hst := hl.stored j (.int .i64 (x.lft - 1))
    have ht : ((E.take j).map decE).length = j := decJ_take (by omega)
    have hxs : (numC ((decJ j E).map (·.lft)))[j]? = some (.int .i64 x.lft) := by
      rw [s1]; unfold numC
      rw [List.getElem?_map, List.getElem?_map, List.getElem?_append_right (by omega), ht]; simp
    have hset : (numC ((decJ j E).map (·.lft))).set j (.int .i64 (x.lft - 1)) = numC ((decJ (j + 1) E).map (·.lft)) := by
      rw [s1, s2]; unfold numC
      rw [List.map_append, List.map_append, List.set_append_right _ _ (by rw [List.length_map, List.length_map, ht]; exact Nat.le_refl _), List.map_append, List.map_append]
      congr 1
      rw [List.length_map, List.length_map, ht, Nat.sub_self]; rfl
    rw [hset] at hst
    have hL : LeftR w0.heap.size (.slice (some ⟨g, 0, none⟩) E.length cap) (decJ (j + 1) E) (W.setCell ⟨g, j, none⟩ (.int .i64 (x.lft - 1))) := by
      unfold LeftR MineN
      rw [List.length_map, decJ_len]; exact hst.1
    refine ⟨g, cap, rfl, hcap, by rw [hc]; exact hxs, hf, ?_, ?_⟩
    · have := hst.1.cellAt j (by omega)
      rw [this, s2]; unfold numC
      rw [List.getElem?_map, List.getElem?_map, List.getElem?_append_right (by omega), ht]; simp [decE]
    · have hb : But (fun x => x = g) W (W.setCell ⟨g, j, none⟩ (.int .i64 (x.lft - 1))) := (But.refl _ _).grown hst.2 fun q e => by cases e; exact .inl rfl
      exact ⟨h.one.far hb (fun q => q.2.2 rfl), h.wai.but hb (fun q hq e => h.sep q hq (by rw [e]; rfl)), hL, h.sep, h.low.trans (hb.below (B := w0.heap.size) h.low.size fun _ _ q => by rw [q]; exact hg)⟩
/-- Where nobody has it next, nobody waits. -/
theorem nogo_nil (h : OInv c E) (hg : goesC c = false) : E = [] := by
  cases E with
  | nil => rfl
  | cons e l =>
    exfalso
    obtain ⟨r, hr, hs, _⟩ := h.row (e := e) (by simp)
    unfold goesC at hg
    simp only [Bool.or_eq_false_iff, decide_eq_false_iff_not] at hg
    by_cases q : r.1 = c.soc
    · rcases idxR_split (ofR c.soc) c.rnd 0 with ⟨_, hno⟩ | ⟨A, r', C, _, e', _⟩
      · have := hno r hr
        unfold ofR at this
        exact absurd q (by simpa using this)
      · have h1 := hg.1
        unfold ownI at h1; rw [e'] at h1; omega
    · rcases idxR_split (notR c.soc) c.rnd 0 with ⟨_, hno⟩ | ⟨A, r', C, _, e', _⟩
      · have := hno r hr
        unfold notR at this
        exact q (by simpa using this)
      · have h1 := hg.2
        unfold othI at h1; rw [e'] at h1; omega
/-- Where the told one stands. -/
theorem told_at {E1 E2 : List Ent} {e : Ent} (hE : E = E1 ++ e :: E2) (hn : (E.map (·.tsk)).Nodup) (hs : ∀ f ∈ E1, f.soc ≠ e.soc) : E[E1.length]? = some e ∧ (∀ j x, E[j]? = some x → x.tsk = e.tsk → j = E1.length) ∧ (∀ j x, j < E1.length → E[j]? = some x → x.soc ≠ e.soc) ∧ E1.length < E.length := by
  have h0 : E[E1.length]? = some e := by rw [hE]; simp
  refine ⟨h0, fun j x hx ht => ?_, fun j x hj hx => ?_, by rw [hE]; simp⟩
  · refine (List.getElem?_inj (l := E.map (·.tsk)) (by simpa using (List.getElem?_eq_some_iff.1 hx).1) hn).1 ?_
    rw [List.getElem?_map, List.getElem?_map, hx, h0]
    simp [ht]
  · rw [hE, List.getElem?_append_left hj] at hx
    exact hs x (List.mem_of_getElem? hx)
/-- Its slice: it has a block, where it has anybody. -/
theorem WaitR.form {B : Nat} {v : Value} (h : WaitR B v E W) (hne : 0 < E.length) : ∃ g cap, v = .slice (some ⟨g, 0, none⟩) E.length cap ∧ E.length ≤ cap ∧ g < W.heap.size := by
  have hc := h
  rcases h.2 with ⟨rfl, hn⟩ | ⟨g, cap, cur, rfl, hg, hh, hcap, _⟩
  · omega
  · exact ⟨g, cap, rfl, hcap, (World.ownsRow.lt hc g rfl).2⟩
theorem WaitR.at {B g cap n i : Nat} (h : WaitR B (.slice (some ⟨g, 0, none⟩) n cap) E W) {e : Ent} (hx : E[i]? = some e) : W.cell? ⟨g, i * 2, none⟩ = some (.int .i64 e.tsk) ∧ W.cell? ⟨g, i * 2 + 1, none⟩ = some (.int .i64 e.soc) := by
  obtain ⟨A, cap', hv, -, hc⟩ := h.cells
  simp only [Value.slice.injEq] at hv
  obtain ⟨rfl, rfl, rfl⟩ := hv
  obtain ⟨g', e', a, b, _⟩ := hc i e hx
  cases e'
  exact ⟨a, b⟩
end
end Go.Proofs.Ytdomgipbadimmaa
