/- A drawn region of three calls and three new sets (BubbleMasks, layer 13): what holds of it, whatever has come up. -/
import Derived.Test.YtekahmfchpgmfaaYv
import Derived.Test.YtekahmfchpgmfaaZj
import Derived.RegionTactic
namespace Go.Proofs.Ytekahmfchpgmfaa
open Go.RowKit
set_option maxRecDepth 100000

section
variable {P : Program} {ops : Array Oper} {md : Region.Mode}
/-- An operation has come up. -/
def OnL (L : Array Bool) (k : Nat) : Prop := L[k]? = some true
theorem onL_set {L : Array Bool} {i k : Nat} (h : OnL (L.setIfInBounds i true) k) : k = i ∨ OnL L k := by
  unfold OnL at *
  rw [Array.getElem?_setIfInBounds] at h
  by_cases e : i = k
  · exact .inl e.symm
  · rw [if_neg e] at h; exact .inr h
theorem onL_mono {L : Array Bool} {i k : Nat} (h : OnL L k) : OnL (L.setIfInBounds i true) k := by
  unfold OnL at *
  rw [Array.getElem?_setIfInBounds]
  by_cases e : i = k
  · subst e
    rw [if_pos rfl, if_pos (Array.getElem?_eq_some_iff.1 h).1]
  · rw [if_neg e]; exact h
theorem ready_not {L : Array Bool} {i : Nat} (h : i ∈ Region.ready md ops L) : ¬ OnL L i := fun q => by
  have := (mem_ready.1 h).1
  unfold OnL at q
  rw [Array.getD_eq_getD_getElem?, q] at this; cases this
theorem ready_lt {L : Array Bool} {i : Nat} (h : i ∈ Region.ready md ops L) : i < ops.size := by
  obtain ⟨_, o, ho, _⟩ := mem_ready.1 h
  exact (Array.getElem?_eq_some_iff.1 ho).1
/-- What must have come up ahead of it. -/
theorem ready_dep {L : Array Bool} {i : Nat} (h : i ∈ Region.ready md ops L) (k : Nat) (hd : (ops[i]?.map fun o => o.after.toList.any fun e => e.on == k && Region.binds md e) = some true) : OnL L k := by
  obtain ⟨_, o, ho, ha⟩ := mem_ready.1 h
  rw [ho] at hd
  simp only [Option.map_some, Option.some.injEq, List.any_eq_true, Bool.and_eq_true, beq_iff_eq] at hd
  obtain ⟨e, he, rfl, hb⟩ := hd
  have := ha e (by simpa using he) hb
  unfold OnL
  rw [Array.getD_eq_getD_getElem?] at this
  cases hq : L[e.on]? with
  | none => rw [hq] at this; cases this
  | some b => rw [hq] at this; exact congrArg some this
theorem ready_all {L : Array Bool} (hs : L.size = ops.size) (hr : Region.ready md ops L = [])
    (hd : ((List.range ops.size).all fun k => (ops[k]?.map fun o => o.after.all fun e => !(Region.binds md e) || decide (e.on < k)).getD false) = true) : ∀ k, k < ops.size → OnL L k := by
  intro k
  induction k using Nat.strongRecOn with
  | _ k ih =>
    intro hk
    have h1 := List.all_eq_true.1 hd k (List.mem_range.2 hk)
    obtain ⟨o, ho⟩ : ∃ o, ops[k]? = some o := ⟨_, Array.getElem?_eq_getElem hk⟩
    rw [ho] at h1
    simp only [Option.map_some, Option.getD_some, Array.all_eq_true_iff_forall_mem] at h1
    by_cases hon : OnL L k
    · exact hon
    · exfalso
      have hm : k ∈ Region.ready md ops L := by
        refine mem_ready.2 ⟨?_, o, ho, fun e he hb => ?_⟩
        · have hkl : k < L.size := by omega
          rw [Array.getD_eq_getD_getElem?, Array.getElem?_eq_getElem hkl]
          unfold OnL at hon
          rw [Array.getElem?_eq_getElem hkl] at hon
          cases hb : L[k] with
          | false => rfl
          | true => rw [hb] at hon; exact absurd rfl hon
        · have := h1 e he
          rw [hb] at this
          have hlt : e.on < k := by simpa using this
          have := ih e.on hlt (by omega)
          unfold OnL at this
          rw [Array.getD_eq_getD_getElem?, this]; rfl
      rw [hr] at hm; cases hm
theorem wp_region_steps {id : Nat} {a : Act} {w : World} {Q : Exit → Act → World → Prop} {J : Array Bool → Act → World → Prop} (hm : P.follows .mixedOrders = true)
    (h0 : J (Array.replicate ops.size false) a { w with drawn := w.drawn + 1 })
    (hs : ∀ L a w, J L a w → ∀ i o, ops[i]? = some o → i ∈ Region.ready .any ops L → ∀ K' : Act → World → Prop, (∀ a' w', J (L.setIfInBounds i true) a' w' → K' a' w') → if Region.wanted o (yielded ops a.tmps) = true then Oper.wp P o a w K' Q else K' (a.put o.dst undef) w)
    (hd : ∀ L a w, J L a w → (∀ k, k < ops.size → OnL L k) → Q .normal a w) (hz : ∀ L a w, J L a w → L.size = ops.size)
    (ht : ((List.range ops.size).all fun k => (ops[k]?.map fun o => o.after.all fun e => !(Region.binds .any e) || decide (e.on < k)).getD false) = true) : (Code.region id ops true).wp P Q a w :=
  wp_region_inv hm h0 (fun L a w hj i hi => by
    obtain ⟨_, o, ho, _⟩ := mem_ready.1 hi
    exact wpOp_step ho fun K' hK => hs L a w hj i o ho hi K' hK) (fun L a w hj hr => hd L a w hj (ready_all (hz L a w hj) hr ht))
end
/-- A slot turned. -/
def updV (v : Nat → Value) (s : Nat) (x : Value) : Nat → Value := fun k => if k = s then x else v k
theorem updV_same (v : Nat → Value) (s : Nat) (x : Value) : updV v s x s = x := by unfold updV; rw [if_pos rfl]
theorem updV_other (v : Nat → Value) {s k : Nat} (x : Value) (h : k ≠ s) : updV v s x k = v k := by unfold updV; rw [if_neg h]
/-- Where the operations put what they give. -/
def slotM (o : Nat) : Nat := [47, 48, 49, 50, 51, 52, 53, 54, 46, 55, 56, 57].getD o 0
theorem slotM_inj : ∀ o, o < 12 → ∀ p, p < 12 → slotM o = slotM p → o = p := by decide
theorem slotM_lo : ∀ o, o < 12 → 46 ≤ slotM o := by decide
def SetB (w : World) (q : Nat) (p : Nat → Bool) : Prop := w.heap[q]? = some (.cells (cellsOf p) 28 (0, 0))
/-- What holds of the region, whatever has come up: val: what the operations give; T: the third set. -/
structure J10 (w0 : World) (val : Nat → Value) (T : Nat → Bool) (L : Array Bool) (v : Nat → Value) (w : World) : Prop where
  sz : L.size = 18
  bl : Below w0.heap.size w0 w
  pv : ∀ o, o < 12 → OnL L o → v (slotM o) = val o
  al : ∀ o, 12 ≤ o → o < 15 → OnL L o → ∃ q p, v (o - 2) = .pointer (some ⟨q, 0, none⟩) ∧ w0.heap.size ≤ q ∧ SetB w q p ∧ (o = 14 → OnL L 17 → p = T)
  ne : ∀ o p, 12 ≤ o → o < 15 → 12 ≤ p → p < 15 → o ≠ p → OnL L o → OnL L p → v (o - 2) ≠ v (p - 2)
  dp : OnL L 17 → OnL L 14
section
variable {w0 w w' : World} {val : Nat → Value} {T : Nat → Bool} {L : Array Bool} {v : Nat → Value}
theorem SetB.lt {q : Nat} {p : Nat → Bool} (h : SetB w q p) : q < w.heap.size := (Array.getElem?_eq_some_iff.1 h).1
theorem J10.pure (h : J10 w0 val T L v w) {o : Nat} (ho : o < 12) {x : Value} (hx : x = val o) (hb : Below w.heap.size w w') : J10 w0 val T (L.setIfInBounds o true) (updV v (slotM o) x) w' := by
  have hlo := slotM_lo o ho
  refine ⟨by simpa using h.sz, h.bl.trans (hb.mono h.bl.size), fun k hk hon => ?_, fun k h1 h2 hon => ?_, fun k p h1 h2 h3 h4 hne hk hp => ?_, fun hon => ?_⟩
  · by_cases e : k = o
    · subst e; rw [updV_same]; exact hx
    · rw [updV_other _ _ fun q => e (slotM_inj k hk o ho q)]
      rcases onL_set hon with q | q
      · exact absurd q e
      · exact h.pv k hk q
  · have hk : OnL L k := by
      rcases onL_set hon with q | q
      · omega
      · exact q
    obtain ⟨q, p, e, hq, hs, ht⟩ := h.al k h1 h2 hk
    refine ⟨q, p, by rw [updV_other _ _ (by omega)]; exact e, hq, (hb.block q hs.lt).trans hs, fun a b => ht a ?_⟩
    rcases onL_set b with c | c
    · omega
    · exact c
  · rw [updV_other _ _ (by omega), updV_other _ _ (by omega)]
    refine h.ne k p h1 h2 h3 h4 hne ?_ ?_
    · rcases onL_set hk with q | q
      · omega
      · exact q
    · rcases onL_set hp with q | q
      · omega
      · exact q
  · rcases onL_set hon with q | q
    · omega
    · exact onL_mono (h.dp q)
theorem J10.new (h : J10 w0 val T L v w) {o : Nat} (h1 : 12 ≤ o) (h2 : o < 15) (hn : ¬ OnL L o) (p : Nat → Bool) : J10 w0 val T (L.setIfInBounds o true) (updV v (o - 2) (.pointer (some ⟨w.heap.size, 0, none⟩))) (w.alloc (.cells (cellsOf p) 28)) := by
  have hb : Below w.heap.size w (w.alloc (.cells (cellsOf p) 28)) := (Below.refl _ _).alloc (Nat.le_refl _) _
  have lo : ∀ k, k < 12 → slotM k ≠ o - 2 := fun k hk => by have := slotM_lo k hk; omega
  refine ⟨by simpa using h.sz, h.bl.trans (hb.mono h.bl.size), fun k hk hon => ?_, fun k k1 k2 hon => ?_, fun k l k1 k2 l1 l2 hne hk hl => ?_, fun hon => ?_⟩
  · rw [updV_other _ _ (lo k hk)]
    rcases onL_set hon with q | q
    · omega
    · exact h.pv k hk q
  · by_cases e : k = o
    · subst e
      refine ⟨w.heap.size, p, updV_same _ _ _, h.bl.size, heap_alloc_new _ _, fun a b => ?_⟩
      rcases onL_set b with c | c
      · omega
      · exact absurd (a ▸ h.dp c) hn
    · rcases onL_set hon with q | q
      · exact absurd q e
      · obtain ⟨g, r, e1, hg, hs, ht⟩ := h.al k k1 k2 q
        refine ⟨g, r, by rw [updV_other _ _ (by omega)]; exact e1, hg, (hb.block g hs.lt).trans hs, fun a b => ht a ?_⟩
        rcases onL_set b with c | c
        · omega
        · exact c
  · have old : ∀ k, 12 ≤ k → k < 15 → k ≠ o → OnL L k → v (k - 2) ≠ .pointer (some ⟨w.heap.size, 0, none⟩) := fun k k1 k2 ke hk => by
      obtain ⟨g, r, e1, hg, hs, ht⟩ := h.al k k1 k2 hk
      rw [e1]; intro e
      have := hs.lt
      simp only [Value.pointer.injEq, Option.some.injEq, Addr.mk.injEq, and_true] at e; omega
    by_cases e : k = o
    · subst e
      rw [updV_same, updV_other _ _ (by omega)]
      rcases onL_set hl with q | q
      · exact absurd q.symm hne
      · exact fun e => old l l1 l2 (fun q => hne q.symm) q e.symm
    · rcases onL_set hk with q | q
      · exact absurd q e
      · by_cases e2 : l = o
        · subst e2
          rw [updV_same, updV_other _ _ (by omega)]
          exact old k k1 k2 e q
        · rw [updV_other _ _ (by omega), updV_other _ _ (by omega)]
          rcases onL_set hl with r | r
          · exact absurd r e2
          · exact h.ne k l k1 k2 l1 l2 hne q r
  · rcases onL_set hon with q | q
    · omega
    · exact onL_mono (h.dp q)
theorem J10.at_ (h : J10 w0 val T L v w) {o : Nat} (h1 : 12 ≤ o) (h2 : o < 15) (hon : OnL L o) : ∃ q p, v (o - 2) = .pointer (some ⟨q, 0, none⟩) ∧ SetB w q p := by
  obtain ⟨q, p, e, _, hs, _⟩ := h.al o h1 h2 hon
  exact ⟨q, p, e, hs⟩
theorem J10.put (h : J10 w0 val T L v w) {o : Nat} (h1 : 15 ≤ o) (h2 : o < 18) (hon : OnL L (o - 3)) {q : Nat} {p r : Nat → Bool} (hv : v (o - 5) = .pointer (some ⟨q, 0, none⟩)) (hs : SetB w q p) (hr : o = 17 → r = T) : J10 w0 val T (L.setIfInBounds o true) v (w.setRow q (cellsOf r)) := by
  have hq : w0.heap.size ≤ q := by
    obtain ⟨g, s, e, hg, _, _⟩ := h.al (o - 3) (by omega) (by omega) hon
    rw [show o - 3 - 2 = o - 5 by omega, hv] at e
    simp at e; omega
  refine ⟨by simpa using h.sz, below_setRow h.bl hq _, fun k hk on => ?_, fun k k1 k2 on => ?_, fun k l k1 k2 l1 l2 hne hk hl => ?_, fun on => ?_⟩
  · rcases onL_set on with c | c
    · omega
    · exact h.pv k hk c
  · have c : OnL L k := by
      rcases onL_set on with c | c
      · omega
      · exact c
    by_cases e : k = o - 3
    · subst e
      refine ⟨q, r, by rw [show o - 3 - 2 = o - 5 by omega]; exact hv, hq, setRow_heap _ _ _ _ _ _ hs, fun a _ => hr (by omega)⟩
    · obtain ⟨g, s, e1, hg, hs1, ht⟩ := h.al k k1 k2 c
      have hgq : g ≠ q := fun x => by
        subst x
        refine h.ne k (o - 3) k1 k2 (by omega) (by omega) e c hon ?_
        rw [show o - 3 - 2 = o - 5 by omega, hv, e1]
      refine ⟨g, s, e1, hg, (setRow_other w q g _ hgq).trans hs1, fun a b => ?_⟩
      rcases onL_set b with d | d
      · omega
      · exact ht a d
  · refine h.ne k l k1 k2 l1 l2 hne ?_ ?_
    · rcases onL_set hk with c | c
      · omega
      · exact c
    · rcases onL_set hl with c | c
      · omega
      · exact c
  · rcases onL_set on with c | c
    · subst c; exact onL_mono hon
    · exact onL_mono (h.dp c)
theorem J10.done (h : J10 w0 val T L v w) (ha : ∀ k, k < 18 → OnL L k) : Below w0.heap.size w0 w ∧ ∃ q, v 12 = .pointer (some ⟨q, 0, none⟩) ∧ w0.heap.size ≤ q ∧ SetB w q T := by
  obtain ⟨q, p, e, hq, hs, ht⟩ := h.al 14 (by omega) (by omega) (ha 14 (by omega))
  obtain rfl := ht rfl (ha 17 (by omega))
  exact ⟨h.bl, q, e, hq, hs⟩
end
end Go.Proofs.Ytekahmfchpgmfaa
