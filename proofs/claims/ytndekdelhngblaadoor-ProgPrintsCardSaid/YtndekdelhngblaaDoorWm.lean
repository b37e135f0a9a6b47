/- A row of bytes of the call's own whose mark (if it has one) lies behind its end, as a conversion of a string leaves it: a string appended to it. -/
import Derived.Test.YtndekdelhngblaaDoorWq
import Derived.Lib.AppendStr
import Derived.Lib.ConvBytes
import Derived.Lib.AtoiErrMem
import Derived.Laws.CopyRow
import Derived.Laws.Tables
import Derived.Laws.IdiomStrings
import Derived.Lib.BufferRead
namespace Go.Proofs.YtndekdelhngblaaDoor
open Go.RowKit

theorem infoByte : (Tryd.prog.info? 5).map (fun i => (i.zero, i.size, i.bytes)) = some (some (.int .u8 0), 1, 1) := by kernel_rfl
/-- Bytes of the call's own, from block B on; the mark lies behind the row's end. -/
def MkB (B : Nat) (v : Value) (l : List UInt8) (w : World) : Prop :=
  ∃ (g cap : Nat) (cur : Array Value) (lo hi : Nat), v = .slice (some ⟨g, 0, none⟩) l.length cap ∧ B ≤ g ∧ w.heap[g]? = some (.cells cur 5 (lo, hi)) ∧ (hi = 0 ∨ cur.size ≤ lo) ∧ cap ≤ maxLen ∧ l.length ≤ cap ∧ cur.size = cap ∧ cur.toList.take l.length = Lib.byteCells l
section
variable {B : Nat} {v : Value} {l : List UInt8} {w w' : World}
theorem MkB.lt (h : MkB B v l w) : ∀ k, v.ownBlock = some k → B ≤ k ∧ k < w.heap.size := by
  obtain ⟨g, cap, cur, lo, hi, rfl, hg, hh, _⟩ := h
  intro k hk
  obtain rfl : g = k := by simpa [Value.ownBlock] using hk
  exact ⟨hg, (Array.getElem?_eq_some_iff.1 hh).1⟩
theorem MkB.below (h : MkB B v l w) (hb : Below w.heap.size w w') : MkB B v l w' := by
  obtain ⟨g, cap, cur, lo, hi, e, hg, hh, r⟩ := h
  exact ⟨g, cap, cur, lo, hi, e, hg, (hb.block g (Array.getElem?_eq_some_iff.1 hh).1).trans hh, r⟩
theorem MkB.cell (h : MkB B v l w) : ∃ g cap, v = .slice (some ⟨g, 0, none⟩) l.length cap ∧ ∀ j (hj : j < l.length), w.cell? ⟨g, j, none⟩ = some (.int .u8 (l[j].toNat : Int)) := by
  obtain ⟨g, cap, cur, lo, hi, e, hg, hh, _, _, _, _, ht⟩ := h
  refine ⟨g, cap, e, fun j hj => ?_⟩
  rw [cell_of_row w g j cur _ _ hh]
  have q : (cur.toList.take l.length)[j]? = (Lib.byteCells l)[j]? := by rw [ht]
  rw [List.getElem?_take, if_pos hj] at q
  rw [← Array.getElem?_toList, q]; simp [Lib.byteCells, hj]
end
theorem free_off {w : World} {g : Nat} {cur : Array Value} {t : TypeId} {lo hi j : Nat} (hg : w.heap[g]? = some (.cells cur t (lo, hi))) (hm : hi = 0 ∨ cur.size ≤ lo) (hj : j < cur.size) : w.frozen? ⟨g, j, none⟩ = false := by
  unfold World.frozen?
  rw [hg]
  rcases hm with rfl | hm
  · simp
  · simp; intro; omega
/-- Values stored one behind the other into such a row. -/
theorem stores_off (P : Program) (g o : Nat) (t : TypeId) (lo hi : Nat) : ∀ (vs : List Value) (i : Nat) (cur : Array Value) (w : World), w.heap[g]? = some (.cells cur t (lo, hi)) → (hi = 0 ∨ cur.size ≤ lo) → o + i + vs.length ≤ cur.size → (∀ v ∈ vs, v.oneCell' = true) →
    ∃ cs : Array Value, (storeCells ⟨g, o, none⟩ vs i).run P w = .ok () (w.setRow g cs) ∧ cs.toList = cur.toList.take (o + i) ++ vs ++ cur.toList.drop (o + i + vs.length) := by
  intro vs
  induction vs with
  | nil =>
    intro i cur w hg _ _ _
    exact ⟨cur, by rw [setRow_self w g cur t (lo, hi) hg]; rfl, by simp⟩
  | cons v rest ih =>
    intro i cur w hg hm hl h1
    rw [List.length_cons] at hl
    have hlt : o + i < cur.size := by omega
    obtain ⟨cs, h2, h3⟩ := ih (i + 1) (cur.setIfInBounds (o + i) v) (w.setRow g (cur.setIfInBounds (o + i) v)) (setRow_heap w g cur _ t _ hg) (by simpa using hm) (by simp; omega) (fun x hx => h1 x (List.mem_cons_of_mem _ hx))
    refine ⟨cs, ?_, ?_⟩
    · have ha : (⟨g, o, none⟩ : Addr).add i = ⟨g, o + i, none⟩ := by unfold Addr.add; split <;> simp_all
      have hs : (store ((⟨g, o, none⟩ : Addr).add i) v).run P w = .ok () (w.setRow g (cur.setIfInBounds (o + i) v)) := by
        rw [ha, run_store P w _ v _ (h1 v (by simp)), cell_of_row w g _ cur t _ hg, Array.getElem?_eq_getElem hlt]
        simp [free_off hg hm hlt, setCell_eq_setRow w g (o + i) cur t (lo, hi) v hg]
      simp only [storeCells, Sem.run_bind, hs, Result.andThen_ok, h2, setRow_setRow]
    · rw [h3, Array.toList_setIfInBounds, ← Nat.add_assoc, list_seg_step cur.toList (o + i) v rest (by simpa using (by omega : o + i + (rest.length + 1) ≤ cur.size))]
      simp [Nat.add_assoc]
theorem run_app_off {w : World} {B : Nat} {v : Value} {l : List UInt8} (ty : TypeId) (s : List UInt8) (h : MkB B v l w) (hl : l.length + s.length ≤ 1000000) (hB : B ≤ w.heap.size) :
    ∃ v' w', (Builtin.append_ #[43, 9] ty #[v, .string ⟨s.toArray⟩]).run Tryd.prog w = .ok v' w' ∧ MkB B v' (l ++ s) w' ∧ w.grownBy w' v.ownBlock := by
  obtain ⟨i0, hi0, hz0, hz1, hz2⟩ := info_parts infoByte
  have hc := h.cell
  obtain ⟨g, cap, cur, lo, hi, rfl, hg, hh, hm, hcm, hlc, hcs, ht⟩ := h
  have hss : (⟨s.toArray⟩ : ByteArray).size = s.length := by simp [ByteArray.size]
  have hsc : Lib.strCells ⟨s.toArray⟩ = Lib.byteCells s := by simp [Lib.strCells, Lib.byteCells]
  have hbl : (Lib.byteCells s).length = s.length := by simp [Lib.byteCells]
  have hll : (Lib.byteCells l).length = l.length := by simp [Lib.byteCells]
  have happ : Lib.byteCells l ++ Lib.byteCells s = Lib.byteCells (l ++ s) := by simp [Lib.byteCells]
  by_cases hroom : l.length + s.length ≤ cap
  · have hf := Lib.run_firstCells_string (P := Tryd.prog) w 1 ⟨s.toArray⟩
    obtain ⟨cs, hst, hcl⟩ := stores_off Tryd.prog g l.length 5 lo hi (Lib.strCells ⟨s.toArray⟩) 0 cur w hh hm (by rw [hsc, hbl]; omega) (Lib.strCells_oneCell ⟨s.toArray⟩)
    rw [hsc] at hst hcl hf
    rw [hss] at hf
    simp only [Nat.add_zero, hbl] at hcl
    refine ⟨.slice (some ⟨g, 0, none⟩) (l.length + s.length) cap, w.setRow g cs, ?_, ⟨g, cap, cs, lo, hi, by rw [List.length_append], hg, setRow_heap w g cur _ _ _ hh, ?_, hcm, by rw [List.length_append]; exact hroom, ?_, ?_⟩, ⟨rfl, rfl, rfl, by simp, fun k _ hk => setRow_other w g k _ (fun e => hk (by simp [Value.ownBlock, e]))⟩⟩
    · simp [Builtin.append_, run_underlying Tryd.underlying43, run_underlying Tryd.underlying9, sizeOf, typeInfo, hi0, hz1, Builtin.lenOf, hss, hroom, hf, Addr.add_lit, hst]
    · have : cs.size = cur.size := by
        rw [← Array.length_toList, hcl]; simp [hbl]; omega
      rw [this]; exact hm
    · rw [← Array.length_toList, hcl]; simp [hbl]; omega
    · rw [hcl, ht, ← happ, ← hll, ← hbl, List.length_append, hll, hbl, ← hll, ← hbl, ← List.length_append, List.take_left]
  · have holds : ∀ j u, (Lib.byteCells l)[j]? = some u → w.cell? ((⟨g, 0, none⟩ : Addr).add j) = some u := by
      intro j u hu
      have hj : j < l.length := by
        have := (List.getElem?_eq_some_iff.1 hu).1; rwa [hll] at this
      obtain ⟨g', cap', e, hc⟩ := hc
      cases e
      have ha : (⟨g, 0, none⟩ : Addr).add j = ⟨g, j, none⟩ := by unfold Addr.add; split <;> simp_all
      rw [ha, hc j hj, ← hu]; simp [Lib.byteCells, hj]
    have hr := Lib.run_append_grow_string (P := Tryd.prog) w 43 9 ty 5 i0 (.int .u8 0) Tryd.underlying43 Tryd.underlying9 hi0 hz0 ⟨g, 0, none⟩ l.length cap (Lib.byteCells l) (by rw [hz1, hll]; omega) holds ⟨s.toArray⟩ (by rw [hss]; omega) (by rw [hss]; omega) (by rw [hz2]; exact growslice_fits (by rw [hss]; omega) (by rw [hss]; omega))
    rw [hss, hsc] at hr
    have hge := grownCap_ge w (l.length + s.length) cap 5
    have hcm2 : grownCap w (l.length + s.length) cap 5 ≤ maxLen := grownCap_le_maxLen w _ cap _ (by unfold maxLen; omega)
    refine ⟨_, _, hr, ⟨w.heap.size, _, _, 0, 0, by rw [List.length_append], hB, heap_alloc_new w.drew _, .inl rfl, hcm2, by rw [List.length_append]; exact hge, ?_, ?_⟩, ⟨rfl, rfl, rfl, by simp, fun k hk _ => heap_alloc_old w.drew _ hk⟩⟩
    · have hz3 : (Value.int IntKind.u8 0).cells.size = 1 := rfl
      simp only [Array.size_append, List.size_toArray, size_zeroCells, hz3, hll, hbl]
      omega
    · simp only [Array.toList_append, List.append_assoc]
      rw [← List.append_assoc, happ, show (l ++ s).length = (Lib.byteCells (l ++ s)).length by simp [Lib.byteCells]]
      exact List.take_left
theorem app_off {ops : Array Oper} {rest : List Oper} {o : Oper} {a : Act} {w : World} {Q : Exit → Act → World → Prop} (hgd : o.guard = none) (sl x : Operand)
    (ho : o.op = .call { callee := .builtin .append, args := #[sl, x], argTypes := #[43, 9] })
    {B : Nat} {v : Value} {l : List UInt8} (hs : a.eval sl = v) (h : MkB B v l w) (s : List UInt8) (hx : a.eval x = .string ⟨s.toArray⟩) (hl : l.length + s.length ≤ 1000000) (hB : B ≤ w.heap.size)
    (k : ∀ v' w', MkB B v' (l ++ s) w' → w.grownBy w' v.ownBlock → wpList Tryd.prog ops Q rest (a.put o.dst v') w') : wpList Tryd.prog ops Q (o :: rest) a w := by
  refine wpList_plain hgd fun K hK => ?_
  obtain ⟨v', w', hr, h2, h3⟩ := run_app_off o.type s h hl hB
  unfold Oper.wp execOp
  simp only [ho, resolve, invoke, builtin, Sem.run_bind, Sem.run_pure, Result.andThen_ok, List.map_toArray, List.map_cons, List.map_nil, hs, hx, hr]
  exact hK _ _ (k v' w' h2 h3)
theorem mkB_world (w : World) (l : List UInt8) (hl : l.length ≤ 100000) : MkB w.heap.size (.slice (some ⟨w.heap.size, 0, none⟩) l.length (grownCap w l.length 0 5)) l (Lib.bytesWorld w 5 ⟨l.toArray⟩) ∧ Below w.heap.size w (Lib.bytesWorld w 5 ⟨l.toArray⟩) := by
  have hs : (⟨l.toArray⟩ : ByteArray).size = l.length := by simp [ByteArray.size]
  have hge := grownCap_ge w l.length 0 5
  have hcm := grownCap_le_maxLen w l.length 0 5 (by unfold maxLen; omega)
  refine ⟨⟨w.heap.size, _, _, _, _, rfl, Nat.le_refl _, Lib.bytesWorld_at_new w 5 ⟨l.toArray⟩, .inr (Nat.le_refl _), hcm, hge, ?_, ?_⟩, Lib.bytesWorld_below _ _ _⟩
  · unfold Lib.bytesCells; simp only [Array.size_append, Array.size_map, Array.size_replicate, hs, List.size_toArray]; omega
  · unfold Lib.bytesCells; simp [Lib.byteCells]
set_option maxRecDepth 100000 in
theorem conv_new (w : World) (l : List UInt8) : (convert 9 43 (.string ⟨l.toArray⟩)).run Tryd.prog w = .ok (.slice (some ⟨w.heap.size, 0, none⟩) l.length (grownCap w l.length 0 5)) (Lib.bytesWorld w 5 ⟨l.toArray⟩) := by
  have h := Lib.run_convert_string_bytes (P := Tryd.prog) w 9 43 5 ⟨l.toArray⟩ Tryd.underlying9 Tryd.underlying43 Tryd.underlying5
  have hs : (⟨l.toArray⟩ : ByteArray).size = l.length := by simp [ByteArray.size]
  rwa [hs] at h
theorem conv_back {w : World} {B : Nat} {v : Value} {l : List UInt8} (h : MkB B v l w) : (convert 43 9 v).run Tryd.prog w = .ok (.string ⟨l.toArray⟩) w := by
  obtain ⟨g, cap, rfl, hc⟩ := h.cell
  refine run_convert_bytes_back w _ _ _ ⟨g, 0, none⟩ cap l Tryd.underlying43 Tryd.underlying5 Tryd.underlying9 fun j hj => ?_
  have ha : (⟨g, 0, none⟩ : Addr).add j = ⟨g, j, none⟩ := by unfold Addr.add; split <;> simp_all
  rw [ha]; exact hc j hj
end Go.Proofs.YtndekdelhngblaaDoor
