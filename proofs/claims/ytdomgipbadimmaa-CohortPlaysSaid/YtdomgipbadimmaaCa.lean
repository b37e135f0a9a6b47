/- append to a row of tasks, and to a round (layer 14): the run, and a step. -/
import Derived.Test.YtdomgipbadimmaaCt
namespace Go.Proofs.Ytdomgipbadimmaa
open Go.RowKit
set_option maxRecDepth 100000

/-- append at a step of a region, by its run. -/
theorem step_app {ops : Array Oper} {o : Oper} {a : Act} {W : World} {K : Act → World → Prop} {Q : Exit → Act → World → Prop} {E : Prop} (hgd : o.guard = none) (s x : Operand) (t : TypeId) (ho : o.op = .call { callee := .builtin .append, args := #[s, x], argTypes := #[t, t] })
    {v u v' : Value} {W' : World} (hs : a.eval s = v) (hx : a.eval x = u) (hr : (Builtin.append_ #[t, t] o.type #[v, u]).run Try.prog W = .ok v' W') (h : K (a.put o.dst v') W') : if Region.wanted o (yielded ops a.tmps) = true then Oper.wp Try.prog o a W K Q else E := by
  rw [if_pos (by simp [Region.wanted, hgd])]
  unfold Oper.wp
  simp [execOp, ho, resolve, invoke, builtin, hs, hx, hr, Result.andThen]
  exact h
theorem list_app {ops : Array Oper} {rest : List Oper} {o : Oper} {a : Act} {W : World} {Q : Exit → Act → World → Prop} (hgd : o.guard = none) (s x : Operand) (t : TypeId) (ho : o.op = .call { callee := .builtin .append, args := #[s, x], argTypes := #[t, t] })
    {v u v' : Value} {W' : World} (hs : a.eval s = v) (hx : a.eval x = u) (hr : (Builtin.append_ #[t, t] o.type #[v, u]).run Try.prog W = .ok v' W') (h : wpList Try.prog ops Q rest (a.put o.dst v') W') : wpList Try.prog ops Q (o :: rest) a W := by
  refine wpList_plain hgd fun K hK => ?_
  unfold Oper.wp
  simp [execOp, ho, resolve, invoke, builtin, hs, hx, hr, Result.andThen]
  exact hK _ _ h
theorem app_cut_run (W : World) (v : Value) (L : List Int) (hown : CutR 0 v L W) (g1 : Nat) (y : Int) (hb : W.cell? ⟨g1, 0, none⟩ = some (.int .i64 y)) (hl : L.length ≤ 10000) :
    ∀ ty, ∃ v' w', (Builtin.append_ #[55, 55] ty #[v, .slice (some ⟨g1, 0, none⟩) 1 1]).run Try.prog W = .ok v' w' ∧ CutR 0 v' (L ++ [y]) w' ∧ But (RowB v) W w' ∧ ∀ k, RowB v' k → RowB v k ∨ W.heap.size ≤ k := by
  intro ty
  obtain ⟨i0, hi0, hz0, hz1, hz2⟩ := info_parts infoInt
  have hnew : ∀ j u, (numC [y])[j]? = some u → W.cell? ((⟨g1, 0, none⟩ : Addr).add j) = some u := by
    intro j u hu
    match j, hu with
    | 0, hu =>
      have hadd : (⟨g1, 0, none⟩ : Addr).add 0 = ⟨g1, 0, none⟩ := by unfold Addr.add; split <;> simp_all
      rw [hadd, hb]; simpa [numC] using hu
    | j + 1, hu => simp [numC] at hu
  have h1c : ∀ u ∈ numC [y], u.oneCell' = true := by intro u hu; simp [numC] at hu; rcases hu with rfl; rfl
  have grow : ∀ v' w', w'.ownsRow W.heap.size 3 1 v' (L.length + 1) (numC L ++ numC [y]) → W.grownBy w' none → CutR 0 v' (L ++ [y]) w' ∧ But (RowB v) W w' ∧ ∀ k, RowB v' k → RowB v k ∨ W.heap.size ≤ k := by
    intro v' w' own gr
    have := own_cut (L := L ++ [y]) (Nat.zero_le W.heap.size) (by rw [List.length_append, show numC (L ++ [y]) = numC L ++ numC [y] by simp [numC]]; exact own) (by simp)
    exact ⟨this.1, (But.refl _ W).grown gr (fun k e => by cases e), fun k hk => .inr (this.2 k hk)⟩
  rcases hown with ⟨rfl, rfl⟩ | ⟨b, off, cap, cs, rfl, hlc, hBb, hk, hsz, hc⟩
  · obtain ⟨v', w', hrun, r1, r2, _⟩ := run_append_own (P := Try.prog) W W.heap.size 55 ty 3 i0 _ 1 8 Try.underlying55 hi0 hz0 hz1 hz2 rfl (by decide) (.slice none 0 0) 0 [] (World.ownsRow_nil W _ _ _) ⟨g1, 0, none⟩ 1 1 (numC [y]) rfl hnew h1c (by unfold maxLen; omega) (by omega) (Nat.le_refl _)
    have r2' : W.grownBy w' none := r2
    exact ⟨v', w', hrun, grow v' w' r1 r2'⟩
  · by_cases hr : L.length + 1 ≤ cap
    · have hrun := run_append_room_cells (P := Try.prog) (w := W) 55 ty 3 i0 Try.underlying55 hi0 b off L.length cap ⟨g1, 0, none⟩ 1 1 (numC [y]) (by rw [hz1]; rfl) hnew h1c hr (fun j hj => by
        have hj0 : j = 0 := by simp [numC] at hj; exact hj
        subst hj0
        rw [hz1, hk.cell, Array.getElem?_eq_getElem (by omega)]; rfl) (fun j hj => hk.free _)
      rw [hz1] at hrun
      refine ⟨_, _, hrun, ?_, ?_, fun k hk' => .inl (by obtain ⟨_, _, _, e⟩ := hk'; cases e; exact ⟨_, _, _, rfl⟩)⟩
      · refine .inr ⟨b, off, cap, cs.setIfInBounds (off + L.length) (.int .i64 y), by simp, by simp; omega, hBb, ?_, by simpa using hsz, fun i z hz => ?_⟩
        · have := hk.set_ (off + L.length) (.int .i64 y)
          rw [Nat.mul_one]; exact this
        · by_cases e : i < L.length
          · rw [List.getElem?_append_left e] at hz
            rw [Array.getElem?_setIfInBounds, if_neg (by omega)]; exact hc i z hz
          · have hi : i = L.length := by have := (List.getElem?_eq_some_iff.1 hz).1; simp at this; omega
            subst hi
            simp at hz; subst hz
            rw [Array.getElem?_setIfInBounds, if_pos rfl, if_pos (by omega)]
      · exact (But.refl _ W).set ⟨b, _, none⟩ _ (.inl ⟨_, _, _, rfl⟩)
    · obtain ⟨v', w', hrun, r1, r2⟩ := run_append_arg_grows (P := Try.prog) W 55 ty 3 i0 _ 1 8 Try.underlying55 hi0 hz0 hz1 hz2 rfl (by decide) ⟨b, off, none⟩ L.length cap (numC L) (by simp [numC]) (fun j u hu => by
        rw [Addr.add_lit, hk.cell]
        simp only [numC, List.getElem?_map] at hu
        obtain ⟨z, hz, rfl⟩ := Option.map_eq_some_iff.1 hu
        exact hc j z hz) ⟨g1, 0, none⟩ 1 1 (numC [y]) rfl hnew (by omega) (by unfold maxLen; omega) (by omega)
      exact ⟨v', w', hrun, grow v' w' r1 r2⟩
theorem rows_app {W w' : World} {X : Nat → Prop} {lab lab' : Nat → LabC} {i : Nat} {cs cs' : Array Value} {L : List CRow} {s : Int} {tv : Value} {ts : List Int} (h : RowsM W lab i cs L) (hb : But X W w') (hX : ∀ k s, lab k = .tasks i s → ¬ X k) (hl : ∀ k, k < W.heap.size → lab' k = lab k)
    (hk : ∀ k, k < 2 * L.length → cs'[k]? = cs[k]?) (h0 : cs'[2 * L.length]? = some (.int .i64 s)) (h1 : cs'[2 * L.length + 1]? = some tv) (ht : TaskM W lab i s tv ts) : RowsM w' lab' i cs' (L ++ [(s, ts)]) := by
  intro j r hr
  by_cases e : j < L.length
  · rw [List.getElem?_append_left e] at hr
    obtain ⟨a, tv', c, d⟩ := h j r hr
    exact ⟨(hk _ (by omega)).trans a, tv', (hk _ (by omega)).trans c, d.but hb (fun k q => hX k _ q) hl⟩
  · have hj : j = L.length := by have := (List.getElem?_eq_some_iff.1 hr).1; simp at this; omega
    subst hj
    simp at hr
    subst hr
    exact ⟨h0, tv, h1, ht.but hb (fun k q => hX k _ q) hl⟩
/-- A row of tasks with one more. -/
theorem app_task_run {W : World} {lab : Nat → LabC} {i : Nat} {s : Int} {tv : Value} {ts : List Int} (h : TaskM W lab i s tv ts) (g1 : Nat) (y : Int) (hb : W.cell? ⟨g1, 0, none⟩ = some (.int .i64 y)) (hl : ts.length ≤ 10000) (hnl : ∀ k, W.heap.size ≤ k → lab k = .no) :
    ∀ ty, ∃ v' w' lab', (Builtin.append_ #[55, 55] ty #[tv, .slice (some ⟨g1, 0, none⟩) 1 1]).run Try.prog W = .ok v' w' ∧ TaskM w' lab' i s v' (ts ++ [y]) ∧ But (fun k => lab k = .tasks i s) W w' ∧ LabUp lab lab' i W ∧ (∀ k, w'.heap.size ≤ k → lab' k = .no) := by
  intro ty
  obtain ⟨v', w', hrun, hcut, hbut, hnew⟩ := app_cut_run W tv ts h.cut g1 y hb hl ty
  have hbut' : But (fun k => lab k = .tasks i s) W w' := hbut.mono fun k _ q => h.lab k q
  rcases hcut with ⟨rfl, e⟩ | ⟨b, off, cap, cs, rfl, h1, h2, h3, h4, h5⟩
  · simp at e
  · by_cases hlt : b < W.heap.size
    · have hrb : RowB tv b := by
        rcases hnew b ⟨_, _, _, rfl⟩ with q | q
        · exact q
        · omega
      exact ⟨_, w', lab, hrun, ⟨.inr ⟨b, off, cap, cs, rfl, h1, h2, h3, h4, h5⟩, fun k ⟨_, _, _, e⟩ => by cases e; exact h.lab b hrb⟩, hbut', LabUp.refl _ _ _, fun k hk => hnl k (Nat.le_trans hbut.size hk)⟩
    · refine ⟨_, w', labSet lab b (.tasks i s), hrun, ⟨.inr ⟨b, off, cap, cs, rfl, h1, h2, h3, h4, h5⟩, fun k ⟨_, _, _, e⟩ => by cases e; exact labSet_same _ _ _⟩, hbut', labUp_set lab (by omega) rfl, fun k hk => ?_⟩
      have := h3.lt
      rw [labSet_other _ _ (by omega)]
      exact hnl k (Nat.le_trans hbut.size hk)
/-- A round with one row more. -/
theorem app_rnd_run {W : World} {lab : Nat → LabC} {i : Nat} {rv : Value} {L : List CRow} (h : RndM W lab i rv L) (g1 : Nat) (s : Int) (tv : Value) (ts : List Int) (h0 : W.cell? ⟨g1, 0, none⟩ = some (.int .i64 s)) (h1 : W.cell? ⟨g1, 1, none⟩ = some tv) (ht : TaskM W lab i s tv ts) (hl : L.length ≤ 10000) (hnl : ∀ k, W.heap.size ≤ k → lab k = .no) :
    ∀ ty, ∃ v' w' lab', (Builtin.append_ #[87, 87] ty #[rv, .slice (some ⟨g1, 0, none⟩) 1 1]).run Try.prog W = .ok v' w' ∧ RndM w' lab' i v' (L ++ [(s, ts)]) ∧ But (fun k => lab k = .round i) W w' ∧ LabUp lab lab' i W ∧ (∀ k, w'.heap.size ≤ k → lab' k = .no) := by
  intro ty
  obtain ⟨i0, hi0, hz0, hz1, hz2⟩ := info_parts infoRow
  have ho := task_one ht
  have hnew : ∀ j u, ([Value.int .i64 s, tv])[j]? = some u → W.cell? ((⟨g1, 0, none⟩ : Addr).add j) = some u := by
    intro j u hu
    rw [show (⟨g1, 0, none⟩ : Addr).add j = ⟨g1, j, none⟩ by unfold Addr.add; split <;> simp_all]
    match j, hu with
    | 0, hu => rw [h0]; simpa using hu
    | 1, hu => rw [h1]; simpa using hu
    | j + 2, hu => simp at hu
  have h1c : ∀ u ∈ [Value.int .i64 s, tv], u.oneCell' = true := by
    intro u hu
    simp at hu
    rcases hu with rfl | rfl
    · rfl
    · exact ho
  have htl : ∀ k s, lab k = .tasks i s → ¬ lab k = .round i := fun k s e q => by rw [e] at q; cases q
  have grow : ∀ v' w' xs, w'.ownsRow W.heap.size 105 2 v' (L.length + 1) (xs ++ [.int .i64 s, tv]) → W.grownBy w' none → xs.length = L.length * 2 → (∃ cs, RowsM W lab i cs L ∧ ∀ k, k < 2 * L.length → xs[k]? = cs[k]?) →
      ∃ lab', RndM w' lab' i v' (L ++ [(s, ts)]) ∧ But (fun k => lab k = .round i) W w' ∧ LabUp lab lab' i W ∧ (∀ k, w'.heap.size ≤ k → lab' k = .no) := by
    intro v' w' xs own gr hxl ⟨cs, hrow, hxk⟩
    have hb0 : But (fun k => lab k = .round i) W w' := (But.refl _ W).grown gr (fun k e => by cases e)
    rcases own.2 with ⟨_, e⟩ | ⟨g, cap, cur, rfl, hg, hh, hn, _, hs, htk⟩
    · omega
    · have hcur : ∀ k, k < (L.length + 1) * 2 → cur[k]? = (xs ++ [.int .i64 s, tv])[k]? := fun k hk => by
        rw [← htk, List.getElem?_take, if_pos hk, Array.getElem?_toList]
      have hblk : Blk w' g 105 cur := hh
      refine ⟨labSet lab g (.round i), .inr ⟨g, cap, cur, by simp, by simp; omega, labSet_same _ _ _, hblk, by omega, ?_⟩, hb0, labUp_set lab hg rfl, fun k hk => ?_⟩
      · refine rows_app hrow hb0 htl (fun k hk => labSet_other _ _ (by omega)) (fun k hk => ?_) ?_ ?_ ht
        · rw [hcur k (by omega), List.getElem?_append_left (by omega), hxk k hk]
        · rw [hcur _ (by omega), List.getElem?_append_right (by omega), show 2 * L.length - xs.length = 0 by omega]; rfl
        · rw [hcur _ (by omega), List.getElem?_append_right (by omega), show 2 * L.length + 1 - xs.length = 1 by omega]; rfl
      · have := hblk.lt
        rw [labSet_other _ _ (by omega)]
        exact hnl k (Nat.le_trans hb0.size hk)
  rcases h with ⟨rfl, rfl⟩ | ⟨g, cap, cs, rfl, hc, hg, hk, hs, hrow⟩
  · obtain ⟨v', w', hrun, r1, r2, _⟩ := run_append_own (P := Try.prog) W W.heap.size 87 ty 105 i0 _ 2 32 Try.underlying87 hi0 hz0 hz1 hz2 rfl (by decide) (.slice none 0 0) 0 [] (World.ownsRow_nil W _ _ _) ⟨g1, 0, none⟩ 1 1 [.int .i64 s, tv] rfl hnew h1c (by unfold maxLen; omega) (by omega) (Nat.le_refl _)
    have r2' : W.grownBy w' none := r2
    obtain ⟨lab', a, b, c, d⟩ := grow v' w' [] r1 r2' rfl ⟨#[], fun j r hr => by simp at hr, fun k hk => by simp at hk⟩
    exact ⟨v', w', lab', hrun, a, b, c, d⟩
  · by_cases hr : L.length + 1 ≤ cap
    · have hrun := run_append_room_cells (P := Try.prog) (w := W) 87 ty 105 i0 Try.underlying87 hi0 g 0 L.length cap ⟨g1, 0, none⟩ 1 1 [.int .i64 s, tv] (by rw [hz1]; rfl) hnew h1c hr (fun j hj => by
        simp at hj
        rw [hz1, hk.cell, Array.getElem?_eq_getElem (by omega)]; rfl) (fun j hj => hk.free _)
      rw [hz1] at hrun
      have hb0 : But (fun k => lab k = .round i) W (W.setCells g (0 + L.length * 2) [.int .i64 s, tv]) := But.setCells (X := fun k => lab k = .round i) hg _ _ _ (But.refl _ _)
      have hblk := Blk.setCells [.int .i64 s, tv] (0 + L.length * 2) W cs hk
      refine ⟨_, _, lab, hrun, .inr ⟨g, cap, _, by simp, by simp; omega, hg, hblk, by rw [splC_size]; exact hs, ?_⟩, hb0, LabUp.refl _ _ _, fun k hk2 => hnl k (Nat.le_trans hb0.size hk2)⟩
      refine rows_app hrow hb0 htl (fun _ _ => rfl) (fun k hk => ?_) ?_ ?_ ht
      · rw [splC_get _ _ _ _ (by simp; omega), if_neg (by omega)]
      · rw [splC_get _ _ _ _ (by simp; omega), if_pos (by simp; omega), show 2 * L.length - (0 + L.length * 2) = 0 by omega]; rfl
      · rw [splC_get _ _ _ _ (by simp; omega), if_pos (by simp; omega), show 2 * L.length + 1 - (0 + L.length * 2) = 1 by omega]; rfl
    · obtain ⟨v', w', hrun, r1, r2⟩ := run_append_arg_grows (P := Try.prog) W 87 ty 105 i0 _ 2 32 Try.underlying87 hi0 hz0 hz1 hz2 rfl (by decide) ⟨g, 0, none⟩ L.length cap (cs.toList.take (2 * L.length)) (by simp; omega) (fun j u hu => by
        rw [Addr.add_lit, hk.cell, Nat.zero_add]
        rw [List.getElem?_take] at hu
        split at hu
        · rw [← Array.getElem?_toList]; exact hu
        · cases hu) ⟨g1, 0, none⟩ 1 1 [.int .i64 s, tv] rfl hnew (by omega) (by unfold maxLen; omega) (by omega)
      obtain ⟨lab', a, b, c, d⟩ := grow v' w' _ r1 r2 (by simp; omega) ⟨cs, hrow, fun k hk => by rw [List.getElem?_take, if_pos hk, Array.getElem?_toList]⟩
      exact ⟨v', w', lab', hrun, a, b, c, d⟩
end Go.Proofs.Ytdomgipbadimmaa
