/- CohortOrder's rows in memory: those who wait, what is left for each; one more behind a row, a window of a row (layer 14). -/
import Derived.Test.YtdomgipbadimmaaD5
import Derived.Test.YtdomgipbadimmaaD6
import Derived.Test.YtdomgipbadimmaaC3
import Derived.Maps.AppendAt
namespace Go.Proofs.Ytdomgipbadimmaa
open Go.RowKit
set_option maxRecDepth 100000

section
variable {P : Program} (w : World)
/-- A window of a row appended to another row, at a step of a region that draws. -/
theorem step_app_win {ops : Array Oper} {o : Oper} {a : Act} {K : Act → World → Prop} {Q : Exit → Act → World → Prop} {E : Prop} (hgd : o.guard = none) (s x : Operand) (t : TypeId)
    (ho : o.op = .call { callee := .builtin .append, args := #[s, x], argTypes := #[t, t] })
    (base : Nat) (e : TypeId) (i : TypeInfo) (z : Value) (size bytes : Nat) (ht : P.underlying t = some (.slice e)) (hi : P.info? e = some i) (hz : i.zero = some z)
    (hsize : i.size = size) (hby : i.bytes = bytes) (hzs : z.cells.size = size) (hsz : 0 < size)
    (v : Value) (n : Nat) (xs : List Value) (hs : a.eval s = v) (hown : w.ownsRow base e size v n xs)
    (ad : Addr) (m c : Nat) (news : List Value) (hx : a.eval x = .slice (some ad) m c) (hl : news.length = m * size) (hnews : ∀ j u, news[j]? = some u → w.cell? (ad.add j) = some u) (h1 : ∀ u ∈ news, u.oneCell' = true)
    (h63 : n + m ≤ maxLen) (hbytes : (n + m) * bytes ≤ 140737488355328) (hbase : base ≤ w.heap.size)
    (h : ∀ v' w', w'.ownsRow base e size v' (n + m) (xs ++ news) → w.grownBy w' v.ownBlock → (v'.ownBlock = v.ownBlock ∨ v'.ownBlock = some w.heap.size) → K (a.put o.dst v') w') :
    if Region.wanted o (yielded ops a.tmps) = true then Oper.wp P o a w K Q else E := by
  rw [if_pos (by simp [Region.wanted, hgd])]
  obtain ⟨v', w', hr, h2, h3, _, h5⟩ := run_append_own_at (P := P) w base t o.type e i z size bytes ht hi hz hsize hby hzs hsz v n xs hown ad m c news hl hnews h1 h63 hbytes hbase
  unfold Oper.wp execOp
  simp only [ho, resolve, invoke, builtin, Sem.run_bind, Sem.run_pure, Result.andThen_ok, List.map_toArray, List.map_cons, List.map_nil, hs, hx, hr]
  exact h v' w' h2 h3 h5
end
/-- Those who wait: two cells each. -/
def entC (E : List Ent) : List Value := E.flatMap fun e => [.int .i64 e.tsk, .int .i64 e.soc]
theorem entC_app (E F : List Ent) : entC (E ++ F) = entC E ++ entC F := by unfold entC; rw [List.flatMap_append]
theorem entC_length (E : List Ent) : (entC E).length = E.length * 2 := by
  induction E with
  | nil => rfl
  | cons e l ih => unfold entC at ih ⊢; simp only [List.flatMap_cons, List.length_append, ih, List.length_cons, List.length_nil]; omega
theorem entC_at {E : List Ent} {i : Nat} {e : Ent} (h : E[i]? = some e) : (entC E)[i * 2]? = some (.int .i64 e.tsk) ∧ (entC E)[i * 2 + 1]? = some (.int .i64 e.soc) := by
  induction E generalizing i with
  | nil => simp at h
  | cons x l ih =>
    have hc : entC (x :: l) = .int .i64 x.tsk :: .int .i64 x.soc :: entC l := by unfold entC; simp
    rw [hc]
    cases i with
    | zero => simp only [List.getElem?_cons_zero, Option.some.injEq] at h; subst h; exact ⟨rfl, rfl⟩
    | succ j =>
      rw [List.getElem?_cons_succ] at h
      obtain ⟨a, b⟩ := ih h
      rw [show (j + 1) * 2 = j * 2 + 1 + 1 by omega, show j * 2 + 1 + 1 + 1 = (j * 2 + 1) + 1 + 1 by omega]
      simp only [List.getElem?_cons_succ]
      exact ⟨a, b⟩
theorem entC_one (E : List Ent) : ∀ u ∈ entC E, u.oneCell' = true := by
  intro u hu
  unfold entC at hu
  rw [List.mem_flatMap] at hu
  obtain ⟨e, _, hu⟩ := hu
  simp only [List.mem_cons, List.not_mem_nil, or_false] at hu
  rcases hu with rfl | rfl <;> rfl
theorem entC_dec (E : List Ent) : entC (E.map decE) = entC E := by
  unfold entC; rw [List.flatMap_map]; rfl
theorem infoWait : (Try.prog.info? 62).map (fun i => (i.zero, i.size, i.bytes)) = some (some (.agg #[.int .i64 0, .int .i64 0]), 2, 16) := by kernel_rfl
/-- The row of those who wait, of the law's own, from block B on. -/
def WaitR (B : Nat) (v : Value) (E : List Ent) (W : World) : Prop := W.ownsRow B 62 2 v E.length (entC E)
/-- What is left for each. -/
def LeftR (B : Nat) (v : Value) (E : List Ent) (W : World) : Prop := MineN B v (E.map (·.lft)) W
theorem waitR_nil (B : Nat) (W : World) : WaitR B (.slice none 0 0) [] W := ⟨rfl, .inl ⟨rfl, rfl⟩⟩
theorem leftR_nil (B : Nat) (W : World) : LeftR B (.slice none 0 0) [] W := mineN_nil B W
section
variable {B : Nat} {v : Value} {E : List Ent} {w w' : World}
theorem WaitR.but {X : Nat → Prop} (h : WaitR B v E w) (hb : But X w w') (hX : ∀ g, v.ownBlock = some g → ¬ X g) : WaitR B v E w' := by
  refine ⟨h.1, ?_⟩
  rcases h.2 with hn | ⟨g, cap, cur, rfl, hbb, hgg, rest⟩
  · exact .inl hn
  · exact .inr ⟨g, cap, cur, rfl, hbb, (hb.block g (Array.getElem?_eq_some_iff.1 hgg).1 (hX g rfl)).trans hgg, rest⟩
theorem LeftR.but {X : Nat → Prop} (h : LeftR B v E w) (hb : But X w w') (hX : ∀ g, v.ownBlock = some g → ¬ X g) : LeftR B v E w' := by
  refine ⟨h.1, ?_⟩
  rcases h.2 with hn | ⟨g, cap, cur, rfl, hbb, hgg, rest⟩
  · exact .inl hn
  · exact .inr ⟨g, cap, cur, rfl, hbb, (hb.block g (Array.getElem?_eq_some_iff.1 hgg).1 (hX g rfl)).trans hgg, rest⟩
/-- Its slice, and its cells. -/
theorem WaitR.cells (h : WaitR B v E w) : ∃ A cap, v = .slice A E.length cap ∧ E.length ≤ cap ∧ ∀ i e, E[i]? = some e → ∃ g, A = some ⟨g, 0, none⟩ ∧ w.cell? ⟨g, i * 2, none⟩ = some (.int .i64 e.tsk) ∧ w.cell? ⟨g, i * 2 + 1, none⟩ = some (.int .i64 e.soc) ∧ g < w.heap.size := by
  have hc := h
  rcases h.2 with ⟨rfl, hn⟩ | ⟨g, cap, cur, rfl, hg, hh, hcap, _⟩
  · have hE : E = [] := List.eq_nil_of_length_eq_zero hn
    subst hE
    exact ⟨none, 0, rfl, Nat.le_refl _, fun i x hx => by simp at hx⟩
  · refine ⟨some ⟨g, 0, none⟩, cap, rfl, hcap, fun i e hx => ⟨g, rfl, ?_, ?_, (hc.lt g rfl).2⟩⟩
    · have := World.ownsRow.cells hc (g := g) rfl (i * 2) _ (entC_at hx).1
      have hadd : (⟨g, 0, none⟩ : Addr).add (i * 2) = ⟨g, i * 2, none⟩ := by unfold Addr.add; split <;> simp_all
      rw [hadd] at this; exact this
    · have := World.ownsRow.cells hc (g := g) rfl (i * 2 + 1) _ (entC_at hx).2
      have hadd : (⟨g, 0, none⟩ : Addr).add (i * 2 + 1) = ⟨g, i * 2 + 1, none⟩ := by unfold Addr.add; split <;> simp_all
      rw [hadd] at this; exact this
/-- One more waits. -/
theorem app_wait {ops : Array Oper} {rest : List Oper} {o : Oper} {a : Act} {W : World} {Q : Exit → Act → World → Prop} (hgd : o.guard = none) (s x : Operand) (ho : o.op = .call { callee := .builtin .append, args := #[s, x], argTypes := #[60, 60] })
    (B : Nat) (v : Value) (E : List Ent) (hs : a.eval s = v) (hown : WaitR B v E W) (g1 : Nat) (e : Ent) (hx : a.eval x = .slice (some ⟨g1, 0, none⟩) 1 1) (hb : Blk W g1 62 #[.int .i64 e.tsk, .int .i64 e.soc]) (hl : E.length ≤ 10000) (hB : B ≤ W.heap.size)
    (h : ∀ v' w', WaitR B v' (E ++ [e]) w' → W.grownBy w' v.ownBlock → (v'.ownBlock = v.ownBlock ∨ v'.ownBlock = some W.heap.size) → wpList Try.prog ops Q rest (a.put o.dst v') w') : wpList Try.prog ops Q (o :: rest) a W := by
  obtain ⟨i0, hi0, hz0, hz1, hz2⟩ := info_parts infoWait
  refine wpList_append_own_at W hgd s x 60 ho B 62 i0 _ 2 16 Try.underlying60 hi0 hz0 hz1 hz2 rfl (by decide) v E.length (entC E) hs hown ⟨g1, 0, none⟩ 1 1 (entC [e]) hx (by simp [entC]) ?_ (entC_one [e]) (by unfold maxLen; omega) (by omega) hB ?_
  · intro j u hu
    have c0 := hb.cell 0; have c1 := hb.cell 1
    simp only [List.getElem?_toArray, List.getElem?_cons_zero, List.getElem?_cons_succ] at c0 c1
    match j, hu with
    | 0, hu =>
      have hadd : (⟨g1, 0, none⟩ : Addr).add 0 = ⟨g1, 0, none⟩ := by unfold Addr.add; split <;> simp_all
      rw [hadd, c0]; simpa [entC] using hu
    | 1, hu =>
      have hadd : (⟨g1, 0, none⟩ : Addr).add 1 = ⟨g1, 1, none⟩ := by unfold Addr.add; split <;> simp_all
      rw [hadd, c1]; simpa [entC] using hu
    | j + 2, hu => simp [entC] at hu
  · intro v' w' own gr _ hbk
    refine h v' w' ?_ gr hbk
    unfold WaitR
    rw [List.length_append, entC_app]
    exact own
end
/-- Locks keep out of blocks that were not theirs: whatever predicate these keep to, none that is made later is theirs yet. -/
theorem OneP.away {B B' : Nat → Prop} {pb lb m : Nat} {c : Coh} {w : World} (h : OneP B pb lb c m w) (hB : ∀ k, k < w.heap.size → B k → B' k) : OneP B' pb lb c m w := by
  obtain ⟨⟨lab, q⟩, h2⟩ := h
  exact ⟨⟨lab, q.box, q.blk, q.own, q.pwn, q.pne, q.fre, fun k hk => hB k (Nat.lt_of_not_le fun hle => hk (q.fre k hle)) (q.old k hk), q.ok⟩, h2⟩
end Go.Proofs.Ytdomgipbadimmaa
