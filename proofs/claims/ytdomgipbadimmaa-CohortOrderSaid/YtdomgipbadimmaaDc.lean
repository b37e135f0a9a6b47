/- CohortOrder: both rows grown, or made anew; a window of each (layer 14). -/
import Derived.Test.YtdomgipbadimmaaDb
namespace Go.Proofs.Ytdomgipbadimmaa
open Go.RowKit
set_option maxRecDepth 100000

section
variable {w0 W W' : World} {pb lb k j : Nat} {c : Coh} {E E' F F' : List Ent} {wv lv wv' lv' : Value}
/-- The first row grown. -/
theorem OrdG.more (h : OrdG w0 pb lb k c E F wv lv W) (own : WaitR w0.heap.size wv' E' W') (hg : W.grownBy W' wv.ownBlock) (hv : wv'.ownBlock = wv.ownBlock ∨ wv'.ownBlock = some W.heap.size) : OrdG w0 pb lb k c E' F wv' lv W' := by
  have hb : But (fun x => wv.ownBlock = some x) W W' := (But.refl _ _).grown hg fun q e => .inl e
  refine ⟨one_grown h.one hg hv, own, h.lef.but hb (fun q hq e => h.sep q e hq), fun g hw hl => ?_, h.low.trans (hb.below (B := w0.heap.size) h.low.size fun q _ e => (World.ownsRow.lt h.wai q e).1)⟩
  rcases hv with e | e
  · exact h.sep g (e ▸ hw) hl
  · rw [e] at hw; cases hw; have := (World.ownsRow.lt h.lef _ hl).2; omega
/-- The second. -/
theorem OrdG.more2 (h : OrdG w0 pb lb k c E F wv lv W) (own : LeftR w0.heap.size lv' F' W') (hg : W.grownBy W' lv.ownBlock) (hv : lv'.ownBlock = lv.ownBlock ∨ lv'.ownBlock = some W.heap.size) : OrdG w0 pb lb k c E F' wv lv' W' := by
  have hb : But (fun x => lv.ownBlock = some x) W W' := (But.refl _ _).grown hg fun q e => .inl e
  refine ⟨one_grown2 h.one hg hv, h.wai.but hb (fun q hq e => h.sep q hq e), own, fun g hw hl => ?_, h.low.trans (hb.below (B := w0.heap.size) h.low.size fun q _ e => (World.ownsRow.lt h.lef q e).1)⟩
  rcases hv with e | e
  · exact h.sep g hw (e ▸ hl)
  · rw [e] at hl; cases hl; have := (World.ownsRow.lt h.wai _ hw).2; omega
/-- The first row anew. -/
theorem OrdG.anew (h : OrdG w0 pb lb k c E F wv lv W) (hb : Below W.heap.size W W') (own : WaitR w0.heap.size wv' E' W') (hn : ∀ g, wv'.ownBlock = some g → W.heap.size ≤ g) : OrdG w0 pb lb k c E' F wv' lv W' := by
  have h1 := h.on hb
  refine ⟨?_, own, h1.lef, fun g hw hl => ?_, h1.low⟩
  · exact (h.one.away (B' := NotRows w0 wv' lv) fun q hq hB => ⟨hB.1, fun e => by have := hn q e; omega, hB.2.2⟩).nob (But.of_below hb)
  · have h2 := hn g hw
    have := (World.ownsRow.lt h.lef _ hl).2; omega
theorem OrdG.anew2 (h : OrdG w0 pb lb k c E F wv lv W) (hb : Below W.heap.size W W') (own : LeftR w0.heap.size lv' F' W') (hn : ∀ g, lv'.ownBlock = some g → W.heap.size ≤ g) : OrdG w0 pb lb k c E F' wv lv' W' := by
  have h1 := h.on hb
  refine ⟨?_, h1.wai, own, fun g hw hl => ?_, h1.low⟩
  · exact (h.one.away (B' := NotRows w0 wv lv') fun q hq hB => ⟨hB.1, hB.2.1, fun e => by have := hn q e; omega⟩).nob (But.of_below hb)
  · have h2 := hn g hl
    have := (World.ownsRow.lt h.wai _ hw).2; omega
end
/-- A row made by a literal with nobody in it. -/
theorem wait_lit (B : Nat) (W : World) (hB : B ≤ W.heap.size) : WaitR B (.slice (some ⟨W.heap.size, 0, none⟩) 0 0) [] (W.alloc (.cells #[] 62)) := by
  have := World.ownsRow_lit (base := B) (e := 62) (size := 2) W #[] 0 hB (by unfold maxLen; omega) rfl
  exact this
theorem left_lit (B : Nat) (W : World) (hB : B ≤ W.heap.size) : LeftR B (.slice (some ⟨W.heap.size, 0, none⟩) 0 0) [] (W.alloc (.cells #[] 3)) := by
  have := World.ownsRow_lit (base := B) (e := 3) (size := 1) W #[] 0 hB (by unfold maxLen; omega) rfl
  exact this
section
variable {B : Nat} {v : Value} {E F : List Ent} {g cap n : Nat} {W : World}
/-- A window of the first row, as what is appended. -/
theorem WaitR.window (h : WaitR B (.slice (some ⟨g, 0, none⟩) n cap) E W) (G : List Ent) (i : Nat) (hG : ∀ (j : Nat) (e : Ent), G[j]? = some e → E[i + j]? = some e) : ∀ j u, (entC G)[j]? = some u → W.cell? ((⟨g, i * 2, none⟩ : Addr).add j) = some u := by
  intro j u hu
  have hadd : (⟨g, i * 2, none⟩ : Addr).add j = ⟨g, i * 2 + j, none⟩ := by unfold Addr.add; split <;> simp_all
  rw [hadd]
  have hj := (List.getElem?_eq_some_iff.1 hu).1
  rw [entC_length] at hj
  obtain ⟨e, he⟩ : ∃ e, G[j / 2]? = some e := ⟨_, List.getElem?_eq_getElem (by omega)⟩
  obtain ⟨c0, c1⟩ := entC_at he
  obtain ⟨d0, d1⟩ := h.at (hG _ _ he)
  rcases Nat.mod_two_eq_zero_or_one j with q | q
  · rw [show j / 2 * 2 = j by omega] at c0
    rw [c0] at hu; cases hu
    rw [show (i + j / 2) * 2 = i * 2 + j by omega] at d0
    exact d0
  · rw [show j / 2 * 2 + 1 = j by omega] at c1
    rw [c1] at hu; cases hu
    rw [show (i + j / 2) * 2 + 1 = i * 2 + j by omega] at d1
    exact d1
/-- A window of what is left. -/
theorem LeftR.window (h : LeftR B v E W) (hv : v.ownBlock = some g) (G : List Ent) (i : Nat) (hG : ∀ (j : Nat) (e : Ent), G[j]? = some e → E[i + j]? = some e) : ∀ j u, (numC (G.map (·.lft)))[j]? = some u → W.cell? ((⟨g, i, none⟩ : Addr).add j) = some u := by
  intro j u hu
  have hadd : (⟨g, i, none⟩ : Addr).add j = ⟨g, i + j, none⟩ := by unfold Addr.add; split <;> simp_all
  have hadd2 : (⟨g, 0, none⟩ : Addr).add (i + j) = ⟨g, i + j, none⟩ := by unfold Addr.add; split <;> simp_all
  rw [hadd, ← hadd2]
  unfold numC at hu
  rw [List.getElem?_map, List.getElem?_map] at hu
  cases he : G[j]? with
  | none => rw [he] at hu; simp at hu
  | some e =>
    rw [he] at hu; cases hu
    refine World.ownsRow.cells h (g := g) hv (i + j) _ ?_
    unfold numC
    rw [List.getElem?_map, List.getElem?_map, hG j e he]; rfl
theorem LeftR.form (h : LeftR B v E W) (hne : 0 < E.length) : ∃ g cap, v = .slice (some ⟨g, 0, none⟩) E.length cap ∧ E.length ≤ cap := by
  have hc := h
  unfold LeftR MineN at hc
  rcases hc.2 with ⟨rfl, hn⟩ | ⟨g, cap, cur, rfl, hg, hh, hcap, _⟩
  · rw [List.length_map] at hn; omega
  · rw [List.length_map] at hcap ⊢; exact ⟨g, cap, rfl, hcap⟩
end
/-- A row made anew, behind W. -/
def CutB (W : World) (v : Value) (w : World) : Prop := Below W.heap.size W w ∧ ∀ g, v.ownBlock = some g → W.heap.size ≤ g
section
variable {W w w' : World} {v v' : Value}
theorem CutB.lit (W : World) (o : Obj) (c : Nat) : CutB W (.slice (some ⟨W.heap.size, 0, none⟩) 0 c) (W.alloc o) :=
  ⟨(Below.refl _ _).alloc (Nat.le_refl _) _, fun g e => by cases e; exact Nat.le_refl _⟩
theorem CutB.drew (h : CutB W v w) : CutB W v w.drew := ⟨((But.of_below (X := Nob) h.1).drew).below (Nat.le_refl _) fun _ _ q => q.elim, h.2⟩
theorem CutB.more (h : CutB W v w) (gr : w.grownBy w' v.ownBlock) (bk : v'.ownBlock = v.ownBlock ∨ v'.ownBlock = some w.heap.size) : CutB W v' w' :=
  ⟨h.1.grown gr h.1.size fun k hk => h.2 k hk, fun g e => by
    rcases bk with q | q
    · exact h.2 g (q ▸ e)
    · rw [q] at e; cases e; exact h.1.size⟩
end
section
variable {W : World}
theorem step_wait {ops : Array Oper} {o : Oper} {a : Act} {K : Act → World → Prop} {Q : Exit → Act → World → Prop} {T : Prop} (hgd : o.guard = none) (s x : Operand) (ho : o.op = .call { callee := .builtin .append, args := #[s, x], argTypes := #[60, 60] })
    (B : Nat) (v : Value) (L : List Ent) (hs : a.eval s = v) (hown : WaitR B v L W) (ad : Addr) (m c : Nat) (G : List Ent) (hx : a.eval x = .slice (some ad) m c) (hm : m = G.length)
    (hnews : ∀ j u, (entC G)[j]? = some u → W.cell? (ad.add j) = some u) (hl : L.length + G.length ≤ 10000) (hB : B ≤ W.heap.size)
    (h : ∀ v' w', WaitR B v' (L ++ G) w' → W.grownBy w' v.ownBlock → (v'.ownBlock = v.ownBlock ∨ v'.ownBlock = some W.heap.size) → K (a.put o.dst v') w') :
    if Region.wanted o (yielded ops a.tmps) = true then Oper.wp Try.prog o a W K Q else T := by
  obtain ⟨i0, hi0, hz0, hz1, hz2⟩ := info_parts infoWait
  subst hm
  refine step_app_win W hgd s x 60 ho B 62 i0 _ 2 16 Try.underlying60 hi0 hz0 hz1 hz2 rfl (by decide) v L.length (entC L) hs hown ad G.length c (entC G) hx (entC_length G) hnews (entC_one G) (by unfold maxLen; omega) (by omega) hB ?_
  intro v' w' own gr bk
  refine h v' w' ?_ gr bk
  unfold WaitR
  rw [List.length_append, entC_app]
  exact own
theorem step_left {ops : Array Oper} {o : Oper} {a : Act} {K : Act → World → Prop} {Q : Exit → Act → World → Prop} {T : Prop} (hgd : o.guard = none) (s x : Operand) (ho : o.op = .call { callee := .builtin .append, args := #[s, x], argTypes := #[55, 55] })
    (B : Nat) (v : Value) (L : List Ent) (hs : a.eval s = v) (hown : LeftR B v L W) (ad : Addr) (m c : Nat) (G : List Ent) (hx : a.eval x = .slice (some ad) m c) (hm : m = G.length)
    (hnews : ∀ j u, (numC (G.map (·.lft)))[j]? = some u → W.cell? (ad.add j) = some u) (hl : L.length + G.length ≤ 10000) (hB : B ≤ W.heap.size)
    (h : ∀ v' w', LeftR B v' (L ++ G) w' → W.grownBy w' v.ownBlock → (v'.ownBlock = v.ownBlock ∨ v'.ownBlock = some W.heap.size) → K (a.put o.dst v') w') :
    if Region.wanted o (yielded ops a.tmps) = true then Oper.wp Try.prog o a W K Q else T := by
  obtain ⟨i0, hi0, hz0, hz1, hz2⟩ := info_parts infoInt
  subst hm
  have hlen : (L.map (·.lft)).length = L.length := by simp
  refine step_app_win W hgd s x 55 ho B 3 i0 _ 1 8 Try.underlying55 hi0 hz0 hz1 hz2 rfl (by decide) v (L.map fun e : Ent => e.lft).length (numC (L.map fun e : Ent => e.lft)) hs hown ad G.length c (numC (G.map (·.lft))) hx (by simp [numC]) hnews (by intro u hu; simp only [numC, List.mem_map] at hu; obtain ⟨y, _, rfl⟩ := hu; rfl) (by rw [hlen]; unfold maxLen; omega) (by rw [hlen]; omega) hB ?_
  intro v' w' own gr bk
  refine h v' w' ?_ gr bk
  unfold LeftR MineN
  rw [List.map_append, List.length_append, show numC (L.map (·.lft) ++ G.map (·.lft)) = numC (L.map (·.lft)) ++ numC (G.map (·.lft)) by simp [numC], show (G.map (·.lft)).length = G.length by simp]
  exact own
end
end Go.Proofs.Ytdomgipbadimmaa
