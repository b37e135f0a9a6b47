/- CohortOrder: a number more behind what is left; the second row grown (layer 14). -/
import Derived.Test.YtdomgipbadimmaaD8
namespace Go.Proofs.Ytdomgipbadimmaa
open Go.RowKit
set_option maxRecDepth 100000

theorem app_left {ops : Array Oper} {rest : List Oper} {o : Oper} {a : Act} {W : World} {Q : Exit → Act → World → Prop} (hgd : o.guard = none) (s x : Operand) (ho : o.op = .call { callee := .builtin .append, args := #[s, x], argTypes := #[55, 55] })
    (B : Nat) (v : Value) (E : List Ent) (hs : a.eval s = v) (hown : LeftR B v E W) (g1 : Nat) (e : Ent) (hx : a.eval x = .slice (some ⟨g1, 0, none⟩) 1 1) (hb : W.cell? ⟨g1, 0, none⟩ = some (.int .i64 e.lft)) (hl : E.length ≤ 10000) (hB : B ≤ W.heap.size)
    (h : ∀ v' w', LeftR B v' (E ++ [e]) w' → W.grownBy w' v.ownBlock → (v'.ownBlock = v.ownBlock ∨ v'.ownBlock = some W.heap.size) → wpList Try.prog ops Q rest (a.put o.dst v') w') : wpList Try.prog ops Q (o :: rest) a W := by
  obtain ⟨i0, hi0, hz0, hz1, hz2⟩ := info_parts infoInt
  have hlen : (E.map (·.lft)).length = E.length := by simp
  refine wpList_append_own_at W hgd s x 55 ho B 3 i0 _ 1 8 Try.underlying55 hi0 hz0 hz1 hz2 rfl (by decide) v (E.map fun e : Ent => e.lft).length (numC (E.map fun e : Ent => e.lft)) hs hown ⟨g1, 0, none⟩ 1 1 (numC [e.lft]) hx (by simp [numC]) ?_ (by intro u hu; simp [numC] at hu; rcases hu with rfl; rfl) (by rw [hlen]; unfold maxLen; omega) (by rw [hlen]; omega) hB ?_
  · intro j u hu
    match j, hu with
    | 0, hu =>
      have hadd : (⟨g1, 0, none⟩ : Addr).add 0 = ⟨g1, 0, none⟩ := by unfold Addr.add; split <;> simp_all
      rw [hadd, hb]; simpa [numC] using hu
    | j + 1, hu => simp [numC] at hu
  · intro v' w' own gr _ hbk
    refine h v' w' ?_ gr hbk
    unfold LeftR MineN
    rw [List.map_append, List.length_append, show numC (E.map (·.lft) ++ [e].map (·.lft)) = numC (E.map (·.lft)) ++ numC [e.lft] by simp [numC]]
    exact own
section
variable {w0 W W' : World} {pb lb k : Nat} {c : Coh} {wv lv lv' : Value}
/-- The second row grown. -/
theorem one_grown2 (ho : OneP (NotRows w0 wv lv) pb lb c k W) (hg : W.grownBy W' lv.ownBlock) (hv : lv'.ownBlock = lv.ownBlock ∨ lv'.ownBlock = some W.heap.size) : OneP (NotRows w0 wv lv') pb lb c k W' := by
  have h1 : OneP (NotRows w0 wv lv') pb lb c k W := ho.away fun q hq hB => ⟨hB.1, hB.2.1, fun e => by
    rcases hv with a | a
    · exact hB.2.2 (a ▸ e)
    · rw [a] at e; cases e; omega⟩
  cases hw : lv.ownBlock with
  | none => rw [hw] at hg; exact h1.nob ((But.refl _ _).grown hg fun _ q => by cases q)
  | some g =>
    rw [hw] at hg hv
    obtain ⟨⟨lab, q⟩, hb⟩ := ho
    have q' : CohL (NotRows w0 wv lv) pb lb lab [c] W' := q.far (mb := g) ((But.refl _ _).grown hg fun q e => by cases e; exact .inl rfl) (fun q => q.2.2 hw)
    refine ⟨⟨lab, q'.box, q'.blk, q'.own, q'.pwn, q'.pne, q'.fre, fun x hx => ?_, q'.ok⟩, hb⟩
    have hB := q.old x hx
    refine ⟨hB.1, hB.2.1, fun e => ?_⟩
    rcases hv with a | a
    · rw [a] at e; exact hB.2.2 (hw.trans e)
    · rw [a] at e; cases e; exact hx (q.fre _ (Nat.le_refl _))
end
end Go.Proofs.Ytdomgipbadimmaa
