/- CohortOrder's things, all together: one lock, those who wait, what is left (layer 14). -/
import Derived.Test.YtdomgipbadimmaaD7
import Derived.Test.YtdomgipbadimmaaD0
namespace Go.Proofs.Ytdomgipbadimmaa
open Go.RowKit
set_option maxRecDepth 100000

/-- Blocks that may be the lock's: neither row's. -/
def NotRows (w0 : World) (wv lv : Value) (x : Nat) : Prop := w0.heap.size ≤ x ∧ wv.ownBlock ≠ some x ∧ lv.ownBlock ≠ some x
structure OrdM (w0 : World) (pb lb k : Nat) (c : Coh) (E : List Ent) (wv lv : Value) (W : World) : Prop where
  one : OneP (NotRows w0 wv lv) pb lb c k W
  wai : WaitR w0.heap.size wv E W
  lef : LeftR w0.heap.size lv E W
  sep : ∀ g, wv.ownBlock = some g → lv.ownBlock ≠ some g
  low : Below w0.heap.size w0 W
  inv : OInv c E
  nod : (E.map (·.tsk)).Nodup
  len : E.length ≤ k
section
variable {w0 W W' : World} {pb lb k : Nat} {c : Coh} {E : List Ent} {wv lv wv' : Value}
theorem OrdM.on (h : OrdM w0 pb lb k c E wv lv W) (hb : Below W.heap.size W W') : OrdM w0 pb lb k c E wv lv W' :=
  ⟨h.one.nob (But.of_below hb), h.wai.but (X := Nob) (But.of_below hb) fun _ _ q => q, h.lef.but (X := Nob) (But.of_below hb) fun _ _ q => q, h.sep, h.low.trans (hb.mono h.low.size), h.inv, h.nod, h.len⟩
theorem OrdM.new (h : OrdM w0 pb lb k c E wv lv W) : ∀ q, W.heap.size ≤ q → NotRows w0 wv lv q := fun q hq =>
  ⟨Nat.le_trans h.low.size hq, fun e => by have := (World.ownsRow.lt h.wai q e).2; omega, fun e => by have := (World.ownsRow.lt h.lef q e).2; omega⟩
/-- The lock turned: those who wait are told of elsewhere. -/
theorem OrdM.lock (h : OrdM w0 pb lb k c E wv lv W) (hb : But (NotRows w0 wv lv) W W') : WaitR w0.heap.size wv E W' ∧ LeftR w0.heap.size lv E W' ∧ Below w0.heap.size w0 W' :=
  ⟨h.wai.but hb fun _ hg q => q.2.1 hg, h.lef.but hb fun _ hg q => q.2.2 hg, h.low.trans (hb.below (B := w0.heap.size) h.low.size fun _ _ q => q.1)⟩
/-- The first row grown. -/
theorem one_grown (ho : OneP (NotRows w0 wv lv) pb lb c k W) (hg : W.grownBy W' wv.ownBlock) (hv : wv'.ownBlock = wv.ownBlock ∨ wv'.ownBlock = some W.heap.size) : OneP (NotRows w0 wv' lv) pb lb c k W' := by
  have h1 : OneP (NotRows w0 wv' lv) pb lb c k W := ho.away fun q hq hB => ⟨hB.1, fun e => by
    rcases hv with a | a
    · exact hB.2.1 (a ▸ e)
    · rw [a] at e; cases e; omega, hB.2.2⟩
  cases hw : wv.ownBlock with
  | none => rw [hw] at hg; exact h1.nob ((But.refl _ _).grown hg fun _ q => by cases q)
  | some g =>
    rw [hw] at hg hv
    obtain ⟨⟨lab, q⟩, hb⟩ := ho
    have q' : CohL (NotRows w0 wv lv) pb lb lab [c] W' := q.far (mb := g) ((But.refl _ _).grown hg fun q e => by cases e; exact .inl rfl) (fun q => q.2.1 hw)
    refine ⟨⟨lab, q'.box, q'.blk, q'.own, q'.pwn, q'.pne, q'.fre, fun x hx => ?_, q'.ok⟩, hb⟩
    have hB := q.old x hx
    refine ⟨hB.1, fun e => ?_, hB.2.2⟩
    rcases hv with a | a
    · rw [a] at e; exact hB.2.1 (hw.trans e)
    · rw [a] at e; cases e; exact hx (q.fre _ (Nat.le_refl _))
end
end Go.Proofs.Ytdomgipbadimmaa
