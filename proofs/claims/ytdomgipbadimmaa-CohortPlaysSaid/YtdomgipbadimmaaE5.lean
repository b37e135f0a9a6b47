/- The document's told, plainly; a number appended to an own row (layer 14). -/
import Derived.Test.YtdomgipbadimmaaE4
namespace Go.Proofs.Ytdomgipbadimmaa
open Go.RowKit
set_option maxRecDepth 100000

section
variable {E X Y : List Ent} {x : Ent} {k : Nat} {z : Int}
theorem dropW_app (z : Int) (X Y : List Ent) : dropW z (X ++ Y) = if wof z X = [] then X ++ dropW z Y else dropW z X ++ Y := by
  induction X with
  | nil => rfl
  | cons e l ih =>
    by_cases q : e.soc = z
    · have e1 : wof z (e :: l) ≠ [] := by simp [wof, q]
      rw [if_neg e1]; simp [dropW, q]
    · have e1 : wof z (e :: l) = wof z l := by simp [wof, q]
      have e2 : ∀ M, dropW z (e :: M) = e :: dropW z M := fun M => by simp [dropW, q]
      rw [List.cons_append, e2, e2, ih]
      by_cases p : wof z l = []
      · rw [if_pos p, if_pos (e1.trans p)]; rfl
      · rw [if_neg p, if_neg (fun a => p (e1.symm.trans a))]; rfl
theorem dropW_all (h : wof z X = []) : dropW z X = X := by
  have := dropW_app z X []
  rw [if_pos h] at this
  simpa [dropW] using this
theorem wof_succ (hx : E[k]? = some x) : wof z (E.take (k + 1)) = wof z (E.take k) ++ (if x.soc = z then [x.tsk] else []) := by
  rw [List.take_add_one, hx, wof_app]
  rfl
theorem dropW_succ (hx : E[k]? = some x) : dropW z (E.take (k + 1)) = if x.soc = z ∧ wof z (E.take k) = [] then dropW z (E.take k) else dropW z (E.take k) ++ [x] := by
  rw [List.take_add_one, hx, dropW_app]
  show (if wof z (E.take k) = [] then E.take k ++ dropW z [x] else dropW z (E.take k) ++ [x]) = _
  by_cases q : wof z (E.take k) = []
  · rw [if_pos q, dropW_all q]
    by_cases p : x.soc = z
    · rw [if_pos ⟨p, q⟩]; simp [dropW, p]
    · rw [if_neg (fun a => p a.1)]; simp [dropW, p]
  · rw [if_neg q, if_neg (fun a => q a.2)]
end
/-- The document's y, while it is built. -/
structure ToldM (yb : Nat) (W3 : World) (b0 : Bool) (o b2 b3 z : Int) (X : List Ent) (rv v : Value) (W : World) : Prop where
  blk : Blk W yb 93 #[.bool b0, .int .i64 ((wof z X).headD o), .int .i64 b2, .int .i64 b3, v, rv]
  own : WaitR (yb + 1) v (dropW z X) W
  low : Below yb W3 W
section
variable {yb : Nat} {W3 W W' : World} {b0 : Bool} {o b2 b3 z : Int} {X X' : List Ent} {rv v v' : Value}
theorem ToldM.on (h : ToldM yb W3 b0 o b2 b3 z X rv v W) (hb : Below W.heap.size W W') : ToldM yb W3 b0 o b2 b3 z X rv v W' :=
  ⟨h.blk.but (X := Nob) (But.of_below hb) id, h.own.but (X := Nob) (But.of_below hb) fun _ _ q => q, h.low.trans (hb.mono (Nat.le_of_lt h.blk.lt))⟩
/-- One that is told. -/
theorem ToldM.told (h : ToldM yb W3 b0 o b2 b3 z X rv v W) {t : Int} (hd : (wof z X').headD o = t) (hw : dropW z X' = dropW z X) : ToldM yb W3 b0 o b2 b3 z X' rv v (W.setCell ⟨yb, 1, none⟩ (.int .i64 t)) := by
  have hb : But (fun x => x = yb) W (W.setCell ⟨yb, 1, none⟩ (.int .i64 t)) := (But.refl _ _).set ⟨yb, 1, none⟩ _ (.inl rfl)
  refine ⟨?_, ?_, h.low.trans (hb.below (B := yb) (Nat.le_of_lt h.blk.lt) fun _ _ q => by rw [q]; exact Nat.le_refl _)⟩
  · have := h.blk.set_ 1 (.int .i64 t)
    rw [hd]; exact this
  · rw [hw]
    exact h.own.but hb fun g hg e => by have := (World.ownsRow.lt h.own g hg).1; omega
/-- One more behind. -/
theorem ToldM.more (h : ToldM yb W3 b0 o b2 b3 z X rv v W) (own : WaitR (yb + 1) v' (dropW z X') W') (gr : W.grownBy W' v.ownBlock) (hd : (wof z X').headD o = (wof z X).headD o) : Blk W' yb 93 #[.bool b0, .int .i64 ((wof z X).headD o), .int .i64 b2, .int .i64 b3, v, rv] ∧ ToldM yb W3 b0 o b2 b3 z X' rv v' (W'.setCell ⟨yb, 4, none⟩ v') := by
  have hb : But (fun x => v.ownBlock = some x) W W' := (But.refl _ _).grown gr fun q e => .inl e
  have hlow : Below yb W W' := hb.below (B := yb) (Nat.le_of_lt h.blk.lt) fun q _ e => by have := (World.ownsRow.lt h.own q e).1; omega
  have hblk := h.blk.but hb (fun e => by have := (World.ownsRow.lt h.own _ e).1; omega)
  refine ⟨hblk, ?_, ?_, (h.low.trans hlow).trans (((But.refl (fun x => x = yb) W').set ⟨yb, 4, none⟩ v' (.inl rfl)).below (B := yb) (Nat.le_of_lt hblk.lt) fun _ _ q => by rw [q]; exact Nat.le_refl _)⟩
  · have := hblk.set_ 4 v'
    rw [hd]; exact this
  · exact own.but ((But.refl (fun x => x = yb) W').set ⟨yb, 4, none⟩ v' (.inl rfl)) fun g hg e => by have := (World.ownsRow.lt own g hg).1; omega
end
end Go.Proofs.Ytdomgipbadimmaa
