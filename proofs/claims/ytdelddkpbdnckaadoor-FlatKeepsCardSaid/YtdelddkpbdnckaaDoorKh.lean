/- The frame of an event's task (layer 19). -/
import Derived.Test.YtdelddkpbdnckaaDoorKg
namespace Go.Proofs.YtdelddkpbdnckaaDoor
open Go.RowKit
set_option maxRecDepth 100000

/-- The three boxes of an event's task. -/
structure Fro (w W : World) (F O : Value) (p : Nat → Bool) (t : Int) (e : EvP) (g a : Nat) : Prop where
  bl : Below w.heap.size w W
  bf : BF W w.heap.size F O p t
  be : Blk W (w.heap.size + 1) 36 #[.int .i64 e.kd, .int .i64 e.tk, .int .i64 e.cpu, .int .i64 e.a, .int .i64 e.b]
  bp : Blk W (w.heap.size + 2) 91 #[.pointer (some ⟨g, a, none⟩)]
section
variable {w W W' : World} {F O : Value} {p : Nat → Bool} {t : Int} {e : EvP} {g a : Nat}
theorem Fro.on (h : Fro w W F O p t e g a) (hb : Below W.heap.size W W') : Fro w W' F O p t e g a :=
  ⟨h.bl.trans (hb.mono h.bl.size), Blk.below h.bf hb (Blk.lt h.bf), h.be.below hb h.be.lt, h.bp.below hb h.bp.lt⟩
theorem Fro.drew (h : Fro w W F O p t e g a) : Fro w W.drew F O p t e g a := h.on ((Below.refl _ _).drew)
theorem Fro.ev (h : Fro w W F O p t e g a) : W.cell? ⟨w.heap.size + 1, 0, none⟩ = some (.int .i64 e.kd) ∧ W.cell? ⟨w.heap.size + 1, 1, none⟩ = some (.int .i64 e.tk) ∧ W.cell? ⟨w.heap.size + 1, 2, none⟩ = some (.int .i64 e.cpu) ∧ W.cell? ⟨w.heap.size + 1, 3, none⟩ = some (.int .i64 e.a) ∧ W.cell? ⟨w.heap.size + 1, 4, none⟩ = some (.int .i64 e.b) :=
  ⟨h.be.cell 0, h.be.cell 1, h.be.cell 2, h.be.cell 3, h.be.cell 4⟩
theorem Fro.new (w : World) (F O : Value) (p : Nat → Bool) (t : Int) (e : EvP) (g a : Nat) :
    Fro w (((w.alloc (.cells (flL F O p t).toArray 30)).alloc (.cells #[.int .i64 e.kd, .int .i64 e.tk, .int .i64 e.cpu, .int .i64 e.a, .int .i64 e.b] 36)).alloc (.cells #[.pointer (some ⟨g, a, none⟩)] 91)) F O p t e g a where
  bl := (((Below.refl _ _).alloc (Nat.le_refl _) _).alloc (by simp) _).alloc (by simp; omega) _
  bf := ((Blk.new w _ _).alloc _).alloc _
  be := by
    have := Blk.new (w.alloc (.cells (flL F O p t).toArray 30)) 36 #[.int .i64 e.kd, .int .i64 e.tk, .int .i64 e.cpu, .int .i64 e.a, .int .i64 e.b]
    refine Blk.alloc ?_ _
    simpa using this
  bp := by
    have := Blk.new ((w.alloc (.cells (flL F O p t).toArray 30)).alloc (.cells #[.int .i64 e.kd, .int .i64 e.tk, .int .i64 e.cpu, .int .i64 e.a, .int .i64 e.b] 36)) 91 #[.pointer (some ⟨g, a, none⟩)]
    simpa using this
end
section
variable {w w' W : World} {B g cap : Nat} {O : Value} {ts : List FT} {ow : List Int} {i : Nat} {R : Option FT} {e : Ending}
theorem TaskW.from (h : TaskW W B g cap O ts ow i R w') (hb : Below w.heap.size w W) : TaskW w B g cap O ts ow i R w' := by
  rcases h with ⟨a, c⟩ | ⟨y, a, c, d⟩
  · exact .inl ⟨a, hb.trans (c.mono hb.size)⟩
  · exact .inr ⟨y, a, c, (But.of_below hb).trans d⟩
theorem TaskG.from (h : TaskG W B g cap O ts ow i R e w') (hb : Below w.heap.size w W) : TaskG w B g cap O ts ow i R e w' := ⟨h.1, h.2.from hb⟩
end
end Go.Proofs.YtdelddkpbdnckaaDoor
