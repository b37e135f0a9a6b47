/- A row goes to the round's end: the drawn region of leave, by what has come up (layer 14). -/
import Derived.Test.YtdomgipbadimmaaCa
import Derived.Test.YtdomgipbadimmaaCz
namespace Go.Proofs.Ytdomgipbadimmaa
open Go.RowKit
set_option maxRecDepth 100000

/-- Slots of the fifteen operations. -/
def slotL (o : Nat) : Nat := [41, 42, 43, 44, 45, 46, 47, 48, 49, 50, 51, 52, 53, 54, 999].getD o 0
theorem slotL_inj : ∀ o, o < 15 → ∀ p, p < 15 → slotL o = slotL p → o = p := by decide
/-- A round out of which a row was struck. -/
structure DelR (g cap : Nat) (lab : Nat → LabC) (i : Nat) (L : List CRow) (W0 w : World) : Prop where
  but : But (fun k => k = g) W0 w
  rows : ∃ cs, Blk w g 105 cs ∧ cs.size = 2 * cap ∧ RowsM w lab i cs L
/-- The round with the row at its end, not yet the lock's. -/
structure FinR (lb : Nat) (lab : Nat → LabC) (i : Nat) (cs : Array Value) (L : List CRow) (W0 : World) (v : Value) (w : World) : Prop where
  rnd : ∃ lab', RndM w lab' i v L ∧ LabUp lab lab' i W0 ∧ (∀ k, w.heap.size ≤ k → lab' k = .no)
  but : But (fun k => OfLock i (lab k)) W0 w
  blk : Blk w lb 89 cs
/-- It is the lock's. -/
structure FinL (lb : Nat) (lab : Nat → LabC) (i : Nat) (cs : Array Value) (L : List CRow) (W0 w : World) : Prop where
  rnd : ∃ lab' rv, RndM w lab' i rv L ∧ LabUp lab lab' i W0 ∧ (∀ k, w.heap.size ≤ k → lab' k = .no) ∧ Blk w lb 89 (cs.setIfInBounds (4 * i + 3) rv)
  but : But (XLock lb lab i) W0 w
/-- What holds whatever has come up: L1: the round without the row; the row's cells lie in bx. -/
structure JL (val : Nat → Value) (lb g cap : Nat) (lab : Nat → LabC) (i : Nat) (cs : Array Value) (L1 : List CRow) (r : CRow) (bx : Array Value) (W0 : World) (L : Array Bool) (v : Nat → Value) (w : World) : Prop where
  sz : L.size = 15
  pv : ∀ o, o < 15 → o ≠ 11 → o ≠ 14 → OnL L o → v (slotL o) = val o
  d0 : ¬ OnL L 8 → ¬ OnL L 10 → w = W0
  d1 : ¬ OnL L 8 → OnL L 10 → w = W0.alloc (.cells bx 105)
  d2 : OnL L 8 → ¬ OnL L 10 → DelR g cap lab i L1 W0 w ∧ w.heap.size = W0.heap.size
  d3 : OnL L 8 → OnL L 10 → ¬ OnL L 11 → DelR g cap lab i L1 W0 w ∧ Blk w W0.heap.size 105 bx
  d4 : OnL L 11 → ¬ OnL L 14 → FinR lb lab i cs (L1 ++ [r]) W0 (v 52) w
  d5 : OnL L 14 → FinL lb lab i cs (L1 ++ [r]) W0 w
  u8 : OnL L 11 → OnL L 8 ∧ OnL L 10
  u14 : OnL L 14 → OnL L 11
section
variable {val : Nat → Value} {lb g cap i : Nat} {lab : Nat → LabC} {cs : Array Value} {L1 : List CRow} {r : CRow} {bx : Array Value} {W0 w w' : World} {L : Array Bool} {v : Nat → Value}
theorem JL.pure (h : JL val lb g cap lab i cs L1 r bx W0 L v w) {o : Nat} (ho : o < 15) (n8 : o ≠ 8) (n10 : o ≠ 10) (n11 : o ≠ 11) (n14 : o ≠ 14) (n52 : slotL o ≠ 52) : JL val lb g cap lab i cs L1 r bx W0 (L.setIfInBounds o true) (updV v (slotL o) (val o)) w := by
  have back : ∀ k, k ≠ o → OnL (L.setIfInBounds o true) k → OnL L k := fun k hk q => (onL_set q).resolve_left hk
  have b8 := back 8 (fun e => n8 e.symm); have b10 := back 10 (fun e => n10 e.symm); have b11 := back 11 (fun e => n11 e.symm); have b14 := back 14 (fun e => n14 e.symm)
  refine ⟨by simpa using h.sz, fun k hk k1 k2 hon => ?_, fun a b => h.d0 (fun q => a (onL_mono q)) fun q => b (onL_mono q), fun a b => h.d1 (fun q => a (onL_mono q)) (b10 b), fun a b => h.d2 (b8 a) fun q => b (onL_mono q), fun a b c => h.d3 (b8 a) (b10 b) fun q => c (onL_mono q), fun a b => ?_, fun a => h.d5 (b14 a), fun a => ⟨onL_mono (h.u8 (b11 a)).1, onL_mono (h.u8 (b11 a)).2⟩, fun a => onL_mono (h.u14 (b14 a))⟩
  · by_cases e : k = o
    · subst e; exact updV_same _ _ _
    · rw [updV_other _ _ fun q => e (slotL_inj k hk o ho q)]
      exact h.pv k hk k1 k2 (back k e hon)
  · rw [updV_other _ _ fun q => n52 q.symm]
    exact h.d4 (b11 a) fun q => b (onL_mono q)
/-- The row is struck: with what is left of the round. -/
theorem JL.del (h : JL val lb g cap lab i cs L1 r bx W0 L v w) (hn : ¬ OnL L 8) (hg : g < W0.heap.size) (hd : DelR g cap lab i L1 w w') (hs : w'.heap.size = w.heap.size) : JL val lb g cap lab i cs L1 r bx W0 (L.setIfInBounds 8 true) (updV v (slotL 8) (val 8)) w' := by
  have hsz : 8 < L.size := by rw [h.sz]; decide
  have back : ∀ k, k ≠ 8 → OnL (L.setIfInBounds 8 true) k → OnL L k := fun k hk q => (onL_set q).resolve_left hk
  have n11 : ¬ OnL L 11 := fun q => hn (h.u8 q).1
  have n14 : ¬ OnL L 14 := fun q => n11 (h.u14 q)
  have o8 := onL_here hsz
  refine ⟨by simpa using h.sz, fun k hk k1 k2 hon => ?_, fun a => absurd o8 a, fun a => absurd o8 a, fun _ b => ?_, fun _ b _ => ?_, fun a => absurd (back 11 (by decide) a) n11, fun a => absurd (back 14 (by decide) a) n14, fun a => absurd (back 11 (by decide) a) n11, fun a => absurd (back 14 (by decide) a) n14⟩
  · by_cases e : k = 8
    · subst e; exact updV_same _ _ _
    · rw [updV_other _ _ fun q => e (slotL_inj k hk 8 (by decide) q)]
      exact h.pv k hk k1 k2 (back k e hon)
  · have n10 : ¬ OnL L 10 := fun q => b (onL_mono q)
    have e := h.d0 hn n10
    subst e
    exact ⟨hd, hs⟩
  · have e := h.d1 hn (back 10 (by decide) b)
    subst e
    have hal : But Nob W0 (W0.alloc (.cells bx 105)) := (But.refl _ _).alloc _
    exact ⟨⟨hal.nob.trans hd.but, hd.rows⟩, (Blk.new W0 _ bx).but hd.but (by omega)⟩
/-- The row is laid anew. -/
theorem JL.box (h : JL val lb g cap lab i cs L1 r bx W0 L v w) (hn : ¬ OnL L 10) : w.heap.size = W0.heap.size ∧ JL val lb g cap lab i cs L1 r bx W0 (L.setIfInBounds 10 true) (updV v (slotL 10) (val 10)) (w.alloc (.cells bx 105)) := by
  have hsz : 10 < L.size := by rw [h.sz]; decide
  have back : ∀ k, k ≠ 10 → OnL (L.setIfInBounds 10 true) k → OnL L k := fun k hk q => (onL_set q).resolve_left hk
  have n11 : ¬ OnL L 11 := fun q => hn (h.u8 q).2
  have n14 : ¬ OnL L 14 := fun q => n11 (h.u14 q)
  have o10 := onL_here hsz
  have hws : w.heap.size = W0.heap.size := by
    by_cases q : OnL L 8
    · exact (h.d2 q hn).2
    · rw [h.d0 q hn]
  refine ⟨hws, by simpa using h.sz, fun k hk k1 k2 hon => ?_, fun _ a => absurd o10 a, fun a _ => ?_, fun _ a => absurd o10 a, fun a _ _ => ?_, fun a => absurd (back 11 (by decide) a) n11, fun a => absurd (back 14 (by decide) a) n14, fun a => absurd (back 11 (by decide) a) n11, fun a => absurd (back 14 (by decide) a) n14⟩
  · by_cases e : k = 10
    · subst e; exact updV_same _ _ _
    · rw [updV_other _ _ fun q => e (slotL_inj k hk 10 (by decide) q)]
      exact h.pv k hk k1 k2 (back k e hon)
  · rw [h.d0 (fun q => a (onL_mono q)) hn]
  · have hd := (h.d2 (back 8 (by decide) a) hn).1
    have hal : But Nob w (w.alloc (.cells bx 105)) := (But.refl _ _).alloc _
    obtain ⟨c, c1, c2, c3⟩ := hd.rows
    refine ⟨⟨hd.but.trans hal.nob, c, c1.but hal id, c2, c3.but hal (fun _ _ _ _ q => q) (fun _ _ => rfl)⟩, ?_⟩
    rw [← hws]; exact Blk.new w _ bx
/-- The row stands at the end. -/
theorem JL.app (h : JL val lb g cap lab i cs L1 r bx W0 L v w) (hn : ¬ OnL L 11) {v' : Value} (hf : FinR lb lab i cs (L1 ++ [r]) W0 v' w') (h8 : OnL L 8) (h10 : OnL L 10) : JL val lb g cap lab i cs L1 r bx W0 (L.setIfInBounds 11 true) (updV v 52 v') w' := by
  have hsz : 11 < L.size := by rw [h.sz]; decide
  have back : ∀ k, k ≠ 11 → OnL (L.setIfInBounds 11 true) k → OnL L k := fun k hk q => (onL_set q).resolve_left hk
  have n14 : ¬ OnL L 14 := fun q => hn (h.u14 q)
  have o11 := onL_here hsz
  refine ⟨by simpa using h.sz, fun k hk k1 k2 hon => ?_, fun a => absurd (onL_mono h8) a, fun a => absurd (onL_mono h8) a, fun _ a => absurd (onL_mono h10) a, fun _ _ a => absurd o11 a, fun _ _ => ?_, fun a => absurd (back 14 (by decide) a) n14, fun _ => ⟨onL_mono h8, onL_mono h10⟩, fun _ => o11⟩
  · rw [updV_other v v' (s := 52) (k := slotL k) (fun q => k1 (slotL_inj k hk 11 (by decide) q))]
    exact h.pv k hk k1 k2 (back k k1 hon)
  · rw [updV_same]; exact hf
/-- The lock's cell is written. -/
theorem JL.put (h : JL val lb g cap lab i cs L1 r bx W0 L v w) (h11 : OnL L 11) (hf : FinL lb lab i cs (L1 ++ [r]) W0 w') : JL val lb g cap lab i cs L1 r bx W0 (L.setIfInBounds 14 true) v w' := by
  have hsz : 14 < L.size := by rw [h.sz]; decide
  have back : ∀ k, k ≠ 14 → OnL (L.setIfInBounds 14 true) k → OnL L k := fun k hk q => (onL_set q).resolve_left hk
  have o14 := onL_here hsz
  obtain ⟨h8, h10⟩ := h.u8 h11
  exact ⟨by simpa using h.sz, fun k hk k1 k2 hon => h.pv k hk k1 k2 (back k k2 hon), fun a => absurd (onL_mono h8) a, fun a => absurd (onL_mono h8) a, fun _ a => absurd (onL_mono h10) a, fun _ _ a => absurd (onL_mono h11) a, fun _ a => absurd o14 a, fun _ => hf, fun _ => ⟨onL_mono h8, onL_mono h10⟩, fun _ => onL_mono h11⟩
theorem JL.start : JL val lb g cap lab i cs L1 r bx W0 (Array.replicate 15 false) v W0 :=
  ⟨by simp, fun o _ _ _ h => absurd h (onL_none _ _), fun _ _ => rfl, fun _ h => absurd h (onL_none _ _), fun h => absurd h (onL_none _ _), fun h => absurd h (onL_none _ _), fun h => absurd h (onL_none _ _), fun h => absurd h (onL_none _ _), fun h => absurd h (onL_none _ _), fun h => absurd h (onL_none _ _)⟩
end
end Go.Proofs.Ytdomgipbadimmaa
