/- The document's Give: refused; nobody waits (layer 14). -/
import Derived.Test.YtdomgipbadimmaaE6
namespace Go.Proofs.Ytdomgipbadimmaa
open Go.RowKit
set_option maxRecDepth 100000

/-- The document's Give: what it tells and leaves. -/
def DGiveP (D : Nat → Prop) (c : Coh) (E : List Ent) (t : Int) (W : World) (e : Ending) (w' : World) : Prop :=
  ∃ wv rv, e = .returned (.tuple #[.agg (dcells (if isOfC c t = true then giveC c else c) wv rv).toArray, .int .i64 (if isOfC c t = true ∧ goesC c = true then (giveC c).own else 0), .bool (isOfC c t && goesC c), .int .i64 (if isOfC c t = true then 0 else 8)]) ∧
    DLk (Since D W) (if isOfC c t = true then giveC c else c) (if isOfC c t = true then dropW (giveC c).soc E else E) wv rv w' ∧ Below W.heap.size W w'
section
variable {D : Nat → Prop} {c : Coh} {E : List Ent} {wv rv : Value} {W w' : World} {t : Int}
theorem dgivep_no (h : DLk D c E wv rv W) (hi : isOfC c t = false) (hb : Below W.heap.size W w') : DGiveP D c E t W (.returned (.tuple #[.agg (dcells c wv rv).toArray, .int .i64 0, .bool false, .int .i64 8])) w' := by
  unfold DGiveP
  rw [hi]
  exact ⟨wv, rv, rfl, h.since hb, hb⟩
theorem dgivep_free (hi : isOfC c t = true) (hg : goesC c = false) (hE : E = []) (hb : Below W.heap.size W w') : DGiveP D c E t W (.returned (.tuple #[.agg (dcells zCoh (.slice none 0 0) (.slice none 0 0)).toArray, .int .i64 0, .bool false, .int .i64 0])) w' := by
  unfold DGiveP
  rw [hi, hg, give_none hg, hE]
  exact ⟨_, _, rfl, dlk_z _ _, hb⟩
theorem dgivep_on {c' : Coh} {x : Int} {E' : List Ent} {v r : Value} (hi : isOfC c t = true) (hg : goesC c = true) (hc : giveC c = c') (hx : c'.own = x) (hE : dropW c'.soc E = E') (h : DLk (Since D W) c' E' v r w') (hb : Below W.heap.size W w') : DGiveP D c E t W (.returned (.tuple #[.agg (dcells c' v r).toArray, .int .i64 x, .bool true, .int .i64 0])) w' := by
  unfold DGiveP
  rw [hi, hg, hc, hx]
  refine ⟨v, r, by simp, ?_, hb⟩
  rw [if_pos rfl, if_pos rfl, hE]; exact h
theorem heldD_yes (h : c.own ≠ -1) : heldD c = true := by unfold heldD; simpa using h
theorem ownD_yes (h : c.own ≠ -1) : ownD c = c.own := by unfold ownD; rw [if_neg h]
set_option maxHeartbeats 8000000 in
theorem dgive_no (t : Int) (h : DLk D c E wv rv W) (hi : isOfC c t = false) : Calls Try.prog 42 #[.agg (dcells c wv rv).toArray, .int .i64 t] W (DGiveP D c E t W) := by
  obtain ⟨A1, n1, c1, rfl⟩ := h.wts.slice
  obtain ⟨A2, n2, c2, rfl⟩ := h.rnd.slice
  have HF := Lib.hid (fun w' hb => dgivep_no (w' := w') h hi hb)
  by_cases hown : c.own = -1
  · have e0 : heldD c = false := by unfold heldD; simpa using hown
    unfold dcells at HF ⊢
    rw [e0] at HF ⊢
    generalize ownD c = o at *
    generalize c.soc = b2 at *
    generalize c.pas = b3 at *
    show Calls _ _ #[.agg #[.bool false, .int .i64 o, .int .i64 b2, .int .i64 b3, .slice A1 n1 c1, .slice A2 n2 c2], _] _ _
    clear h hi hown e0
    go_enter Try.func42, Try.ntmps42
    go_wp2_with fail
    refine bodyPost_ret (results_lock4 rfl _ _ (W.heap.size + 1) _ rfl (blk_new2 _ _ _ _) rfl) rfl ?_
    exact HF.out _ (((Below.refl _ _).alloc (Nat.le_refl _) _).alloc (by simp) _)
  · have e1 := ownD_yes hown
    have hot : (c.own != t) = true := by
      unfold isOfC at hi
      by_cases q : c.own = t
      · rw [show (c.own == t) = true by simpa using q, show (t == -1) = false by rw [← q]; simpa using hown] at hi
        cases hi
      · simpa using q
    unfold dcells at HF ⊢
    rw [heldD_yes hown, e1] at HF ⊢
    generalize c.own = o at *
    generalize c.soc = b2 at *
    generalize c.pas = b3 at *
    show Calls _ _ #[.agg #[.bool true, .int .i64 o, .int .i64 b2, .int .i64 b3, .slice A1 n1 c1, .slice A2 n2 c2], _] _ _
    clear h hi hown e1
    go_enter Try.func42, Try.ntmps42
    go_wp2_with fail
    refine bodyPost_ret (results_lock4 rfl _ _ (W.heap.size + 1) _ rfl (blk_new2 _ _ _ _) rfl) rfl ?_
    exact HF.out _ (((Below.refl _ _).alloc (Nat.le_refl _) _).alloc (by simp) _)
set_option maxHeartbeats 8000000 in
theorem dgive_free (t : Int) (h : DLk D c [] wv rv W) (hi : isOfC c t = true) (hg : goesC c = false) (hown : c.own = t) (hn : c.own ≠ -1) : Calls Try.prog 42 #[.agg (dcells c wv rv).toArray, .int .i64 t] W (DGiveP D c [] t W) := by
  obtain ⟨A1, c1, rfl, hc1, -, -⟩ := h.ent
  obtain ⟨A2, n2, c2, rfl⟩ := h.rnd.slice
  have HF := Lib.hid (fun w' hb => dgivep_free (D := D) (W := W) (w' := w') (E := []) hi hg rfl hb)
  unfold dcells at HF ⊢
  rw [heldD_yes hn, ownD_yes hn, hown]
  rw [show heldD zCoh = false by decide, show ownD zCoh = 0 by decide] at HF
  generalize c.soc = b2 at *
  generalize c.pas = b3 at *
  have tt : (t != t) = false := by simp
  show Calls _ _ #[.agg #[.bool true, .int .i64 t, .int .i64 b2, .int .i64 b3, .slice A1 0 c1, .slice A2 n2 c2], _] _ _
  clear h hi hg hown hn
  go_enter Try.func42, Try.ntmps42
  go_wp2_with fail
  refine bodyPost_ret (results_lock4 rfl _ _ (W.heap.size + 1) _ rfl (blk_new2 _ _ _ _) rfl) rfl ?_
  exact HF.out _ (((Below.refl _ _).alloc (Nat.le_refl _) _).alloc (by simp) _)
end
end Go.Proofs.Ytdomgipbadimmaa
