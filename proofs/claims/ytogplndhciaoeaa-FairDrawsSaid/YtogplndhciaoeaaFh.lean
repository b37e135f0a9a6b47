/- layer 33 (fair): the law file's lives. -/
import Derived.Test.YtogplndhciaoeaaFg
namespace Go.Proofs.Ytogplndhciaoeaa
open Go.RowKit
set_option maxRecDepth 100000

theorem ownU_one {w : World} {B : Nat} {v : Value} {z : Int} (h : OwnU B w v [z]) : ∃ g cap, v = .slice (some ⟨g, 0, none⟩) 1 cap ∧ g < w.heap.size ∧ w.cell? ⟨g, 0, none⟩ = some (.int .u64 z) := by
  have h' := h
  rcases h.2 with ⟨rfl, hn⟩ | ⟨g, cap, cur, rfl, hg, hh, hnc, _⟩
  · simp at hn
  · refine ⟨g, cap, rfl, (h'.lt g rfl).2, ?_⟩
    have := h'.cells (g := g) rfl 0 (.int .u64 z) rfl
    rwa [show (⟨g, 0, none⟩ : Addr).add 0 = ⟨g, 0, none⟩ by unfold Addr.add; rw [if_pos rfl]] at this
theorem row2 (w : World) (a b : Int) : RowN (w.heap.size + 1) (w.alloc (.cells #[.int .i64 a, .int .i64 b] 3)) (some ⟨w.heap.size, 0, none⟩) [a, b] := fun i hi => by
  have hb := Blk.new w 3 #[.int .i64 a, .int .i64 b]
  match i, hi with
  | 0, _ => exact ⟨_, 0, rfl, by omega, hb.cell 0⟩
  | 1, _ => exact ⟨_, 0, rfl, by omega, hb.cell 1⟩
theorem lives_draw : drawsL 0 1 = [16294208416658607535] := by decide +kernel
theorem lives_round : roundL [4, 7] 3 = [⟨1, 4, 0, 0, 0⟩, ⟨1, 7, 0, 0, 0⟩, ⟨1, 4, 0, 0, 0⟩] := rfl
def exE : List En := [⟨1, 4, 0, 0, 0⟩, ⟨1, 7, 0, 0, 0⟩, ⟨1, 4, 0, 0, 0⟩]
set_option maxHeartbeats 8000000 in
theorem lives33_any (w : World) : Calls Try.prog 13 #[] w fun e w' => e = .returned (.bool true) ∧ Below w.heap.size w w' := by
  have HD : Hid (∀ W : World, Calls Try.prog 8 #[.int .u64 0, .int .i64 1] W fun e w' => ∃ v, e = .returned v ∧ OwnU W.heap.size w' v (drawsL 0 1) ∧ Below W.heap.size W w') := fun W => draws_any 0 1 1 rfl W
  have HRD : Hid (∀ W : World, Calls Try.prog 22 #[.slice (some ⟨W.heap.size, 0, none⟩) 2 2, .int .i64 3] (W.alloc (.cells #[.int .i64 4, .int .i64 7] 3)) fun e w' => ∃ v, e = .returned v ∧ OwnE (W.heap.size + 1) w' v exE ∧ Below (W.heap.size + 1) (W.alloc (.cells #[.int .i64 4, .int .i64 7] 3)) w') := fun W => by
    have := round_any (some ⟨W.heap.size, 0, none⟩) [4, 7] 2 2 rfl (by omega) (by omega) 3 3 rfl (W.alloc (.cells #[.int .i64 4, .int .i64 7] 3)) (by rw [World.size_alloc]; exact row2 W 4 7)
    rw [World.size_alloc] at this
    exact this
  go_enter Try.func13, Try.ntmps13
  go_upto_region 2 with (go_at_call 8; (with_reducible refine (HD.out w).mono ?_); rintro e w1 ⟨v1, rfl, ho1, hb1⟩; rw [lives_draw] at ho1; obtain ⟨g1, cap1, rfl, hg1, hc1⟩ := ownU_one ho1; have HB1 := Lib.hid hb1; have HC1 := Lib.hid hc1; have HG1 := Lib.hid hg1; clear ho1 hb1 hc1 hg1)
  clear HD
  go_upto_region 3 with (go_at_call 22; (with_reducible refine (HRD.out w1).mono ?_); rintro e w2 ⟨v2, rfl, ho2, hb2⟩; have HO2 := Lib.hid ho2; have HB2 := Lib.hid hb2; clear ho2 hb2)
  clear HRD
  obtain ⟨A, cap, rfl, -, hr⟩ := ownE HO2.out
  have HR := Lib.hid hr
  obtain ⟨b0, o0, rfl, -, r0⟩ := hr 0 _ rfl
  obtain ⟨b1, o1, e1, -, r1⟩ := hr 1 _ rfl
  obtain ⟨rfl, rfl⟩ : b0 = b1 ∧ o0 = o1 := by injection e1 with e1; injection e1 with x y z; exact ⟨x, y⟩
  obtain ⟨b2, o2, e2, -, r2⟩ := hr 2 _ rfl
  obtain ⟨rfl, rfl⟩ : b0 = b2 ∧ o0 = o2 := by injection e2 with e1; injection e1 with x y z; exact ⟨x, y⟩
  clear e1 e2 hr
  have hB12 : Below w.heap.size w w2 := (HB1.out.alloc HB1.out.size _).trans (HB2.out.mono (by have := HB1.out.size; omega))
  have q0 : w2.cell? ⟨b0, o0 + 0 * 5 + 1, none⟩ = some (.int .i64 4) := r0 1 _ rfl
  have q1 : w2.cell? ⟨b0, o0 + 1 * 5 + 1, none⟩ = some (.int .i64 7) := r1 1 _ rfl
  have q2 : w2.cell? ⟨b0, o0 + 2 * 5 + 1, none⟩ = some (.int .i64 4) := r2 1 _ rfl
  have hd1 : w2.cell? ⟨g1, 0, none⟩ = some (.int .u64 16294208416658607535) := by
    have h := HG1.out
    have x : Below (w1.heap.size) w1 w2 := ((Below.refl _ w1).alloc (Nat.le_refl _) _).trans (HB2.out.mono (by omega))
    exact (x.cell (p := ⟨g1, 0, none⟩) h).trans HC1.out
  have HB12 := Lib.hid hB12
  have HL3 : exE.length = 3 := rfl
  have HW : Hid (∀ W : World, W = w2.alloc (.cells #[.int .i64 4, .int .i64 7] 3) → Calls Try.prog 17 #[.slice (some ⟨b0, o0, none⟩) 3 cap, .slice (some ⟨w2.heap.size, 0, none⟩) 2 2] W fun e w' => e = .returned (.int .i64 2) ∧ Below W.heap.size W w') := fun W hW => by
    subst hW
    exact window_any (some ⟨b0, o0, none⟩) (some ⟨w2.heap.size, 0, none⟩) exE 3 cap [4, 7] 2 2 rfl (by omega) rfl (by omega) _ ((HR.out.below ((Below.refl _ _).alloc (Nat.le_refl _) _)).mono (by simp)) (by rw [World.size_alloc]; exact row2 w2 4 7)
  have HGP : Hid (∀ W : World, Below w2.heap.size w2 W → Calls Try.prog 15 #[.slice (some ⟨b0, o0, none⟩) 3 cap, .int .i64 7] W fun e w' => e = .returned (.int .i64 1) ∧ Below W.heap.size W w') := fun W hW =>
    gap_any (some ⟨b0, o0, none⟩) exE 3 cap 7 rfl (by omega) W ((HR.out.below hW).mono hW.size)
  clear hB12 r0 r1 r2
  rw [HL3]
  go_wp2_with (first
    | (go_at_call 17; (with_reducible refine (HW.out _ rfl).mono ?_); rintro e w3 ⟨rfl, hb3⟩; have HB3 := Lib.hid hb3; clear hb3)
    | (go_at_call 15; (with_reducible refine (HGP.out _ ?_).mono ?_); (exact ((Below.refl _ _).alloc (Nat.le_refl _) _).trans (HB3.out.mono (by simp))); rintro e w4 ⟨rfl, hb4⟩; have HB4 := Lib.hid hb4; clear hb4))
  go_ret
  exact ⟨rfl, (((HB12.out.alloc HB12.out.size _).trans (HB3.out.mono (by have := HB12.out.size; simp; omega)))).trans (HB4.out.mono (by have := HB12.out.size; have := HB3.out.size; simp at this; omega))⟩
end Go.Proofs.Ytogplndhciaoeaa
