/- layer 35 (census): the law file's lives. -/
import Derived.Test.YtnbiklkgkidlnaaCf
namespace Go.Proofs.Ytnbiklkgkidlnaa
open Go.RowKit Go.Shelf Go.Maps
set_option maxRecDepth 100000

theorem row_lit (w : World) (l : List Int) : RowN (w.heap.size + 1) (w.alloc (.cells (l.map (Value.int .i64)).toArray 3)) (some ⟨w.heap.size, 0, none⟩) l := fun i hi => by
  refine ⟨_, 0, rfl, by omega, ?_⟩
  rw [(Blk.new w 3 (l.map (Value.int .i64)).toArray).cell, Nat.zero_add, List.getElem?_toArray, List.getElem?_map, List.getElem?_eq_getElem hi]
  rfl
set_option maxHeartbeats 4000000 in
theorem lives35_any (w : World) : Calls Try.prog 6 #[] w fun e w' => e = .returned (.bool true) ∧ Below w.heap.size w w' := by
  have HQ : Hid (∀ X, X = w.alloc (.cells #[.int .i64 9, .int .i64 1, .int .i64 5] 3) → Calls Try.prog 9 #[.slice (some ⟨w.heap.size, 0, none⟩) 3 3, .int .i64 50] X fun e w' => e = .returned (.tuple #[.int .i64 5, .bool true]) ∧ Below w.heap.size w w') := fun X hX => by
    subst hX
    have hb : Below w.heap.size w (w.alloc (.cells #[.int .i64 9, .int .i64 1, .int .i64 5] 3)) := (Below.refl _ _).alloc (Nat.le_refl _) _
    refine (quant_any _ [9, 1, 5] 3 3 rfl (by omega) 50 _ (by rw [World.size_alloc]; exact row_lit w [9, 1, 5])).mono ?_
    rintro e w' ⟨rfl, h2⟩
    exact ⟨by unfold tupQ; rw [if_neg (by decide), q_ex], hb.trans (h2.mono hb.size)⟩
  have HH : Hid (∀ W X, X = (W.alloc (.cells #[.int .i64 1, .int .i64 5, .int .i64 9] 3)).alloc (.cells #[.int .i64 2, .int .i64 6] 3) → Calls Try.prog 11 #[.slice (some ⟨W.heap.size, 0, none⟩) 3 3, .slice (some ⟨W.heap.size + 1, 0, none⟩) 2 2] X fun e w' => ∃ A, e = .returned (.slice A 3 3) ∧ RowN w'.heap.size w' A [1, 1, 1] ∧ Below W.heap.size W w') := fun W X hX => by
    subst hX
    have hb1 : Below W.heap.size W (W.alloc (.cells #[.int .i64 1, .int .i64 5, .int .i64 9] 3)) := (Below.refl _ _).alloc (Nat.le_refl _) _
    have hb2 : Below (W.alloc (.cells #[.int .i64 1, .int .i64 5, .int .i64 9] 3)).heap.size (W.alloc (.cells #[.int .i64 1, .int .i64 5, .int .i64 9] 3)) ((W.alloc (.cells #[.int .i64 1, .int .i64 5, .int .i64 9] 3)).alloc (.cells #[.int .i64 2, .int .i64 6] 3)) := (Below.refl _ _).alloc (Nat.le_refl _) _
    have r1 := ((row_lit W [1, 5, 9]).mono (B' := (W.alloc (.cells #[.int .i64 1, .int .i64 5, .int .i64 9] 3)).heap.size) (by simp)).below hb2
    have r2 := row_lit (W.alloc (.cells #[.int .i64 1, .int .i64 5, .int .i64 9] 3)) [2, 6]
    rw [World.size_alloc] at r2
    refine (hist_any _ _ [1, 5, 9] [2, 6] 3 3 2 2 rfl rfl (by omega) (by omega) _ (r1.mono hb2.size) (by rw [World.size_alloc, World.size_alloc]; exact r2)).mono ?_
    rintro e w' ⟨v, rfl, hc, h3⟩
    rw [hist_ex] at hc
    obtain ⟨A, rfl, hr⟩ := hc.row
    exact ⟨A, rfl, hr, (hb1.trans (hb2.mono hb1.size)).trans (h3.mono (Nat.le_trans hb1.size hb2.size))⟩
  have HS : Hid (∀ W A, RowN W.heap.size W A [1, 1, 1] → ∀ X, X = W.alloc (.cells #[.int .i64 1, .int .i64 1, .int .i64 1] 3) → Calls Try.prog 10 #[.slice A 3 3, .slice (some ⟨W.heap.size, 0, none⟩) 3 3] X fun e w' => e = .returned (.bool true) ∧ Below W.heap.size W w') := fun W A h X hX => by
    subst hX
    have hb : Below W.heap.size W (W.alloc (.cells #[.int .i64 1, .int .i64 1, .int .i64 1] 3)) := (Below.refl _ _).alloc (Nat.le_refl _) _
    refine (same4_any A _ [1, 1, 1] 3 3 3 rfl (by omega) _ ((h.below hb).mono hb.size) (by rw [World.size_alloc]; exact row_lit W [1, 1, 1])).mono ?_
    rintro e w' ⟨rfl, h2⟩
    exact ⟨rfl, hb.trans (h2.mono hb.size)⟩
  go_enter Try.func6, Try.ntmps6
  go_wp2_with (first
    | (go_at_call 9; (with_reducible refine (HQ.out _ rfl).mono ?_); rintro e w1 ⟨rfl, hb1⟩; have HB1 := Lib.hid hb1; clear hb1)
    | (go_at_call 11; (with_reducible refine (HH.out _ _ rfl).mono ?_); rintro e w2 ⟨A2, rfl, hr2, hb2⟩; have HR2 := Lib.hid hr2; have HB2 := Lib.hid (HB1.out.trans (hb2.mono HB1.out.size)); clear hr2 hb2)
    | (go_at_call 10; (with_reducible refine (HS.out _ _ HR2.out _ rfl).mono ?_); rintro e w3 ⟨rfl, hb3⟩; have HB3 := Lib.hid (HB2.out.trans (hb3.mono HB2.out.size)); clear hb3))
  go_ret
  exact ⟨rfl, HB3.out⟩
end Go.Proofs.Ytnbiklkgkidlnaa
