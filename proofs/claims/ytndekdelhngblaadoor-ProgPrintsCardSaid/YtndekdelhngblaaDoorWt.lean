/- prog's parseIns at the two lines of the laws' example. -/
import Derived.Test.YtndekdelhngblaaDoorWs
namespace Go.Proofs.YtndekdelhngblaaDoor
open Go.RowKit

set_option maxRecDepth 100000 in
set_option maxHeartbeats 4000000 in
theorem parseIns_13 (w : World) (hT : Tabs w) : Calls Tryd.prog 31 #[.string ⟨#[9, 111, 117, 116, 32, 114, 48]⟩] w fun e w' => e = .returned (.tuple #[.agg #[.int .i64 13, .int .i64 0, .int .i64 0, .int .i32 0], .bool true]) ∧ Below w.heap.size w w' := by
  have hbx := Blk.new w 38 #[.int .i64 0, .int .i64 0, .int .i64 0, .int .i32 0]
  have hT1 := hT.alloc (.cells #[.int .i64 0, .int .i64 0, .int .i64 0, .int .i32 0] 38)
  have hB1 : Below w.heap.size w (w.alloc (.cells #[.int .i64 0, .int .i64 0, .int .i64 0, .int .i32 0] 38)) := (Below.refl _ _).alloc (Nat.le_refl _) _
  have HC := Lib.hid (cut_is (s := [111, 117, 116, 32, 114, 48]) (sep := [32]) (a := [111, 117, 116]) (b := [114, 48]) (f := true) (by decide) (by decide) _ hT1)
  have HP : Hid (∀ W, Calls Tryd.prog 43 #[.string ⟨#[9, 111, 117, 116, 32, 114, 48]⟩, .string ⟨#[9]⟩] W fun e w' => e = .returned (.string ⟨#[111, 117, 116, 32, 114, 48]⟩) ∧ W = w') := fun W => by
    refine (Tryd.strings_TrimPrefix ⟨#[9, 111, 117, 116, 32, 114, 48]⟩ ⟨#[9]⟩ W).mono ?_
    rintro e w' ⟨rfl, rfl⟩
    exact ⟨by rw [show Lib.trimPrefix (⟨#[9, 111, 117, 116, 32, 114, 48]⟩ : ByteArray).data.toList (⟨#[9]⟩ : ByteArray).data.toList = [111, 117, 116, 32, 114, 48] from by decide], rfl⟩
  have HH : Hid (∀ W, Calls Tryd.prog 33 #[.int .i64 13] W fun e w' => e = .returned (.tuple #[.bool true, .bool false, .bool false]) ∧ W = w') := fun W => by
    have := has_any 13 W; unfold HasP at this
    rw [show hasA 13 = true from by decide, show hasB 13 = false from by decide, show hasN 13 = false from by decide] at this; exact this
  have hRA : regOk 0 true = true := by decide
  have hRB : regOk 0 false = true := by decide
  have HMA : Hid (∀ W, Calls Tryd.prog 34 #[.int .i64 0, .bool true] W fun e w' => e = .returned (.bool true) ∧ W = w') := fun W => by have := mayReg_any 0 true W; rw [hRA] at this; exact this
  have HMB : Hid (∀ W, Calls Tryd.prog 34 #[.int .i64 0, .bool false] W fun e w' => e = .returned (.bool true) ∧ W = w') := fun W => by have := mayReg_any 0 false W; rw [hRB] at this; exact this
  have HPI : Hid (∀ W, Tabs W → Calls Tryd.prog 23 #[.agg #[.int .i64 13, .int .i64 0, .int .i64 0, .int .i32 0]] W fun e w' => e = .returned (.string ⟨#[9, 111, 117, 116, 32, 114, 48]⟩) ∧ Below W.heap.size W w') := fun W hW => by
    have := printIns_any ⟨13, 0, 0, 0⟩ ⟨by show In64 _; unfold In64; dsimp only; omega, by show In64 _; unfold In64; dsimp only; omega, by show In64 _; unfold In64; dsimp only; omega, by dsimp only; omega⟩ W hW
    rw [show lineL ⟨13, 0, 0, 0⟩ = [9, 111, 117, 116, 32, 114, 48] from by decide +kernel] at this; exact this
  clear hRA hRB
  have HX := Lib.hid hbx; have HT := Lib.hid hT; have HB1 := Lib.hid hB1
  clear hbx hT hT1 hB1
  go_enter Tryd.func31, Tryd.ntmps31
  go_wp2_with (first
    | (go_at_call 43; (with_reducible refine (HP.out _).mono ?_); rintro e wq ⟨rfl, rfl⟩)
    | (go_at_call 42; (with_reducible refine HC.out.mono ?_); rintro e w4 ⟨rfl, h4⟩; have H4 := Lib.hid h4; have HF := Lib.hid (find_13 w4 (HT.out.on (HB1.out.trans (h4.mono HB1.out.size)))); clear h4)
    | (go_at_call 44; (with_reducible refine HF.out.mono ?_); rintro e wq ⟨rfl, rfl⟩; have hb7 := Blk.new w4 38 #[.int .i64 13, .int .i64 0, .int .i64 0, .int .i32 0]; have y0 := hb7.cell 0; have y1 := hb7.cell 1; have f1 := hb7.free 1; simp only [List.getElem?_toArray, List.getElem?_cons_zero, List.getElem?_cons_succ] at y0 y1; have HB7 := Lib.hid hb7; clear hb7)
    | (go_at_call 33; (with_reducible refine (HH.out _).mono ?_); rintro e wq ⟨rfl, rfl⟩))
  have b4 : Below w.heap.size w w4 := HB1.out.trans (H4.out.mono HB1.out.size)
  have hX4 := HX.out.below H4.out HX.out.lt
  have hw4 : w.heap.size < w4.heap.size := hX4.lt
  have hT5 := HT.out.on (b4.alloc b4.size (.cells #[.int .i64 13, .int .i64 0, .int .i64 0, .int .i32 0] 38))
  have HB4 := Lib.hid b4; have HX4 := Lib.hid hX4
  clear y0 y1 f1 b4 hX4 HX H4 HC HP HF HH HB1
  refine (parseReg_r0 _ hT5).mono ?_
  rintro e w5 ⟨rfl, h5⟩
  have h7 := HB7.out.below h5 HB7.out.lt
  have hX5 := (HX4.out.alloc (.cells #[.int .i64 13, .int .i64 0, .int .i64 0, .int .i32 0] 38)).below h5 (by rw [World.size_alloc]; omega)
  have b5 : Below w.heap.size w w5 := (HB4.out.alloc HB4.out.size (.cells #[.int .i64 13, .int .i64 0, .int .i64 0, .int .i32 0] 38)).trans (h5.mono (by rw [World.size_alloc]; omega))
  have z0 := h7.cell 0; have z1 := h7.cell 1; have z2 := h7.cell 2; have z3 := h7.cell 3; have g1 := h7.free 1
  simp only [List.getElem?_toArray, List.getElem?_cons_zero, List.getElem?_cons_succ] at z0 z1 z2 z3
  have b6 : Below w.heap.size w (w5.setCell ⟨w4.heap.size, 1, none⟩ (.int .i64 0)) := ((But.of_below b5).set (X := Nob) ⟨w4.heap.size, 1, none⟩ (.int .i64 0) (.inr (by show w.heap.size ≤ w4.heap.size; omega))).below (Nat.le_refl _) fun _ _ q => q.elim
  have hX6 : Blk (w5.setCell ⟨w4.heap.size, 1, none⟩ (.int .i64 0)) w.heap.size 38 #[.int .i64 0, .int .i64 0, .int .i64 0, .int .i32 0] := hX5.far (by show w.heap.size ≠ w4.heap.size; omega) _
  have h76 := h7.set_ 1 (.int .i64 0)
  have HTW := Lib.hid (HT.out.on b6)
  have HX6 := Lib.hid hX6; have HB6 := Lib.hid b6; have H76 := Lib.hid h76
  clear hT5 h5 h7 hX5 b5 HB7 HX4 b6 hX6 HT HB4 h76
  go_wp2_with (first
    | (go_at_call 34; (first | (with_reducible refine (HMA.out _).mono ?_) | (with_reducible refine (HMB.out _).mono ?_)); rintro e wq ⟨rfl, rfl⟩)
    | (go_at_call 23; (with_reducible refine (HPI.out _ HTW.out).mono ?_); rintro e w7 ⟨rfl, h7⟩
       have hX7 := HX6.out.below h7 HX6.out.lt
       have h77 := H76.out.below h7 H76.out.lt
       have u0 := h77.cell 0; have u1 := h77.cell 1; have u2 := h77.cell 2; have u3 := h77.cell 3
       have r0 := hX7.cell 0; have r1 := hX7.cell 1; have r2 := hX7.cell 2; have r3 := hX7.cell 3
       have q0 := hX7.free 0; have q1 := hX7.free 1; have q2 := hX7.free 2; have q3 := hX7.free 3
       simp only [List.getElem?_toArray, List.getElem?_cons_zero, List.getElem?_cons_succ, List.setIfInBounds_toArray, List.set_cons_succ, List.set_cons_zero] at u0 u1 u2 u3 r0 r1 r2 r3
       have HB7 := Lib.hid (HB6.out.trans (h7.mono HB6.out.size)); have HX7 := Lib.hid hX7
       clear h7 hX7 h77 z0 z1 z2 z3 g1))
  have hX9 := (((HX7.out.set_ 0 (.int .i64 13)).set_ 1 (.int .i64 0)).set_ 2 (.int .i64 0)).set_ 3 (.int .i32 0)
  have hB9 : Below w.heap.size w ((((w7.setCell ⟨w.heap.size, 0, none⟩ (.int .i64 13)).setCell ⟨w.heap.size, 1, none⟩ (.int .i64 0)).setCell ⟨w.heap.size, 2, none⟩ (.int .i64 0)).setCell ⟨w.heap.size, 3, none⟩ (.int .i32 0)) :=
    (((((But.of_below HB7.out).set (X := Nob) _ _ (.inr (Nat.le_refl _))).set _ _ (.inr (Nat.le_refl _))).set _ _ (.inr (Nat.le_refl _))).set _ _ (.inr (Nat.le_refl _))).below (Nat.le_refl _) fun _ _ q => q.elim
  generalize (((w7.setCell ⟨w.heap.size, 0, none⟩ (.int .i64 13)).setCell ⟨w.heap.size, 1, none⟩ (.int .i64 0)).setCell ⟨w.heap.size, 2, none⟩ (.int .i64 0)).setCell ⟨w.heap.size, 3, none⟩ (.int .i32 0) = W9 at *
  have s0 := hX9.cell 0; have s1 := hX9.cell 1; have s2 := hX9.cell 2; have s3 := hX9.cell 3
  simp only [List.getElem?_toArray, List.getElem?_cons_zero, List.getElem?_cons_succ, List.setIfInBounds_toArray, List.set_cons_succ, List.set_cons_zero] at s0 s1 s2 s3
  exact bodyPost_ret (v := .tuple #[.agg #[.int .i64 13, .int .i64 0, .int .i64 0, .int .i32 0], .bool true]) (by simp [results, Tryd.results31, go_sem, s0, s1, s2, s3]) rfl ⟨rfl, hB9⟩
set_option maxRecDepth 100000 in
set_option maxHeartbeats 4000000 in
theorem parseIns_14 (w : World) (hT : Tabs w) : Calls Tryd.prog 31 #[.string ⟨#[9, 101, 120, 105, 116, 32, 114, 48]⟩] w fun e w' => e = .returned (.tuple #[.agg #[.int .i64 14, .int .i64 0, .int .i64 0, .int .i32 0], .bool true]) ∧ Below w.heap.size w w' := by
  have hbx := Blk.new w 38 #[.int .i64 0, .int .i64 0, .int .i64 0, .int .i32 0]
  have hT1 := hT.alloc (.cells #[.int .i64 0, .int .i64 0, .int .i64 0, .int .i32 0] 38)
  have hB1 : Below w.heap.size w (w.alloc (.cells #[.int .i64 0, .int .i64 0, .int .i64 0, .int .i32 0] 38)) := (Below.refl _ _).alloc (Nat.le_refl _) _
  have HC := Lib.hid (cut_is (s := [101, 120, 105, 116, 32, 114, 48]) (sep := [32]) (a := [101, 120, 105, 116]) (b := [114, 48]) (f := true) (by decide) (by decide) _ hT1)
  have HP : Hid (∀ W, Calls Tryd.prog 43 #[.string ⟨#[9, 101, 120, 105, 116, 32, 114, 48]⟩, .string ⟨#[9]⟩] W fun e w' => e = .returned (.string ⟨#[101, 120, 105, 116, 32, 114, 48]⟩) ∧ W = w') := fun W => by
    refine (Tryd.strings_TrimPrefix ⟨#[9, 101, 120, 105, 116, 32, 114, 48]⟩ ⟨#[9]⟩ W).mono ?_
    rintro e w' ⟨rfl, rfl⟩
    exact ⟨by rw [show Lib.trimPrefix (⟨#[9, 101, 120, 105, 116, 32, 114, 48]⟩ : ByteArray).data.toList (⟨#[9]⟩ : ByteArray).data.toList = [101, 120, 105, 116, 32, 114, 48] from by decide], rfl⟩
  have HH : Hid (∀ W, Calls Tryd.prog 33 #[.int .i64 14] W fun e w' => e = .returned (.tuple #[.bool true, .bool false, .bool false]) ∧ W = w') := fun W => by
    have := has_any 14 W; unfold HasP at this
    rw [show hasA 14 = true from by decide, show hasB 14 = false from by decide, show hasN 14 = false from by decide] at this; exact this
  have hRA : regOk 0 true = true := by decide
  have hRB : regOk 0 false = true := by decide
  have HMA : Hid (∀ W, Calls Tryd.prog 34 #[.int .i64 0, .bool true] W fun e w' => e = .returned (.bool true) ∧ W = w') := fun W => by have := mayReg_any 0 true W; rw [hRA] at this; exact this
  have HMB : Hid (∀ W, Calls Tryd.prog 34 #[.int .i64 0, .bool false] W fun e w' => e = .returned (.bool true) ∧ W = w') := fun W => by have := mayReg_any 0 false W; rw [hRB] at this; exact this
  have HPI : Hid (∀ W, Tabs W → Calls Tryd.prog 23 #[.agg #[.int .i64 14, .int .i64 0, .int .i64 0, .int .i32 0]] W fun e w' => e = .returned (.string ⟨#[9, 101, 120, 105, 116, 32, 114, 48]⟩) ∧ Below W.heap.size W w') := fun W hW => by
    have := printIns_any ⟨14, 0, 0, 0⟩ ⟨by show In64 _; unfold In64; dsimp only; omega, by show In64 _; unfold In64; dsimp only; omega, by show In64 _; unfold In64; dsimp only; omega, by dsimp only; omega⟩ W hW
    rw [show lineL ⟨14, 0, 0, 0⟩ = [9, 101, 120, 105, 116, 32, 114, 48] from by decide +kernel] at this; exact this
  clear hRA hRB
  have HX := Lib.hid hbx; have HT := Lib.hid hT; have HB1 := Lib.hid hB1
  clear hbx hT hT1 hB1
  go_enter Tryd.func31, Tryd.ntmps31
  go_wp2_with (first
    | (go_at_call 43; (with_reducible refine (HP.out _).mono ?_); rintro e wq ⟨rfl, rfl⟩)
    | (go_at_call 42; (with_reducible refine HC.out.mono ?_); rintro e w4 ⟨rfl, h4⟩; have H4 := Lib.hid h4; have HF := Lib.hid (find_14 w4 (HT.out.on (HB1.out.trans (h4.mono HB1.out.size)))); clear h4)
    | (go_at_call 44; (with_reducible refine HF.out.mono ?_); rintro e wq ⟨rfl, rfl⟩; have hb7 := Blk.new w4 38 #[.int .i64 14, .int .i64 0, .int .i64 0, .int .i32 0]; have y0 := hb7.cell 0; have y1 := hb7.cell 1; have f1 := hb7.free 1; simp only [List.getElem?_toArray, List.getElem?_cons_zero, List.getElem?_cons_succ] at y0 y1; have HB7 := Lib.hid hb7; clear hb7)
    | (go_at_call 33; (with_reducible refine (HH.out _).mono ?_); rintro e wq ⟨rfl, rfl⟩))
  have b4 : Below w.heap.size w w4 := HB1.out.trans (H4.out.mono HB1.out.size)
  have hX4 := HX.out.below H4.out HX.out.lt
  have hw4 : w.heap.size < w4.heap.size := hX4.lt
  have hT5 := HT.out.on (b4.alloc b4.size (.cells #[.int .i64 14, .int .i64 0, .int .i64 0, .int .i32 0] 38))
  have HB4 := Lib.hid b4; have HX4 := Lib.hid hX4
  clear y0 y1 f1 b4 hX4 HX H4 HC HP HF HH HB1
  refine (parseReg_r0 _ hT5).mono ?_
  rintro e w5 ⟨rfl, h5⟩
  have h7 := HB7.out.below h5 HB7.out.lt
  have hX5 := (HX4.out.alloc (.cells #[.int .i64 14, .int .i64 0, .int .i64 0, .int .i32 0] 38)).below h5 (by rw [World.size_alloc]; omega)
  have b5 : Below w.heap.size w w5 := (HB4.out.alloc HB4.out.size (.cells #[.int .i64 14, .int .i64 0, .int .i64 0, .int .i32 0] 38)).trans (h5.mono (by rw [World.size_alloc]; omega))
  have z0 := h7.cell 0; have z1 := h7.cell 1; have z2 := h7.cell 2; have z3 := h7.cell 3; have g1 := h7.free 1
  simp only [List.getElem?_toArray, List.getElem?_cons_zero, List.getElem?_cons_succ] at z0 z1 z2 z3
  have b6 : Below w.heap.size w (w5.setCell ⟨w4.heap.size, 1, none⟩ (.int .i64 0)) := ((But.of_below b5).set (X := Nob) ⟨w4.heap.size, 1, none⟩ (.int .i64 0) (.inr (by show w.heap.size ≤ w4.heap.size; omega))).below (Nat.le_refl _) fun _ _ q => q.elim
  have hX6 : Blk (w5.setCell ⟨w4.heap.size, 1, none⟩ (.int .i64 0)) w.heap.size 38 #[.int .i64 0, .int .i64 0, .int .i64 0, .int .i32 0] := hX5.far (by show w.heap.size ≠ w4.heap.size; omega) _
  have h76 := h7.set_ 1 (.int .i64 0)
  have HTW := Lib.hid (HT.out.on b6)
  have HX6 := Lib.hid hX6; have HB6 := Lib.hid b6; have H76 := Lib.hid h76
  clear hT5 h5 h7 hX5 b5 HB7 HX4 b6 hX6 HT HB4 h76
  go_wp2_with (first
    | (go_at_call 34; (first | (with_reducible refine (HMA.out _).mono ?_) | (with_reducible refine (HMB.out _).mono ?_)); rintro e wq ⟨rfl, rfl⟩)
    | (go_at_call 23; (with_reducible refine (HPI.out _ HTW.out).mono ?_); rintro e w7 ⟨rfl, h7⟩
       have hX7 := HX6.out.below h7 HX6.out.lt
       have h77 := H76.out.below h7 H76.out.lt
       have u0 := h77.cell 0; have u1 := h77.cell 1; have u2 := h77.cell 2; have u3 := h77.cell 3
       have r0 := hX7.cell 0; have r1 := hX7.cell 1; have r2 := hX7.cell 2; have r3 := hX7.cell 3
       have q0 := hX7.free 0; have q1 := hX7.free 1; have q2 := hX7.free 2; have q3 := hX7.free 3
       simp only [List.getElem?_toArray, List.getElem?_cons_zero, List.getElem?_cons_succ, List.setIfInBounds_toArray, List.set_cons_succ, List.set_cons_zero] at u0 u1 u2 u3 r0 r1 r2 r3
       have HB7 := Lib.hid (HB6.out.trans (h7.mono HB6.out.size)); have HX7 := Lib.hid hX7
       clear h7 hX7 h77 z0 z1 z2 z3 g1))
  have hX9 := (((HX7.out.set_ 0 (.int .i64 14)).set_ 1 (.int .i64 0)).set_ 2 (.int .i64 0)).set_ 3 (.int .i32 0)
  have hB9 : Below w.heap.size w ((((w7.setCell ⟨w.heap.size, 0, none⟩ (.int .i64 14)).setCell ⟨w.heap.size, 1, none⟩ (.int .i64 0)).setCell ⟨w.heap.size, 2, none⟩ (.int .i64 0)).setCell ⟨w.heap.size, 3, none⟩ (.int .i32 0)) :=
    (((((But.of_below HB7.out).set (X := Nob) _ _ (.inr (Nat.le_refl _))).set _ _ (.inr (Nat.le_refl _))).set _ _ (.inr (Nat.le_refl _))).set _ _ (.inr (Nat.le_refl _))).below (Nat.le_refl _) fun _ _ q => q.elim
  generalize (((w7.setCell ⟨w.heap.size, 0, none⟩ (.int .i64 14)).setCell ⟨w.heap.size, 1, none⟩ (.int .i64 0)).setCell ⟨w.heap.size, 2, none⟩ (.int .i64 0)).setCell ⟨w.heap.size, 3, none⟩ (.int .i32 0) = W9 at *
  have s0 := hX9.cell 0; have s1 := hX9.cell 1; have s2 := hX9.cell 2; have s3 := hX9.cell 3
  simp only [List.getElem?_toArray, List.getElem?_cons_zero, List.getElem?_cons_succ, List.setIfInBounds_toArray, List.set_cons_succ, List.set_cons_zero] at s0 s1 s2 s3
  exact bodyPost_ret (v := .tuple #[.agg #[.int .i64 14, .int .i64 0, .int .i64 0, .int .i32 0], .bool true]) (by simp [results, Tryd.results31, go_sem, s0, s1, s2, s3]) rfl ⟨rfl, hB9⟩
end Go.Proofs.YtndekdelhngblaaDoor
