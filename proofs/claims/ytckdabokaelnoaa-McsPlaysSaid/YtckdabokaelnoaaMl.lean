/- The lock as the laws see it; layer 29's law file: steps, lives. -/
import Derived.Test.YtckdabokaelnoaaMy
namespace Go.Proofs.Ytckdabokaelnoaa
open Go.RowKit

/-- The lock as the laws see it: made behind the world w0. -/
structure LdM (w0 : World) (b : Nat) (D : Lk) (w : World) : Prop where
  v : LkM b D w
  nice : Nice D
  old : But Nob w0 w
  new : w0.heap.size ≤ b
section
variable {w0 : World} {b : Nat} {D : Lk} {w w' : World}
theorem LdM.next {D' : Lk} (h : LdM w0 b D w) (hd : LkM b D' w') (hN : Nice D') (hG : But (OneB b) w w') : LdM w0 b D' w' :=
  ⟨hd, hN, h.old.step hG fun k hk q => by have : k = b := q; have := h.new; omega, h.new⟩
theorem LdM.nob (h : LdM w0 b D w) (hb : But Nob w w') : LdM w0 b D w' := ⟨h.v.but hb id, h.nice, h.old.trans hb, h.new⟩
theorem LdM.below (h : LdM w0 b D w) : Below w0.heap.size w0 w := h.old.below (Nat.le_refl _) fun _ _ q => q.elim
theorem new_ldm (p : Int) (n : Nat) (hn : min (max p 1) 16 = (n : Int)) (w : World) :
    Calls Try.prog 40 #[.int .i64 p] w fun e w' => ∃ b, e = .returned (.pointer (some ⟨b, 0, none⟩)) ∧ LdM w b (newL n) w' :=
  (mnew_any p n hn w).mono fun _ _ ⟨e, h1, h2⟩ => ⟨_, e, h1, nice_new (by omega) (by omega), h2, Nat.le_refl _⟩
theorem take_ldm (k : Int) (h : LdM w0 b D w) : Calls Try.prog 42 #[.pointer (some ⟨b, 0, none⟩), .int .i64 k] w fun e w' => e = .returned (.int .i64 (begE D k 0)) ∧ LdM w0 b (begT D k 0 0) w' ∧ But (OneB b) w w' :=
  (mtake_any k h.v h.nice).mono fun _ _ ⟨e, h1, h2⟩ => ⟨e, h.next h1 (nice_begT h.nice k 0 0 (.inl ⟨rfl, rfl⟩)) h2, h2⟩
theorem give_ldm (k : Int) (h : LdM w0 b D w) : Calls Try.prog 44 #[.pointer (some ⟨b, 0, none⟩), .int .i64 k] w fun e w' => e = .returned (.int .i64 (begE D k 2)) ∧ LdM w0 b (begT D k 2 5) w' ∧ But (OneB b) w w' :=
  (mgive_any k h.v h.nice).mono fun _ _ ⟨e, h1, h2⟩ => ⟨e, h.next h1 (nice_begT h.nice k 2 5 (.inr ⟨rfl, rfl⟩)) h2, h2⟩
theorem step_ldm (k : Int) (h : LdM w0 b D w) : Calls Try.prog 45 #[.pointer (some ⟨b, 0, none⟩), .int .i64 k] w fun e w' => e = .returned (.tuple #[.bool (stpB D k), .int .i64 (stpE D k)]) ∧ LdM w0 b (stpT D k) w' ∧ But (OneB b) w w' :=
  (mStep_any k h.v h.nice).mono fun _ _ ⟨e, h1, h2⟩ => ⟨e, h.next h1 (nice_stpT h.nice k) h2, h2⟩
theorem state_ldm (k : Int) (h : LdM w0 b D w) : Calls Try.prog 47 #[.pointer (some ⟨b, 0, none⟩), .int .i64 k] w fun e w' => e = .returned (.int .i64 (stI D k)) ∧ w = w' := mstate_any k h.v h.nice
/-- So many steps of a party's. -/
def itT (D : Lk) (k : Int) : Nat → Lk
  | 0 => D
  | i + 1 => stpT (itT D k i) k
set_option maxHeartbeats 2000000 in
theorem steps_ldm (k : Int) (m : Nat) (hm : m ≤ 100) (h : LdM w0 b D w) :
    Calls Try.prog 88 #[.pointer (some ⟨b, 0, none⟩), .int .i64 k, .int .i64 (m : Nat)] w fun e w' => e = .returned (.tuple #[]) ∧ LdM w0 b (itT D k m) w' := by
  have H := Lib.hid h; clear h
  go_enter Try.func88, Try.ntmps88
  go_wp2_with fail
  go_loopw [7] (fun iv wr => ∃ i : Nat, iv = .int .i64 i ∧ i ≤ m ∧ LdM w0 b (itT D k i) wr) (fun iv _ => m - (intOf iv).toNat)
  case atStart => exact ⟨0, rfl, Nat.zero_le _, H.out⟩
  case round =>
    obtain ⟨i, rfl, hi, hS⟩ := hrel
    by_cases hlt : i < m
    · have P := Lib.hid (step_ldm k hS); clear hS
      go_wp2_with fail
      refine P.out.mono ?_
      rintro e w3 ⟨rfl, h3, -⟩
      have H3 := Lib.hid h3; clear h3 P
      go_wp2_with fail
      go_roundw
      case rel => exact ⟨i + 1, by go_num, hlt, H3.out⟩
      case measure => simp [intOf]; omega
    · obtain rfl : i = m := by omega
      have HS := Lib.hid hS; clear hS
      go_wp2_with fail
      go_end0
      exact ⟨rfl, HS.out⟩
end
def le1 : Lk := itT (begT (newL 2) 0 0 0) 0 3
def le2 : Lk := itT (begT le1 1 0 0) 1 5
def le3 : Lk := itT (itT (begT le2 0 2 5) 0 2) 1 1
theorem le_a : stI le1 0 = 2 := by decide +kernel
theorem le_b : stI le2 1 = 1 := by decide +kernel
theorem le_c : stI le3 0 = 0 := by decide +kernel
theorem le_d : stI le3 1 = 2 := by decide +kernel
set_option maxRecDepth 100000 in
set_option maxHeartbeats 4000000 in
theorem lives29_any (w : World) : Calls Try.prog 49 #[] w fun e w' => e = .returned (.bool true) ∧ Below w.heap.size w w' := by
  have P := Lib.hid (new_ldm 2 2 (by decide) w)
  go_enter Try.func49, Try.ntmps49
  go_wp2_with fail
  refine P.out.mono ?_
  rintro e w1 ⟨b, rfl, h1⟩
  clear P
  have P := Lib.hid (take_ldm 0 h1); clear h1
  go_wp2_with fail
  refine P.out.mono ?_
  rintro e w2 ⟨rfl, h2, -⟩
  clear P
  have P := Lib.hid (steps_ldm 0 3 (by omega) h2); clear h2
  go_wp2_with fail
  refine P.out.mono ?_
  rintro e w3 ⟨rfl, h3⟩
  have h3' : LdM w b le1 w3 := h3
  clear P h3
  have P := Lib.hid (state_ldm 0 h3')
  rw [le_a] at P
  have H3 := Lib.hid h3'; clear h3'
  go_wp2_with fail
  refine P.out.mono ?_
  rintro e wq ⟨rfl, rfl⟩
  clear P
  have P := Lib.hid (take_ldm 1 H3.out); clear H3
  go_wp2_with fail
  refine P.out.mono ?_
  rintro e w4 ⟨rfl, h4, -⟩
  clear P
  have P := Lib.hid (steps_ldm 1 5 (by omega) h4); clear h4
  go_wp2_with fail
  refine P.out.mono ?_
  rintro e w5 ⟨rfl, h5⟩
  have h5' : LdM w b le2 w5 := h5
  clear P h5
  have P := Lib.hid (state_ldm 1 h5')
  rw [le_b] at P
  have H5 := Lib.hid h5'; clear h5'
  go_wp2_with fail
  refine P.out.mono ?_
  rintro e wq ⟨rfl, rfl⟩
  clear P
  have P := Lib.hid (give_ldm 0 H5.out); clear H5
  go_wp2_with fail
  refine P.out.mono ?_
  rintro e w6 ⟨rfl, h6, -⟩
  clear P
  have P := Lib.hid (steps_ldm 0 2 (by omega) h6); clear h6
  go_wp2_with fail
  refine P.out.mono ?_
  rintro e w7 ⟨rfl, h7⟩
  clear P
  have P := Lib.hid (steps_ldm 1 1 (by omega) h7); clear h7
  go_wp2_with fail
  refine P.out.mono ?_
  rintro e w8 ⟨rfl, h8⟩
  have h8' : LdM w b le3 w8 := h8
  clear P h8
  have P0 := Lib.hid (state_ldm 0 h8')
  have P1 := Lib.hid (state_ldm 1 h8')
  rw [le_c] at P0
  rw [le_d] at P1
  have H8 := Lib.hid h8'; clear h8'
  go_wp2_with (first
    | (go_at_call 47; (first | (with_reducible refine P0.out.mono ?_) | (with_reducible refine P1.out.mono ?_)); rintro e wq ⟨rfl, rfl⟩))
  go_ret
  exact ⟨rfl, H8.out.below⟩
end Go.Proofs.Ytckdabokaelnoaa
