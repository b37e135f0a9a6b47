/- LoadBounds' walk (layer 15). -/
import Derived.Test.YtefmhfjjahloeaaLd
import Derived.Deep.CutBlock
import Derived.Deep.RegionHeld3
namespace Go.Proofs.Ytefmhfjjahloeaa
open Go.RowKit

set_option maxHeartbeats 2000000 in
theorem bounds15_any (a b n m : Int) (w : World) : Calls Try.prog 5 #[.agg #[.int .i64 a, .int .i64 b], .agg #[.int .i64 n, .int .i64 m]] w fun e w' => e = .returned (.bool true) ∧ Below w.heap.size w w' := by
  have hb : Below w.heap.size w ((w.alloc (.cells #[.int .i64 a, .int .i64 b] 22)).alloc (.cells #[.int .i64 n, .int .i64 m] 22)) := ((Below.refl _ _).alloc (Nat.le_refl _) _).alloc (by simp) _
  have HB := Lib.hid hb
  have k1 := Blk.new (w.alloc (.cells #[.int .i64 a, .int .i64 b] 22)) 22 #[.int .i64 n, .int .i64 m]
  have k0 := (Blk.new w 22 #[.int .i64 a, .int .i64 b]).alloc (.cells #[.int .i64 n, .int .i64 m] 22)
  have hz : (w.alloc (.cells #[.int .i64 a, .int .i64 b] 22)).heap.size = w.heap.size + 1 := by simp
  rw [hz] at k1
  have c0 := k0.cell 0; have c1 := k0.cell 1; have d0 := k1.cell 0; have d1 := k1.cell 1
  simp only [List.getElem?_toArray, List.getElem?_cons_zero, List.getElem?_cons_succ] at c0 c1 d0 d1
  clear hz
  clear k0 k1 hb
  obtain ⟨lo, hlo⟩ : ∃ q, min a b = q := ⟨_, rfl⟩
  obtain ⟨hi, hhi⟩ : ∃ q, max a b = q := ⟨_, rfl⟩
  obtain ⟨ln, hln⟩ : ∃ q, min n m = q := ⟨_, rfl⟩
  obtain ⟨hn, hhn⟩ : ∃ q, max n m = q := ⟨_, rfl⟩
  have l1 : lo ≤ a := by omega
  have l2 : lo ≤ b := by omega
  have l3 : lo = a ∨ lo = b := by omega
  have l4 : a ≤ hi := by omega
  have l5 : b ≤ hi := by omega
  have l6 : hi = a ∨ hi = b := by omega
  have l7 : ln ≤ n := by omega
  have l8 : ln ≤ m := by omega
  have l9 : ln = n ∨ ln = m := by omega
  have la : n ≤ hn := by omega
  have lb : m ≤ hn := by omega
  have lc : hn = n ∨ hn = m := by omega
  have m1 := nextN_mono (a := lo) (b := hi) (n := ln) (m := hn) (by omega) (by omega)
  have m2 := nextN_bd lo ln; have m3 := nextN_bd hi hn
  have A0 : ∀ u v W, u = lo → v = ln → Calls Try.prog 10 #[.int .i64 u, .int .i64 v] W fun e w' => e = .returned (.int .i64 (nextN lo ln)) ∧ W = w' := by rintro u v W rfl rfl; exact next_any _ _ W
  have B0 : ∀ u v W, u = hi → v = hn → Calls Try.prog 10 #[.int .i64 u, .int .i64 v] W fun e w' => e = .returned (.int .i64 (nextN hi hn)) ∧ W = w' := by rintro u v W rfl rfl; exact next_any _ _ W
  have A := Lib.hid A0; have B := Lib.hid B0
  obtain ⟨x, hx⟩ : ∃ q, nextN lo ln = q := ⟨_, rfl⟩
  obtain ⟨y, hy⟩ : ∃ q, nextN hi hn = q := ⟨_, rfl⟩
  rw [hx] at A m1 m2; rw [hy] at B m1 m3
  have m4 := m2.1; have m5 := m3.2
  have L3 := Lib.hid l3; have L6 := Lib.hid l6; have L9 := Lib.hid l9; have LC := Lib.hid lc
  clear hx hy m2 m3 A0 B0 l3 l6 l9 lc hlo hhi hln hhn
  go_enter Try.func5, Try.ntmps5
  go_upto_region 1 with fail
  generalize (w.alloc (.cells #[.int .i64 a, .int .i64 b] 22)).alloc (.cells #[.int .i64 n, .int .i64 m] 22) = w2 at *
  go_region
  clear c0 c1 d0 d1
  go_upto_region 2 with fail
  go_wp2_with fail
  all_goals
    have l3 := L3.out; have l6 := L6.out; have l9 := L9.out; have lc := LC.out
    refine (A.out _ _ _ (by omega) (by omega)).mono ?_
    rintro e w' ⟨rfl, rfl⟩
    clear l3 l6 l9 lc
    go_wp2_with fail
    all_goals
      have l3 := L3.out; have l6 := L6.out; have l9 := L9.out; have lc := LC.out
      refine (B.out _ _ _ (by omega) (by omega)).mono ?_
      rintro e w' ⟨rfl, rfl⟩
      clear l3 l6 l9 lc
      have t1 : decide (x ≤ y) = true := by simpa using m1
      go_wp2_with fail
      refine (lives15_any _).mono ?_
      rintro e w' ⟨rfl, rfl⟩
      go_wp2_with fail
      go_ret
      exact ⟨rfl, HB.out.drew⟩
end Go.Proofs.Ytefmhfjjahloeaa
