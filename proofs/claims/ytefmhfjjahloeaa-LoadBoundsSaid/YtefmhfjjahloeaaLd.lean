/- The document's Next, layer 15's lives; LoadBounds' and LoadRests' walks. -/
import Derived.Test.YtefmhfjjahloeaaLc
namespace Go.Proofs.Ytefmhfjjahloeaa
open Go.RowKit

theorem refnext_any (old now : Int) (w : World) : Calls Try.prog 11 #[.int .i64 old, .int .i64 now] w fun e w' => e = .returned (.int .i64 (nextN old now)) ∧ w = w' := by
  obtain ⟨a, ha⟩ : ∃ a, inN old 1048576 = a := ⟨_, rfl⟩
  obtain ⟨b, hb⟩ : ∃ b, inN now 16384 = b := ⟨_, rfl⟩
  have a0 := (inN_bd (n := old) (m := 1048576) (by omega))
  have b0 := (inN_bd (n := now) (m := 16384) (by omega))
  rw [ha] at a0; rw [hb] at b0
  have A := Lib.hid (refcut_any old 1048576 (by omega) w)
  have B := Lib.hid (refcut_any now 16384 (by omega) w)
  rw [ha] at A; rw [hb] at B
  obtain ⟨s, hs⟩ : ∃ s, a - a / 4 + 64 * b = s := ⟨_, rfl⟩
  have C := Lib.hid (refcut_any (a - a / 4 + 64 * b) 1048576 (by omega) w)
  have e : nextN old now = inN s 1048576 := by
    have e1 : nextN old now = inN (a - a / 4 + b * 64) 1048576 := by unfold nextN; rw [ha, hb]; rfl
    rw [e1, ← hs]; congr 1; omega
  rw [e]
  rw [hs] at C
  have a1 := a0.1; have a2 := a0.2; have b1 := b0.1; have b2 := b0.2
  have hd : a.tdiv 4 = a / 4 := Int.tdiv_eq_ediv_of_nonneg a1
  have HS := Lib.hid hs
  clear ha hb hs e a0 b0
  generalize inN s 1048576 = r at *
  go_enter Try.func11, Try.ntmps11
  go_wp2_with fail
  refine A.out.mono ?_
  rintro e w' ⟨rfl, rfl⟩
  go_wp2_with fail
  refine B.out.mono ?_
  rintro e w' ⟨rfl, rfl⟩
  rw [← HS.out] at C
  go_wp2_with fail
  refine C.out.mono ?_
  rintro e w' ⟨rfl, rfl⟩
  go_wp2_with fail
  go_ret
  exact ⟨rfl, rfl⟩
theorem lives15_any (w : World) : Calls Try.prog 12 #[] w fun e w' => e = .returned (.bool true) ∧ w = w' := by
  have A := next_any 0 4 w
  rw [show nextN 0 4 = 256 by decide] at A
  have B := next_any 256 4 w
  rw [show nextN 256 4 = 448 by decide] at B
  have C := next_any 448 0 w
  rw [show nextN 448 0 = 336 by decide] at C
  have HA := Lib.hid A; have HB := Lib.hid B; have HC := Lib.hid C
  clear A B C
  go_enter Try.func12, Try.ntmps12
  go_wp2_with fail
  refine HA.out.mono ?_
  rintro e w' ⟨rfl, rfl⟩
  go_wp2_with fail
  refine HB.out.mono ?_
  rintro e w' ⟨rfl, rfl⟩
  go_wp2_with fail
  refine HC.out.mono ?_
  rintro e w' ⟨rfl, rfl⟩
  go_wp2_with fail
  go_ret
  exact ⟨rfl, rfl⟩
set_option maxHeartbeats 1000000 in
theorem rests15_any (x : Int) (u : Nat) (w : World) (hu : u < 18446744073709551616) : Calls Try.prog 6 #[.int .i64 x, .int .u64 u] w fun e w' => e = .returned (.bool true) ∧ Below w.heap.size w w' := by
  obtain ⟨t, ht⟩ : ∃ t : Nat, u % 1000 = t := ⟨_, rfl⟩
  have t1 : t < 1000 := by omega
  have e1 : (u : Int) % 1000 = (t : Int) := by omega
  have e2 : (u : Int).tmod 1000 = (t : Int) := by rw [Int.tmod_eq_emod_of_nonneg (by omega)]; exact e1
  have P := Lib.hid (goN_100_0 x)
  have Q := Lib.hid (goN_100 x t (by omega) (by omega))
  have HL := Lib.hid (lives15_any w)
  clear ht hu
  go_enter Try.func6, Try.ntmps6
  go_wp2_with fail
  clear e1 e2
  go_loop [6, 7, 13] (fun a b iv => ∃ k : Nat, iv = .int .i64 k ∧ k ≤ 100 ∧ a = .int .i64 (goN x 0 k) ∧ b = .int .i64 (goN x t k)) (fun _ _ iv => 100 - (intOf iv).toNat)
  case atStart => exact ⟨0, rfl, by omega, rfl, rfl⟩
  case round =>
    obtain ⟨k, rfl, hk, rfl, rfl⟩ := hrel
    by_cases hlt : k < 100
    · have A := next_any (goN x 0 k) 0 w
      have B := next_any (goN x t k) t w
      have HA := Lib.hid A; have HB := Lib.hid B
      clear A B
      go_wp2_with fail
      refine HA.out.mono ?_
      rintro e w' ⟨rfl, rfl⟩
      go_wp2_with fail
      refine HB.out.mono ?_
      rintro e w' ⟨rfl, rfl⟩
      go_wp2_with fail
      go_round
      case rel => exact ⟨k + 1, by go_num, by omega, rfl, rfl⟩
      case measure => simp [intOf]; omega
    · obtain rfl : k = 100 := by omega
      have p := P.out; have q := Q.out
      generalize goN x 0 100 = a at *
      generalize goN x t 100 = b at *
      obtain ⟨p1, p2⟩ := p
      obtain ⟨q1, q2⟩ := q
      clear hk hlt P Q
      go_wp2_with fail
      refine HL.out.mono ?_
      rintro e w' ⟨rfl, rfl⟩
      go_wp2_with fail
      go_ret
      exact ⟨rfl, Below.refl _ _⟩
end Go.Proofs.Ytefmhfjjahloeaa
