/- A load one tick later: the code's, and the document's (layer 15). -/
import Derived.Test.YtefmhfjjahloeaaLa
namespace Go.Proofs.Ytefmhfjjahloeaa
open Go.RowKit

set_option maxHeartbeats 400000 in
theorem within_any (n m : Int) (w : World) : Calls Try.prog 23 #[.int .i64 n, .int .i64 m] w fun e w' => e = .returned (.int .i64 (inN n m)) ∧ w = w' := by
  obtain ⟨r, hr⟩ : ∃ r, inN n m = r := ⟨_, rfl⟩
  have HR := Lib.hid hr
  rw [hr]; clear hr
  by_cases h0 : n < 0
  · by_cases h1 : m < 0
    · have e : r = m := by have := HR.out; unfold inN at this; omega
      subst e; clear HR
      go_enter Try.func23, Try.ntmps23
      go_wp2_with fail
      go_ret
      exact ⟨by first | rfl | (congr 2; omega), rfl⟩
    · have e : r = 0 := by have := HR.out; unfold inN at this; omega
      subst e; clear HR
      go_enter Try.func23, Try.ntmps23
      go_wp2_with fail
      go_ret
      exact ⟨by first | rfl | (congr 2; omega), rfl⟩
  · by_cases h1 : n ≤ m
    · have e : r = n := by have := HR.out; unfold inN at this; omega
      subst e; clear HR
      go_enter Try.func23, Try.ntmps23
      go_wp2_with fail
      go_ret
      exact ⟨by first | rfl | (congr 2; omega), rfl⟩
    · have e : r = m := by have := HR.out; unfold inN at this; omega
      subst e; clear HR
      go_enter Try.func23, Try.ntmps23
      go_wp2_with fail
      go_ret
      exact ⟨by first | rfl | (congr 2; omega), rfl⟩
theorem refcut_any (n m : Int) (hm : 0 ≤ m) (w : World) : Calls Try.prog 24 #[.int .i64 n, .int .i64 m] w fun e w' => e = .returned (.int .i64 (inN n m)) ∧ w = w' := by
  obtain ⟨r, hr⟩ : ∃ r, inN n m = r := ⟨_, rfl⟩
  have HR := Lib.hid hr
  rw [hr]; clear hr
  by_cases h0 : n < 0
  · have e : r = 0 := by have := HR.out; unfold inN at this; omega
    subst e; clear HR
    go_enter Try.func24, Try.ntmps24
    go_wp2_with fail
    go_ret
    exact ⟨rfl, rfl⟩
  · by_cases h1 : m < n
    · have e : r = m := by have := HR.out; unfold inN at this; omega
      subst e; clear HR
      go_enter Try.func24, Try.ntmps24
      go_wp2_with fail
      go_ret
      exact ⟨rfl, rfl⟩
    · have e : r = n := by have := HR.out; unfold inN at this; omega
      subst e; clear HR
      go_enter Try.func24, Try.ntmps24
      go_wp2_with fail
      go_ret
      exact ⟨rfl, rfl⟩
theorem next_any (old now : Int) (w : World) : Calls Try.prog 10 #[.int .i64 old, .int .i64 now] w fun e w' => e = .returned (.int .i64 (nextN old now)) ∧ w = w' := by
  obtain ⟨a, ha⟩ : ∃ a, inN old 1048576 = a := ⟨_, rfl⟩
  obtain ⟨b, hb⟩ : ∃ b, inN now 16384 = b := ⟨_, rfl⟩
  have a0 := (inN_bd (n := old) (m := 1048576) (by omega))
  have b0 := (inN_bd (n := now) (m := 16384) (by omega))
  rw [ha] at a0; rw [hb] at b0
  have A := Lib.hid (within_any old 1048576 w)
  have B := Lib.hid (within_any now 16384 w)
  rw [ha] at A; rw [hb] at B
  obtain ⟨s, hs⟩ : ∃ s, a - a / 4 + b * 64 = s := ⟨_, rfl⟩
  have C := Lib.hid (within_any (a - a / 4 + b * 64) 1048576 w)
  have e : nextN old now = inN s 1048576 := by unfold nextN; rw [ha, hb, hs]; rfl
  rw [e]
  rw [hs] at C
  have a1 := a0.1; have a2 := a0.2; have b1 := b0.1; have b2 := b0.2
  have hd : a.tdiv 4 = a / 4 := Int.tdiv_eq_ediv_of_nonneg a1
  have HS := Lib.hid hs
  clear ha hb hs e a0 b0
  generalize inN s 1048576 = r at *
  go_enter Try.func10, Try.ntmps10
  go_wp2_with fail
  refine A.out.mono ?_
  rintro e w' ⟨rfl, rfl⟩
  go_wp2_with fail
  refine B.out.mono ?_
  rintro e w' ⟨rfl, rfl⟩
  rw [← HS.out] at C
  go_wp2_with fail
  refine C.out.mono ?_
  rintro e w' ⟨rfl, rfl⟩
  go_wp2_with fail
  go_ret
  exact ⟨rfl, rfl⟩
end Go.Proofs.Ytefmhfjjahloeaa
