/- cpuset.Len. -/
import Derived.Test.YtekahmfchpgmfaaOw
namespace Go.Proofs.Ytekahmfchpgmfaa
open Go.RowKit

set_option maxRecDepth 100000 in
set_option maxHeartbeats 1000000 in
/-- cpuset.Len. -/
theorem len_any (p : Nat → Bool) (w : World) :
    Calls Try.prog 52 #[.agg (cellsOf p)] w fun e w' => e = .returned (.int .i64 (cnt p 1024)) ∧ Below w.heap.size w w' := by
  have hg : (w.alloc (.cells (cellsOf p) 28)).heap[w.heap.size]? = some (.cells (cellsOf p) 28 (0, 0)) := heap_alloc_new _ _
  have HG := Lib.hid hg; clear hg
  have HB := Lib.hid ((Below.refl w.heap.size w).alloc (Nat.le_refl _) (.cells (cellsOf p) 28))
  go_enter Try.func52, Try.ntmps52
  go_wp2
  go_loop [3, 5] (fun c i => ∃ k : Nat, k ≤ 16 ∧ i = .int .i64 k ∧ c = .int .i64 (cnt p (64 * k) : Nat)) (fun _ i => 16 - (intOf i).toNat)
  case atStart => exact ⟨0, by omega, rfl, rfl⟩
  case round =>
    obtain ⟨k, hk, rfl, rfl⟩ := hrel
    by_cases hlt : k < 16
    · have hc := cellsOf_get p k hlt
      have h1 := cnt_le p (64 * k)
      have h2 := cnt_le (fun j => p (64 * k + j)) 64
      have hs : cnt p (64 * (k + 1)) = cnt p (64 * k) + cnt (fun j => p (64 * k + j)) 64 := by rw [show 64 * (k + 1) = 64 * k + 64 by omega, cnt_add]
      have HO := Lib.hid (ones_set p k)
      generalize cnt (fun j => p (64 * k + j)) 64 = m at *
      generalize hn : cnt p (64 * k) = n at *
      have HS := Lib.hid hs; clear hs hn
      go_wp2_with (go_at_call 75; refine (HO.out _).mono ?_; rintro e w' ⟨rfl, rfl⟩)
      go_round
      case rel => exact ⟨k + 1, by omega, by go_num, by rw [HS.out]; go_num⟩
      case measure => simp [intOf]; omega
    · obtain rfl : k = 16 := by omega
      generalize hn : cnt p (64 * 16) = n at *
      have HN := Lib.hid (show cnt p 1024 = n from hn); clear hn
      go_wp2
      go_ret
      exact ⟨by rw [HN.out] <;> rfl, HB.out⟩
end Go.Proofs.Ytekahmfchpgmfaa
