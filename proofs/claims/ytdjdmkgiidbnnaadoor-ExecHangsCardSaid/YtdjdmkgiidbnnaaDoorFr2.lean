/- The document's round. -/
import Derived.Test.YtdjdmkgiidbnnaaDoorF0
namespace Go.Proofs.YtdjdmkgiidbnnaaDoor
open Go.RowKit

theorem tmod_pos {n : Int} (h : 0 ≤ n) : n.tmod 4294967296 = n % 4294967296 := Int.tmod_eq_emod_of_nonneg h
theorem tmod_any (n : Int) : (0 ≤ n ∧ n.tmod 4294967296 = n % 4294967296) ∨ (n < 0 ∧ n.tmod 4294967296 = -((-n) % 4294967296)) := by
  by_cases h : 0 ≤ n
  · exact .inl ⟨h, tmod_pos h⟩
  · refine .inr ⟨by omega, ?_⟩
    have e : n.tmod 4294967296 = -((-n).tmod 4294967296) := by rw [Int.neg_tmod, Int.neg_neg]
    rw [e, tmod_pos (by omega)]
theorem round_mod (n : Int) : (wrap64 (n.tmod 4294967296 + 4294967296)).tmod 4294967296 = n % 4294967296 := by
  have h := tmod_any n
  have e : wrap64 (n.tmod 4294967296 + 4294967296) = n.tmod 4294967296 + 4294967296 := by unfold wrap64; omega
  rw [e, tmod_pos (by omega)]
  omega
set_option maxHeartbeats 1000000 in
theorem round_any (n : Int) (w : World) :
    Calls Tryd.prog 24 #[.int .i64 n] w fun e w' => e = .returned (.int .i32 (word32 n)) ∧ w = w' := by
  have hm := round_mod n
  by_cases h : 2147483648 ≤ n % 4294967296
  · have he : word32 n = wrap32 (wrap64 (n % 4294967296 - 4294967296)) := by
      unfold word32 wrap32 wrap64; rw [if_pos h]; omega
    rw [he]
    clear he
    generalize n % 4294967296 = m at *
    go_enter Tryd.func24, Tryd.ntmps24
    go_wp2
    go_ret
    exact ⟨rfl, rfl⟩
  · have he : word32 n = wrap32 (n % 4294967296) := by
      unfold word32 wrap32; rw [if_neg h]; omega
    rw [he]
    have h' : ¬ 2147483648 ≤ n % 4294967296 := h
    clear he h
    generalize n % 4294967296 = m at *
    go_enter Tryd.func24, Tryd.ntmps24
    go_wp2
    go_ret
    exact ⟨rfl, rfl⟩
end Go.Proofs.YtdjdmkgiidbnnaaDoor
