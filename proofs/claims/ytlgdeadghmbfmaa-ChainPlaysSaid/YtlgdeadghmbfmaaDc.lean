/- The document's rows of layer 7: what Push and Remove refuse. -/
import Derived.Test.YtlgdeadghmbfmaaDb
namespace Go.Proofs.Ytlgdeadghmbfmaa
open Go.RowKit

section
variable {N : Nat → Prop} {rb gL n m : Nat} {ls : Nat → List Nat} {w w' : World}
set_option maxHeartbeats 1000000 in
theorem dpush_out (k x : Int) (h : DrV N rb gL n m ls w) (hq : inB k m = false ∨ inB x n = false) :
    Calls Try.prog 84 #[.pointer (some ⟨rb, 0, none⟩), .int .i64 k, .int .i64 x] w fun e w' => e = .returned (.int .i64 1) ∧ w = w' := by
  obtain ⟨c0, c1⟩ := h.cells
  clear h
  by_cases k0 : k < 0
  · clear hq
    go_enter Try.func84, Try.ntmps84
    go_wp2
    go_ret
    exact ⟨rfl, rfl⟩
  · by_cases k1 : (m : Int) ≤ k
    · clear hq
      go_enter Try.func84, Try.ntmps84
      go_wp2
      go_ret
      exact ⟨rfl, rfl⟩
    · by_cases x0 : x < 0
      · clear hq
        go_enter Try.func84, Try.ntmps84
        go_wp2
        go_ret
        exact ⟨rfl, rfl⟩
      · have x1 : (n : Int) ≤ x := by simp [inB] at hq; omega
        clear hq
        go_enter Try.func84, Try.ntmps84
        go_wp2
        go_ret
        exact ⟨rfl, rfl⟩
set_option maxHeartbeats 1000000 in
theorem dremove_out (x : Int) (h : DrV N rb gL n m ls w) (hq : inB x n = false) :
    Calls Try.prog 83 #[.pointer (some ⟨rb, 0, none⟩), .int .i64 x] w fun e w' => e = .returned (.tuple #[.int .i64 0, .int .i64 1]) ∧ w = w' := by
  obtain ⟨c0, c1⟩ := h.cells
  clear h
  by_cases x0 : x < 0
  · clear hq
    go_enter Try.func83, Try.ntmps83
    go_wp2
    go_ret2
    exact ⟨rfl, rfl⟩
  · have x1 : (n : Int) ≤ x := by simp [inB] at hq; omega
    clear hq
    go_enter Try.func83, Try.ntmps83
    go_wp2
    go_ret2
    exact ⟨rfl, rfl⟩
set_option maxHeartbeats 1000000 in
theorem dremove_free (x : Nat) (h : DrV N rb gL n m ls w) (hx : x < n) (hL : ∀ a, a < m → (ls a).length ≤ 4096) (hf : ∀ a, a < m → x ∉ ls a) :
    Calls Try.prog 83 #[.pointer (some ⟨rb, 0, none⟩), .int .i64 x] w fun e w' => e = .returned (.tuple #[.int .i64 0, .int .i64 3]) ∧ w = w' := by
  obtain ⟨c0, c1⟩ := h.cells
  have HD := Lib.hid (din_none x h hL (fun a ha y hy e => hf a ha (Int.ofNat.inj e ▸ hy)))
  have k2 : (0 : Int) ≤ (x : Int) := by omega
  have k3 : (x : Int) < (n : Int) := by omega
  clear h hx hL hf
  go_enter Try.func83, Try.ntmps83
  go_wp2_with fail
  refine HD.out.mono ?_
  rintro e w' ⟨rfl, rfl⟩
  clear HD
  go_wp2_with fail
  go_ret2
  exact ⟨rfl, rfl⟩
set_option maxHeartbeats 1000000 in
theorem dpush_in (k x j : Nat) (h : DrV N rb gL n m ls w) (hk : k < m) (hx : x < n) (hL : ∀ a, a < m → (ls a).length ≤ 4096) (hj : j < m) (hm : x ∈ ls j) :
    Calls Try.prog 84 #[.pointer (some ⟨rb, 0, none⟩), .int .i64 k, .int .i64 x] w fun e w' => e = .returned (.int .i64 9) ∧ w = w' := by
  obtain ⟨c0, c1⟩ := h.cells
  have HD := Lib.hid (din_any x h hL)
  have k0 : (0 : Int) ≤ (k : Int) := by omega
  have k1 : (k : Int) < (m : Int) := by omega
  have k2 : (0 : Int) ≤ (x : Int) := by omega
  have k3 : (x : Int) < (n : Int) := by omega
  clear h hx hL hk
  go_enter Try.func84, Try.ntmps84
  go_wp2_with fail
  refine HD.out.mono ?_
  rintro e w' ⟨i, c, rfl, hF, rfl⟩
  clear HD
  rcases hF with ⟨_, _, hno⟩ | ⟨a, c, rfl, rfl, ha, hc, _⟩
  · exact absurd rfl (hno j hj x hm)
  · have a0 : (0 : Int) ≤ (a : Int) := by omega
    go_wp2_with fail
    go_ret
    exact ⟨rfl, rfl⟩
end
end Go.Proofs.Ytlgdeadghmbfmaa
