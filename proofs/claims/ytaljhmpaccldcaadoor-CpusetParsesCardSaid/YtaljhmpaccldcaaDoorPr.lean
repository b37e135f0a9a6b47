/- The document's number: its contract; its value against the code's. -/
import Derived.Test.YtaljhmpaccldcaaDoorPn
namespace Go.Proofs.YtaljhmpaccldcaaDoor
open Go.RowKit

/-- The value of k digits from i on, as the document's text reckons it. -/
def refV (c : Nat → Nat) (i : Nat) : Nat → Nat
  | 0 => 0
  | k + 1 => if refV c i k < 5000 then refV c i k * 10 + (c (i + k) - 48) else refV c i k
theorem numV_ref (c : Nat → Nat) (i k : Nat) : numV c i k = min (refV c i k) 1024 := by
  induction k with
  | zero => rfl
  | succ k ih => rw [numV, refV, ih]; split <;> omega
theorem refV_lt (c : Nat → Nat) (i k : Nat) (h : ∀ j, i ≤ j → j < i + k → digB (c j) = true) : refV c i k < 50010 := by
  induction k with
  | zero => simp [refV]
  | succ k ih =>
    have h1 := ih fun j a b => h j a (by omega)
    have h2 := h (i + k) (by omega) (by omega)
    simp only [digB, decide_eq_true_eq] at h2
    rw [refV]; split <;> omega

set_option maxRecDepth 100000 in
set_option maxHeartbeats 1000000 in
theorem refNumber_any (s : ByteArray) (i : Nat) (w : World) (hs : s.size ≤ 100000) (hi : i ≤ s.size) :
    Calls Tryd.prog 37 #[.string s, .int .i64 i] w fun e w' => e = .returned (.tuple #[.int .i64 (refV (byteAt s) i (numEnd (byteAt s) s.size i - i)), .int .i64 ((numEnd (byteAt s) s.size i - i : Nat) : Int)]) ∧ w = w' := by
  go_enter Tryd.func37, Tryd.ntmps37
  go_wp2
  go_loop [6, 7] (fun n k' => ∃ k : Nat, i + k ≤ s.size ∧ k' = .int .i64 k ∧ n = .int .i64 (refV (byteAt s) i k) ∧ ∀ j, i ≤ j → j < i + k → digB (byteAt s j) = true) (fun _ e => s.size - (intOf e).toNat)
  case atStart => exact ⟨0, by omega, rfl, rfl, fun j a b => by omega⟩
  case round =>
    obtain ⟨k, hk, rfl, rfl, hd⟩ := hrel
    have hv := refV_lt (byteAt s) i k hd
    have HD := Lib.hid hd; clear hd
    have hs1 : refV (byteAt s) i (k + 1) = if refV (byteAt s) i k < 5000 then refV (byteAt s) i k * 10 + (byteAt s (i + k) - 48) else refV (byteAt s) i k := by rw [refV]
    generalize hN0 : refV (byteAt s) i k = N at *
    have hNk := Lib.hid hN0; clear hN0
    by_cases hlt : i + k < s.size
    · have t0 : decide ((i : Int) + (k : Int) < (s.size : Int)) = true := by simp; omega
      have hat := byteAt_eq s (i + k) hlt
      by_cases hg : digB (byteAt s (i + k)) = true
      · have hg2 := hg
        simp only [digB, decide_eq_true_eq] at hg2
        obtain ⟨c1, c2⟩ := hg2
        have HG := Lib.hid hg; clear hg
        have d1 : decide ((48 : Int) ≤ (byteAt s (i + k) : Int)) = true := by simp; omega
        have d2 : decide ((byteAt s (i + k) : Int) ≤ 57) = true := by simp; omega
        have hd' : Hid (∀ j, i ≤ j → j < i + (k + 1) → digB (byteAt s j) = true) := fun j a b => by
          by_cases e : j = i + k
          · subst e; exact HG.out
          · exact HD.out j a (by omega)
        by_cases h5 : N < 5000
        · have d3 : decide ((N : Int) < 5000) = true := by simp; omega
          rw [if_pos h5] at hs1
          have HN := Lib.hid hs1
          clear h5 hs1
          go_wp2
          go_round
          case rel => exact ⟨k + 1, by omega, by go_num, by rw [HN.out]; go_num, hd'.out⟩
          case measure => simp [intOf]; omega
        · have d3 : decide ((N : Int) < 5000) = false := by simp; omega
          rw [if_neg h5] at hs1
          have HN := Lib.hid hs1
          clear h5 hs1
          go_wp2
          go_round
          case rel => exact ⟨k + 1, by omega, by go_num, by rw [HN.out], hd'.out⟩
          case measure => simp [intOf]; omega
      · clear hs1
        have hE : numEnd (byteAt s) s.size i = i + k := numEnd_eq _ _ _ _ (by omega) hk HD.out (.inr (by simpa using hg))
        have hE2 : Hid (numEnd (byteAt s) s.size i - i = k) := by rw [hE]; exact Nat.add_sub_cancel_left _ _
        clear hE
        simp only [digB, decide_eq_true_eq] at hg
        by_cases c1 : 48 ≤ byteAt s (i + k)
        · have d1 : decide ((48 : Int) ≤ (byteAt s (i + k) : Int)) = true := by simp; omega
          have d2 : decide ((byteAt s (i + k) : Int) ≤ 57) = false := by simp; omega
          clear hg c1
          go_wp2
          go_ret2
          exact ⟨by rw [hE2.out, hNk.out] <;> rfl, rfl⟩
        · have d1 : decide ((48 : Int) ≤ (byteAt s (i + k) : Int)) = false := by simp; omega
          clear hg c1
          go_wp2
          go_ret2
          exact ⟨by rw [hE2.out, hNk.out] <;> rfl, rfl⟩
    · clear hs1
      have t0 : decide ((i : Int) + (k : Int) < (s.size : Int)) = false := by simp; omega
      have hE : numEnd (byteAt s) s.size i = i + k := numEnd_eq _ _ _ _ (by omega) hk HD.out (.inl (by omega))
      have hE2 : Hid (numEnd (byteAt s) s.size i - i = k) := by rw [hE]; exact Nat.add_sub_cancel_left _ _
      clear hE hlt
      go_wp2
      go_ret2
      exact ⟨by rw [hE2.out, hNk.out] <;> rfl, rfl⟩
end Go.Proofs.YtaljhmpaccldcaaDoor
