/- lint's sets of places: one and has. -/
import Derived.Test.YthoddoabcdbliaaSm
import Derived.Test.YthoddoabcdbliaaLn
namespace Go.Proofs.Ythoddoabcdbliaa
open Go.RowKit

theorem pow_lt64 {k : Nat} (h : k < 64) : 2 ^ k < 18446744073709551616 := by
  have := Nat.pow_lt_pow_right (a := 2) (by decide) h
  simpa using this
theorem wordB_or (p q : Nat → Bool) : wordB p 64 ||| wordB q 64 = wordB (fun n => p n || q n) 64 := by
  apply Nat.eq_of_testBit_eq; intro j
  simp [Nat.testBit_or, wordB_testBit]
  by_cases h : j < 64 <;> simp [h]
theorem wordB_and (p q : Nat → Bool) : wordB p 64 &&& wordB q 64 = wordB (fun n => p n && q n) 64 := by
  apply Nat.eq_of_testBit_eq; intro j
  simp [Nat.testBit_and, wordB_testBit]
  by_cases h : j < 64 <;> simp [h]
theorem wordB_one {k : Nat} (h : k < 64) : wordB (fun n => decide (n = k)) 64 = 2 ^ k := by
  apply Nat.eq_of_testBit_eq; intro j
  rw [wordB_testBit, Nat.testBit_two_pow]
  by_cases e : j = k
  · subst e; simp [h]
  · simp [e]; intro q; exact absurd q.symm e
theorem wordB_put2 (p : Nat → Bool) {k : Nat} (h : k < 64) : wordB p 64 ||| 2 ^ k = wordB (fun n => p n || decide (n = k)) 64 := by rw [← wordB_one h, wordB_or]
theorem wordB_has (p : Nat → Bool) {k : Nat} (h : k < 64) : (wordB p 64 &&& 2 ^ k = 0) ↔ p k = false := by
  constructor
  · intro e
    have := congrArg (·.testBit k) e
    simpa [Nat.testBit_and, wordB_testBit, h] using this
  · intro e
    apply Nat.eq_of_testBit_eq; intro j
    rw [Nat.testBit_and, wordB_testBit, Nat.testBit_two_pow]
    by_cases q : k = j
    · subst q; simp [e]
    · simp [q]
theorem pow_cast (k : Nat) : ((2 : Int) ^ k) = ((2 ^ k : Nat) : Int) := by simp
theorem wordB_lt' (p : Nat → Bool) : wordB p 64 < 18446744073709551616 := wordB_lt p 64
theorem or_one (p : Nat → Bool) {k : Nat} (h : k < 64) : bits .or .u64 (wordB p 64 : Int) ((2 : Int) ^ k) = ((wordB (fun n => p n || decide (n = k)) 64 : Nat) : Int) := by
  rw [pow_cast, u64_or_nat _ _ (wordB_lt' p) (pow_lt64 h), wordB_put2 p h]
theorem and_one (p : Nat → Bool) {k : Nat} (h : k < 64) : (bits .and .u64 (wordB p 64 : Int) ((2 : Int) ^ k) != 0) = p k := by
  rw [pow_cast, u64_and_nat _ _ (wordB_lt' p) (pow_lt64 h)]
  have := wordB_has p h
  cases e : p k with
  | false => rw [this.2 e]; rfl
  | true =>
    have hne : wordB p 64 &&& 2 ^ k ≠ 0 := fun q => by rw [this.1 q] at e; cases e
    simpa using fun q : ((wordB p 64 &&& 2 ^ k : Nat) : Int) = 0 => hne (by omega)
set_option maxHeartbeats 1000000 in
theorem one_any (k : Nat) (w : World) (h : k < 64) :
    Calls Try.prog 32 #[.int .i64 k] w fun e w' => e = .returned (.int .u64 ((2 : Int) ^ k)) ∧ w = w' := by
  have hw := wrap_pow k h
  go_enter Try.func32, Try.ntmps32
  go_wp2
  go_ret
  exact ⟨by simp, rfl⟩
set_option maxHeartbeats 1000000 in
theorem has64_any (p : Nat → Bool) (k : Nat) (w : World) (h : k < 64) :
    Calls Try.prog 22 #[.int .u64 (wordB p 64 : Nat), .int .i64 k] w fun e w' => e = .returned (.bool (p k)) ∧ w = w' := by
  have H1 := Lib.hid (one_any k w h)
  have ha := and_one p h
  generalize p k = q at *
  go_enter Try.func22, Try.ntmps22
  go_wp2_with (go_at_call 32; (with_reducible refine H1.out.mono ?_); rintro e w2 ⟨rfl, rfl⟩)
  go_ret
  exact ⟨rfl, rfl⟩
end Go.Proofs.Ythoddoabcdbliaa
