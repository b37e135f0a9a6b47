/- Sets of locks: what is had behind an instruction, what is joined. -/
import Derived.Test.YthoddoabcdbliaaLu
namespace Go.Proofs.Ythoddoabcdbliaa
open Go.RowKit

theorem w16_lt (p : Nat → Bool) : wordB p 16 < 65536 := wordB_lt p 16
theorem w16_or (p q : Nat → Bool) : bits .or .u16 (wordB p 16 : Int) (wordB q 16 : Int) = ((wordB (fun k => p k || q k) 16 : Nat) : Int) := by
  rw [u16_or_nat _ _ (w16_lt p) (w16_lt q)]
  congr 1
  apply Nat.eq_of_testBit_eq; intro j
  rw [Nat.testBit_or, wordB_testBit, wordB_testBit, wordB_testBit]
  by_cases h : j < 16 <;> simp [h]
theorem w16_and (p q : Nat → Bool) : bits .and .u16 (wordB p 16 : Int) (wordB q 16 : Int) = ((wordB (fun k => p k && q k) 16 : Nat) : Int) := by
  rw [u16_and_nat _ _ (w16_lt p) (w16_lt q)]
  congr 1
  apply Nat.eq_of_testBit_eq; intro j
  rw [Nat.testBit_and, wordB_testBit, wordB_testBit, wordB_testBit]
  by_cases h : j < 16 <;> simp [h]
theorem w16_one {n : Nat} (h : n < 16) : IntKind.u16.wrap ((2 : Int) ^ n) = ((wordB (fun k => decide (k = n)) 16 : Nat) : Int) := by
  have e : wordB (fun k => decide (k = n)) 16 = 2 ^ n := by
    apply Nat.eq_of_testBit_eq; intro j
    rw [wordB_testBit, Nat.testBit_two_pow]
    by_cases q : j = n
    · subst q; simp [h]
    · simp [q]; intro z; exact absurd z.symm q
  have h1 : 2 ^ n < 2 ^ 16 := Nat.pow_lt_pow_right (by decide) h
  rw [e, IntKind.wrap_u16, show ((2 : Int) ^ n) = ((2 ^ n : Nat) : Int) by simp]
  generalize 2 ^ n = q at *
  omega
theorem w16_minus (p q : Nat → Bool) : bits .andNot .u16 (wordB p 16 : Int) (wordB q 16 : Int) = ((wordB (fun k => p k && !q k) 16 : Nat) : Int) := by
  rw [u16_andNot_nat _ _ (w16_lt p) (w16_lt q)]
  congr 1
  apply Nat.eq_of_testBit_eq; intro j
  have e : 65535 - wordB q 16 = 2 ^ 16 - (wordB q 16 + 1) := by omega
  rw [Nat.testBit_and, wordB_testBit, wordB_testBit, e, Nat.testBit_two_pow_sub_succ (w16_lt q), wordB_testBit]
  by_cases h : j < 16 <;> simp [h]
theorem w16_same {p q : Nat → Bool} (h : ∀ k, k < 16 → p k = q k) : (((wordB p 16 : Nat) : Int) != ((wordB q 16 : Nat) : Int)) = false := by
  rw [wordB_same p q 16 h]; simp
theorem w16_other {p q : Nat → Bool} (h : ¬ ∀ k, k < 16 → p k = q k) : (((wordB p 16 : Nat) : Int) != ((wordB q 16 : Nat) : Int)) = true := by
  have : wordB p 16 ≠ wordB q 16 := fun e => h fun k hk => by
    have := congrArg (·.testBit k) e
    simpa [wordB_testBit, hk] using this
  simpa using fun e : ((wordB p 16 : Nat) : Int) = (wordB q 16 : Nat) => this (by omega)
/-- What is had behind an instruction. -/
def bhP (x : I4) (s all : Nat → Bool) : Nat → Bool := fun k =>
  if x.op = 9 then s k || (decide ((k : Int) = x.n) && all k)
  else if x.op = 10 then s k && !decide ((k : Int) = x.n)
  else s k
set_option maxRecDepth 100000 in
set_option maxHeartbeats 4000000 in
theorem behind_any (x : I4) (s all : Nat → Bool) (w : World) (h : x.op = 9 ∨ x.op = 10 → 0 ≤ x.n ∧ x.n ≤ 15) :
    Calls Try.prog 38 #[insV x, .int .u16 (wordB s 16 : Nat), .int .u16 (wordB all 16 : Nat)] w (GotB w.heap.size (.int .u16 (wordB (bhP x s all) 16 : Nat)) w) := by
  obtain ⟨op, a, b, n⟩ := x
  dsimp only at h
  have hb : Below w.heap.size w (w.alloc (.cells #[.int .i64 op, .int .i64 a, .int .i64 b, .int .i32 n] 41)) := (Below.refl _ _).alloc (Nat.le_refl _) _
  have HB := Lib.hid hb; clear hb
  by_cases h9 : op = 9
  · subst h9
    obtain ⟨k, rfl⟩ : ∃ k : Nat, n = k := ⟨n.toNat, by have := h (.inl rfl); omega⟩
    have hk : k < 16 := by have := h (.inl rfl); omega
    have hone := w16_one hk
    have hand := w16_and (fun j => decide (j = k)) all
    have hor := w16_or s (fun j => decide (j = k) && all j)
    have e : wordB (bhP ⟨9, a, b, k⟩ s all) 16 = wordB (fun j => s j || (decide (j = k) && all j)) 16 := wordB_same _ _ 16 fun j _ => by
      unfold bhP; rw [if_pos rfl]
      have : decide (((j : Nat) : Int) = (k : Int)) = decide (j = k) := by rw [decide_eq_decide]; omega
      rw [this]
    rw [e]
    clear e h
    go_enter Try.func38, Try.ntmps38
    go_wp2
    go_ret
    exact ⟨rfl, HB.out⟩
  · by_cases h10 : op = 10
    · subst h10
      obtain ⟨k, rfl⟩ : ∃ k : Nat, n = k := ⟨n.toNat, by have := h (.inr rfl); omega⟩
      have hk : k < 16 := by have := h (.inr rfl); omega
      have hone := w16_one hk
      have hmin := w16_minus s (fun j => decide (j = k))
      have e : wordB (bhP ⟨10, a, b, k⟩ s all) 16 = wordB (fun j => s j && !decide (j = k)) 16 := wordB_same _ _ 16 fun j _ => by
        unfold bhP; rw [if_neg (by simp), if_pos rfl]
        have : decide (((j : Nat) : Int) = (k : Int)) = decide (j = k) := by rw [decide_eq_decide]; omega
        rw [this]
      rw [e]
      clear e h
      go_enter Try.func38, Try.ntmps38
      go_wp2
      go_ret
      exact ⟨rfl, HB.out⟩
    · have e : wordB (bhP ⟨op, a, b, n⟩ s all) 16 = wordB s 16 := wordB_same _ _ 16 fun j _ => by
        unfold bhP; rw [if_neg h9, if_neg h10]
      rw [e]
      have q9 : (op == 9) = false := by simpa using h9
      have q10 : (op == 10) = false := by simpa using h10
      clear e h h9 h10
      go_enter Try.func38, Try.ntmps38
      go_wp2
      go_ret
      exact ⟨rfl, HB.out⟩
set_option maxHeartbeats 1000000 in
theorem joinMay_any (p q : Nat → Bool) (w : World) : Calls Try.prog 30 #[.int .u16 (wordB p 16 : Nat), .int .u16 (wordB q 16 : Nat)] w fun e w' => e = .returned (.int .u16 (wordB (fun k => p k || q k) 16 : Nat)) ∧ w = w' := by
  have h := w16_or p q
  go_enter Try.func30, Try.ntmps30
  go_wp2
  go_ret
  exact ⟨rfl, rfl⟩
set_option maxHeartbeats 1000000 in
theorem joinMust_any (p q : Nat → Bool) (w : World) : Calls Try.prog 31 #[.int .u16 (wordB p 16 : Nat), .int .u16 (wordB q 16 : Nat)] w fun e w' => e = .returned (.int .u16 (wordB (fun k => p k && q k) 16 : Nat)) ∧ w = w' := by
  have h := w16_and p q
  go_enter Try.func31, Try.ntmps31
  go_wp2
  go_ret
  exact ⟨rfl, rfl⟩
end Go.Proofs.Ythoddoabcdbliaa
