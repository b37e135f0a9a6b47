/- Plain facts on sets of workers as predicates, on the words of 64 bits that hold them, and on the cells of an array of sixteen words. -/
import Derived.WalkKit
import Derived.Laws.Bits64b
import Derived.Laws.BitsAllLaws
import Derived.Laws.CopyOwn
namespace Go.Proofs.YtchhenpijbecaaaDoor
open Go.RowKit

/-- The first k bits that a predicate gives. -/
def wordB (p : Nat → Bool) : Nat → Nat
  | 0 => 0
  | k + 1 => wordB p k + if p k then 2 ^ k else 0
theorem wordB_lt (p : Nat → Bool) (k : Nat) : wordB p k < 2 ^ k := by
  induction k with
  | zero => simp [wordB]
  | succ k ih => rw [wordB, Nat.pow_succ]; split <;> omega
theorem wordB_testBit (p : Nat → Bool) (k j : Nat) : (wordB p k).testBit j = (decide (j < k) && p j) := by
  induction k with
  | zero => simp [wordB]
  | succ k ih =>
    have hlt := wordB_lt p k
    rw [wordB]
    by_cases hp : p k
    · rw [if_pos hp, Nat.add_comm]
      by_cases hj : j = k
      · subst hj
        rw [Nat.testBit_two_pow_add_eq, Nat.testBit_lt_two_pow hlt]
        simp [hp]
      · by_cases hjk : j < k
        · rw [Nat.testBit_two_pow_add_gt hjk, ih]
          simp [hjk, show j < k + 1 by omega]
        · have h2 : 2 ^ k + wordB p k < 2 ^ j := by
            have : 2 ^ (k + 1) ≤ 2 ^ j := Nat.pow_le_pow_right (by decide) (by omega)
            rw [Nat.pow_succ] at this
            omega
          rw [Nat.testBit_lt_two_pow h2]
          simp [show ¬ j < k + 1 by omega]
    · rw [if_neg hp, Nat.add_zero, ih]
      by_cases hj : j = k
      · subst hj; simp [hp]
      · rw [show decide (j < k + 1) = decide (j < k) by simp; omega]

/-- The i-th word of the set that a predicate gives. -/
def word (p : Nat → Bool) (i : Nat) : Nat := wordB (fun k => p (64 * i + k)) 64
theorem word_lt (p : Nat → Bool) (i : Nat) : word p i < 2 ^ 64 := wordB_lt _ 64
theorem word_lt' (p : Nat → Bool) (i : Nat) : word p i < 18446744073709551616 := wordB_lt _ 64
theorem word_testBit (p : Nat → Bool) (i j : Nat) : (word p i).testBit j = (decide (j < 64) && p (64 * i + j)) := wordB_testBit _ 64 j
/-- A word is known by its 64 bits. -/
theorem word_eq {x : Nat} {p : Nat → Bool} {i : Nat} (hx : x < 2 ^ 64) (h : ∀ k, k < 64 → x.testBit k = p (64 * i + k)) : x = word p i := by
  apply Nat.eq_of_testBit_eq
  intro j
  rw [word_testBit]
  by_cases hj : j < 64
  · simp [hj, h j hj]
  · rw [Nat.testBit_lt_two_pow (Nat.lt_of_lt_of_le hx (Nat.pow_le_pow_right (by decide) (by omega)))]
    simp [hj]
theorem word_congr {p q : Nat → Bool} {i : Nat} (h : ∀ k, k < 64 → p (64 * i + k) = q (64 * i + k)) : word p i = word q i :=
  word_eq (word_lt p i) fun k hk => by rw [word_testBit]; simp [hk, h k hk]
theorem word_inj {p q : Nat → Bool} {i : Nat} (h : word p i = word q i) (k : Nat) (hk : k < 64) : p (64 * i + k) = q (64 * i + k) := by
  have := congrArg (fun x => x.testBit k) h
  simpa [word_testBit, hk] using this
theorem word_and (p q : Nat → Bool) (i : Nat) : word p i &&& word q i = word (fun n => p n && q n) i :=
  word_eq (Nat.lt_of_le_of_lt Nat.and_le_left (word_lt p i)) fun k hk => by rw [Nat.testBit_and, word_testBit, word_testBit]; simp [hk]
theorem word_or (p q : Nat → Bool) (i : Nat) : word p i ||| word q i = word (fun n => p n || q n) i :=
  word_eq (Nat.or_lt_two_pow (word_lt p i) (word_lt q i)) fun k hk => by rw [Nat.testBit_or, word_testBit, word_testBit]; simp [hk]
theorem not_testBit (y k : Nat) (hy : y < 2 ^ 64) (hk : k < 64) : (18446744073709551615 - y).testBit k = !y.testBit k := by
  have := Nat.testBit_two_pow_sub_succ (x := y) (n := 64) hy k
  rw [show (18446744073709551615 - y) = 2 ^ 64 - (y + 1) by omega, this]
  simp [hk]
theorem word_minus (p q : Nat → Bool) (i : Nat) : word p i &&& (18446744073709551615 - word q i) = word (fun n => p n && !q n) i :=
  word_eq (Nat.lt_of_le_of_lt Nat.and_le_left (word_lt p i)) fun k hk => by rw [Nat.testBit_and, not_testBit _ _ (word_lt q i) hk, word_testBit, word_testBit]; simp [hk]
theorem word_zero (i : Nat) : word (fun _ => false) i = 0 :=
  (word_eq (by decide) fun k _ => by simp).symm
theorem word_eq_zero {p : Nat → Bool} {i : Nat} : word p i = 0 ↔ ∀ k, k < 64 → p (64 * i + k) = false := by
  rw [← word_zero i]
  exact ⟨fun h k hk => word_inj h k hk, fun h => word_congr h⟩
theorem pow_testBit (m k : Nat) : (2 ^ m).testBit k = decide (m = k) := Nat.testBit_two_pow
theorem word_put (p : Nat → Bool) (n : Nat) : word p (n / 64) ||| 2 ^ (n % 64) = word (fun m => p m || decide (m = n)) (n / 64) :=
  word_eq (Nat.or_lt_two_pow (word_lt p _) (Nat.pow_lt_pow_right (by decide) (by omega))) fun k hk => by
    rw [Nat.testBit_or, word_testBit, pow_testBit]; simp only [hk, decide_true, Bool.true_and]
    congr 1; rw [decide_eq_decide]; omega
theorem word_drop (p : Nat → Bool) (n : Nat) : word p (n / 64) &&& (18446744073709551615 - 2 ^ (n % 64)) = word (fun m => p m && !decide (m = n)) (n / 64) :=
  word_eq (Nat.lt_of_le_of_lt Nat.and_le_left (word_lt p _)) fun k hk => by
    rw [Nat.testBit_and, not_testBit _ _ (Nat.pow_lt_pow_right (by decide) (by omega)) hk, word_testBit, pow_testBit]; simp only [hk, decide_true, Bool.true_and]
    congr 2; rw [decide_eq_decide]; omega
theorem word_has (p : Nat → Bool) (n : Nat) : word p (n / 64) / 2 ^ (n % 64) % 2 = if p n then 1 else 0 := by
  have h := word_testBit p (n / 64) (n % 64)
  rw [show decide (n % 64 < 64) = true by simp; omega, Bool.true_and, show 64 * (n / 64) + n % 64 = n by omega, Nat.testBit_eq_decide_div_mod_eq] at h
  cases hp : p n <;> simp_all
theorem word_put_other (p : Nat → Bool) (n j : Nat) (h : j ≠ n / 64) : word p j = word (fun m => p m || decide (m = n)) j :=
  word_congr fun k hk => by rw [show decide (64 * j + k = n) = false by simp; omega]; simp
theorem word_drop_other (p : Nat → Bool) (n j : Nat) (h : j ≠ n / 64) : word p j = word (fun m => p m && !decide (m = n)) j :=
  word_congr fun k hk => by rw [show decide (64 * j + k = n) = false by simp; omega]; simp

/-- The cells of the set that a predicate gives. -/
def cellsOf (p : Nat → Bool) : Array Value := ((List.range 16).map fun i => Value.int .u64 (word p i)).toArray
theorem cellsOf_size (p : Nat → Bool) : (cellsOf p).size = 16 := by simp [cellsOf]
theorem cellsOf_get (p : Nat → Bool) (i : Nat) (h : i < 16) : (cellsOf p)[i]? = some (.int .u64 (word p i)) := by
  simp [cellsOf, h]
theorem cellsOf_none (p : Nat → Bool) (i : Nat) (h : 16 ≤ i) : (cellsOf p)[i]? = none := by
  simp [cellsOf_size]; omega
theorem cells_ext {cs : Array Value} {p : Nat → Bool} (hs : cs.size = 16) (h : ∀ i, i < 16 → cs[i]? = some (.int .u64 (word p i))) : cs = cellsOf p := by
  apply Array.ext_getElem?
  intro i
  by_cases hi : i < 16
  · rw [h i hi, cellsOf_get p i hi]
  · rw [cellsOf_none p i (by omega)]; simp; omega
theorem cellsOf_congr {p q : Nat → Bool} (h : ∀ n, n < 1024 → p n = q n) : cellsOf p = cellsOf q :=
  cells_ext (cellsOf_size p) fun i hi => by rw [cellsOf_get p i hi, word_congr fun k hk => h _ (by omega)]
theorem cellsOf_inj {p q : Nat → Bool} (h : cellsOf p = cellsOf q) (n : Nat) (hn : n < 1024) : p n = q n := by
  have h1 := cellsOf_get p (n / 64) (by omega)
  rw [h, cellsOf_get q (n / 64) (by omega)] at h1
  simp only [Option.some.injEq, Value.int.injEq, true_and] at h1
  have h2 : word p (n / 64) = word q (n / 64) := by omega
  have h3 := word_inj h2 (n % 64) (by omega)
  rwa [show 64 * (n / 64) + n % 64 = n by omega] at h3
/-- One word stored: the i-th word turns, the others stay. -/
theorem cellsOf_set (p q : Nat → Bool) (i v : Nat) (h : i < 16) (hv : v = word q i) (ho : ∀ j, j < 16 → j ≠ i → word p j = word q j) :
    (cellsOf p).setIfInBounds i (.int .u64 v) = cellsOf q :=
  cells_ext (by simp [cellsOf_size]) fun j hj => by
    rw [Array.getElem?_setIfInBounds]
    by_cases e : i = j
    · subst e; rw [if_pos rfl, if_pos (by rw [cellsOf_size]; exact h), hv]
    · rw [if_neg e, cellsOf_get _ _ hj, ho j hj (fun x => e x.symm)]
theorem cellsOf_one (p : Nat → Bool) : (cellsOf p).all (·.oneCell') = true := by
  simp [cellsOf, Value.oneCell']
theorem cellsOf_zero : cellsOf (fun _ => false) = #[.int .u64 0, .int .u64 0, .int .u64 0, .int .u64 0, .int .u64 0, .int .u64 0, .int .u64 0, .int .u64 0, .int .u64 0, .int .u64 0, .int .u64 0, .int .u64 0, .int .u64 0, .int .u64 0, .int .u64 0, .int .u64 0] := by
  simp [cellsOf, word_zero, List.range_succ]

theorem wrap_pow (k : Nat) (h : k < 64) : IntKind.u64.wrap ((2 : Int) ^ k) = ((2 ^ k : Nat) : Int) := by
  have h1 : 2 ^ k < 2 ^ 64 := Nat.pow_lt_pow_right (by decide) h
  have h2 : ((2 : Int) ^ k) = ((2 ^ k : Nat) : Int) := by simp
  rw [IntKind.wrap_u64, h2]
  generalize 2 ^ k = q at *
  omega
theorem or_put (p : Nat → Bool) (n : Nat) : bits .or .u64 (word p (n / 64) : Int) (IntKind.u64.wrap ((2 : Int) ^ (n % 64))) = ((word (fun m => p m || decide (m = n)) (n / 64) : Nat) : Int) := by
  have h1 : 2 ^ (n % 64) < 2 ^ 64 := Nat.pow_lt_pow_right (by decide) (by omega)
  rw [wrap_pow _ (by omega), u64_or_nat _ _ (word_lt' p _) (by omega), word_put]
theorem andNot_drop (p : Nat → Bool) (n : Nat) : bits .andNot .u64 (word p (n / 64) : Int) (IntKind.u64.wrap ((2 : Int) ^ (n % 64))) = ((word (fun m => p m && !decide (m = n)) (n / 64) : Nat) : Int) := by
  have h1 : 2 ^ (n % 64) < 2 ^ 64 := Nat.pow_lt_pow_right (by decide) (by omega)
  rw [wrap_pow _ (by omega), u64_andNot_nat _ _ (word_lt' p _) (by omega), word_drop]
theorem has_and (p : Nat → Bool) (n : Nat) : (bits .and .u64 ((word p (n / 64) : Int) / 2 ^ (n % 64)) 1 == 1) = p n := by
  have e : ((word p (n / 64) : Int) / 2 ^ (n % 64)) = ((word p (n / 64) / 2 ^ (n % 64) : Nat) : Int) := by simp
  have h := word_has p n
  have h2 : word p (n / 64) / 2 ^ (n % 64) < 18446744073709551616 := Nat.lt_of_le_of_lt (Nat.div_le_self _ _) (word_lt' p _)
  have h3 := u64_and_nat _ 1 h2 (by decide)
  rw [nat_mask1, h] at h3
  rw [e, show (1 : Int) = ((1 : Nat) : Int) from rfl, h3]
  cases p n <;> rfl
theorem has_mod (p : Nat → Bool) (n : Nat) : (((word p (n / 64) : Int) / 2 ^ (n % 64)).tmod 2 == 1) = p n := by
  have e : ((word p (n / 64) : Int) / 2 ^ (n % 64)) = ((word p (n / 64) / 2 ^ (n % 64) : Nat) : Int) := by simp
  rw [e, Int.tmod_eq_emod_of_nonneg (Int.natCast_nonneg _), show (2 : Int) = ((2 : Nat) : Int) from rfl, ← Int.natCast_emod, word_has p n]
  cases p n <;> rfl
theorem and_word (p q : Nat → Bool) (i : Nat) : bits .and .u64 (word p i : Int) (word q i : Int) = ((word (fun n => p n && q n) i : Nat) : Int) := by
  rw [u64_and_nat _ _ (word_lt' p _) (word_lt' q _), word_and]
theorem or_word (p q : Nat → Bool) (i : Nat) : bits .or .u64 (word p i : Int) (word q i : Int) = ((word (fun n => p n || q n) i : Nat) : Int) := by
  rw [u64_or_nat _ _ (word_lt' p _) (word_lt' q _), word_or]
theorem minus_word (p q : Nat → Bool) (i : Nat) : bits .andNot .u64 (word p i : Int) (word q i : Int) = ((word (fun n => p n && !q n) i : Nat) : Int) := by
  rw [u64_andNot_nat _ _ (word_lt' p _) (word_lt' q _), word_minus]
/-- r on the first k words, p on the others. -/
def mixP (r p : Nat → Bool) (k : Nat) : Nat → Bool := fun n => if n < 64 * k then r n else p n
theorem mix_zero (r p : Nat → Bool) : mixP r p 0 = p := by funext n; simp [mixP]
theorem mix_all (r p : Nat → Bool) : cellsOf (mixP r p 16) = cellsOf r := cellsOf_congr fun n hn => by simp [mixP, hn]
theorem mix_here (r p : Nat → Bool) (k : Nat) : word (mixP r p k) k = word p k := word_congr fun j _ => by rw [mixP, if_neg (by omega)]
theorem mix_next (r p : Nat → Bool) (k : Nat) : word (mixP r p (k + 1)) k = word r k := word_congr fun j hj => by rw [mixP, if_pos (by omega)]
theorem mix_other (r p : Nat → Bool) (k j : Nat) (h : j ≠ k) : word (mixP r p k) j = word (mixP r p (k + 1)) j :=
  word_congr fun i hi => by
    unfold mixP
    by_cases hj : j < k
    · rw [if_pos (by omega), if_pos (by omega)]
    · rw [if_neg (by omega), if_neg (by omega)]
theorem wordB_same (p q : Nat → Bool) (K : Nat) (h : ∀ m, m < K → p m = q m) : wordB p K = wordB q K := by
  induction K with
  | zero => rfl
  | succ K ih => rw [wordB, wordB, ih (fun m hm => h m (by omega)), h K (by omega)]
theorem wordB_put (p : Nat → Bool) (k K : Nat) (hk : k < K) (h : p k = false) : wordB (fun m => p m || decide (m = k)) K = wordB p K + 2 ^ k := by
  induction K with
  | zero => omega
  | succ K ih =>
    rw [wordB, wordB]
    by_cases e : k = K
    · subst e
      rw [wordB_same (fun m => p m || decide (m = k)) p k (fun m hm => by simp; omega)]
      simp [h]
    · rw [ih (by omega), show (p K || decide (K = k)) = p K by simp; omega]
      omega
theorem word_add_put (p : Nat → Bool) (n : Nat) (h : p n = false) : word (fun m => p m || decide (m = n)) (n / 64) = word p (n / 64) + 2 ^ (n % 64) := by
  unfold word
  rw [← wordB_put (fun k => p (64 * (n / 64) + k)) (n % 64) 64 (by omega) (by rw [show 64 * (n / 64) + n % 64 = n by omega]; exact h)]
  refine wordB_same _ _ _ fun m hm => ?_
  show (p (64 * (n / 64) + m) || decide (64 * (n / 64) + m = n)) = _
  congr 1; rw [decide_eq_decide]; omega
theorem below_setRow {B g : Nat} {w0 w : World} (hb : Below B w0 w) (hBg : B ≤ g) (cs : Array Value) : Below B w0 (w.setRow g cs) :=
  hb.trans ⟨rfl, rfl, rfl, by simp [World.setRow], fun k hk => setRow_other w g k cs (by omega)⟩
end Go.Proofs.YtchhenpijbecaaaDoor
