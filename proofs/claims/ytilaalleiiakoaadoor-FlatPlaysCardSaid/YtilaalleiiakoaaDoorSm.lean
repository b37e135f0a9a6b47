/- Plain facts on sets of workers as predicates, on the words of 64 bits that hold them, and on the cells of an array of sixteen words. -/
import Derived.WalkKit
import Derived.Laws.Bits64b
import Derived.Laws.BitsAllLaws
import Derived.Laws.CopyOwn
import Derived.Test.YtilaalleiiakoaaDoorProg
import Derived.WalkSpells
import Derived.WalkLawsBesides
import Derived.BigRegion
import Derived.BigQuiet
import Derived.Deep.QuietTactic
import Derived.Lib.Hide
import Derived.ChangeKeysEq
import Derived.Deep.Quiet
namespace Go.Proofs.YtilaalleiiakoaaDoor
open Go.RowKit

/-- The first k bits that a predicate gives. -/
def wordB (p : Nat → Bool) : Nat → Nat
  | 0 => 0
  | k + 1 => wordB p k + if p k then 2 ^ k else 0
theorem wordB_lt (p : Nat → Bool) (k : Nat) : wordB p k < 2 ^ k := by
  induction k with
  | zero => simp [wordB]
  | succ k ih => rw [wordB, Nat.pow_succ]; split <;> omega
theorem wordB_testBit (p : Nat → Bool) (k j : Nat) : (wordB p k).testBit j = (decide (j < k) && p j) := by
  induction k with
  | zero => simp [wordB]
  | succ k ih =>
    have hlt := wordB_lt p k
    rw [wordB]
    by_cases hp : p k
    · rw [if_pos hp, Nat.add_comm]
      by_cases hj : j = k
      · subst hj
        rw [Nat.testBit_two_pow_add_eq, Nat.testBit_lt_two_pow hlt]
        simp [hp]
      · by_cases hjk : j < k
        · rw [Nat.testBit_two_pow_add_gt hjk, ih]
          simp [hjk, show j < k + 1 by omega]
        · have h2 : 2 ^ k + wordB p k < 2 ^ j := by
            have : 2 ^ (k + 1) ≤ 2 ^ j := Nat.pow_le_pow_right (by decide) (by omega)
            rw [Nat.pow_succ] at this
            omega
          rw [Nat.testBit_lt_two_pow h2]
          simp [show ¬ j < k + 1 by omega]
    · rw [if_neg hp, Nat.add_zero, ih]
      by_cases hj : j = k
      · subst hj; simp [hp]
      · rw [show decide (j < k + 1) = decide (j < k) by simp; omega]

/-- The i-th word of the set that a predicate gives. -/
def word (p : Nat → Bool) (i : Nat) : Nat := wordB (fun k => p (64 * i + k)) 64
theorem word_lt (p : Nat → Bool) (i : Nat) : word p i < 2 ^ 64 := wordB_lt _ 64
theorem word_lt' (p : Nat → Bool) (i : Nat) : word p i < 18446744073709551616 := wordB_lt _ 64
theorem word_testBit (p : Nat → Bool) (i j : Nat) : (word p i).testBit j = (decide (j < 64) && p (64 * i + j)) := wordB_testBit _ 64 j
/-- A word is known by its 64 bits. -/
theorem word_eq {x : Nat} {p : Nat → Bool} {i : Nat} (hx : x < 2 ^ 64) (h : ∀ k, k < 64 → x.testBit k = p (64 * i + k)) : x = word p i := by
  apply Nat.eq_of_testBit_eq
  intro j
  rw [word_testBit]
  by_cases hj : j < 64
  · simp [hj, h j hj]
  · rw [Nat.testBit_lt_two_pow (Nat.lt_of_lt_of_le hx (Nat.pow_le_pow_right (by decide) (by omega)))]
    simp [hj]
theorem word_congr {p q : Nat → Bool} {i : Nat} (h : ∀ k, k < 64 → p (64 * i + k) = q (64 * i + k)) : word p i = word q i :=
  word_eq (word_lt p i) fun k hk => by rw [word_testBit]; simp [hk, h k hk]
theorem word_inj {p q : Nat → Bool} {i : Nat} (h : word p i = word q i) (k : Nat) (hk : k < 64) : p (64 * i + k) = q (64 * i + k) := by
  have := congrArg (fun x => x.testBit k) h
  simpa [word_testBit, hk] using this
theorem word_and (p q : Nat → Bool) (i : Nat) : word p i &&& word q i = word (fun n => p n && q n) i :=
  word_eq (Nat.lt_of_le_of_lt Nat.and_le_left (word_lt p i)) fun k hk => by rw [Nat.testBit_and, word_testBit, word_testBit]; simp [hk]
theorem word_or (p q : Nat → Bool) (i : Nat) : word p i ||| word q i = word (fun n => p n || q n) i :=
  word_eq (Nat.or_lt_two_pow (word_lt p i) (word_lt q i)) fun k hk => by rw [Nat.testBit_or, word_testBit, word_testBit]; simp [hk]
theorem not_testBit (y k : Nat) (hy : y < 2 ^ 64) (hk : k < 64) : (18446744073709551615 - y).testBit k = !y.testBit k := by
  have := Nat.testBit_two_pow_sub_succ (x := y) (n := 64) hy k
  rw [show (18446744073709551615 - y) = 2 ^ 64 - (y + 1) by omega, this]
  simp [hk]
theorem word_minus (p q : Nat → Bool) (i : Nat) : word p i &&& (18446744073709551615 - word q i) = word (fun n => p n && !q n) i :=
  word_eq (Nat.lt_of_le_of_lt Nat.and_le_left (word_lt p i)) fun k hk => by rw [Nat.testBit_and, not_testBit _ _ (word_lt q i) hk, word_testBit, word_testBit]; simp [hk]
theorem word_zero (i : Nat) : word (fun _ => false) i = 0 :=
  (word_eq (by decide) fun k _ => by simp).symm
theorem word_eq_zero {p : Nat → Bool} {i : Nat} : word p i = 0 ↔ ∀ k, k < 64 → p (64 * i + k) = false := by
  rw [← word_zero i]
  exact ⟨fun h k hk => word_inj h k hk, fun h => word_congr h⟩
theorem pow_testBit (m k : Nat) : (2 ^ m).testBit k = decide (m = k) := Nat.testBit_two_pow
theorem word_put (p : Nat → Bool) (n : Nat) : word p (n / 64) ||| 2 ^ (n % 64) = word (fun m => p m || decide (m = n)) (n / 64) :=
  word_eq (Nat.or_lt_two_pow (word_lt p _) (Nat.pow_lt_pow_right (by decide) (by omega))) fun k hk => by
    rw [Nat.testBit_or, word_testBit, pow_testBit]; simp only [hk, decide_true, Bool.true_and]
    congr 1; rw [decide_eq_decide]; omega
theorem word_drop (p : Nat → Bool) (n : Nat) : word p (n / 64) &&& (18446744073709551615 - 2 ^ (n % 64)) = word (fun m => p m && !decide (m = n)) (n / 64) :=
  word_eq (Nat.lt_of_le_of_lt Nat.and_le_left (word_lt p _)) fun k hk => by
    rw [Nat.testBit_and, not_testBit _ _ (Nat.pow_lt_pow_right (by decide) (by omega)) hk, word_testBit, pow_testBit]; simp only [hk, decide_true, Bool.true_and]
    congr 2; rw [decide_eq_decide]; omega
theorem word_has (p : Nat → Bool) (n : Nat) : word p (n / 64) / 2 ^ (n % 64) % 2 = if p n then 1 else 0 := by
  have h := word_testBit p (n / 64) (n % 64)
  rw [show decide (n % 64 < 64) = true by simp; omega, Bool.true_and, show 64 * (n / 64) + n % 64 = n by omega, Nat.testBit_eq_decide_div_mod_eq] at h
  cases hp : p n <;> simp_all
theorem word_put_other (p : Nat → Bool) (n j : Nat) (h : j ≠ n / 64) : word p j = word (fun m => p m || decide (m = n)) j :=
  word_congr fun k hk => by rw [show decide (64 * j + k = n) = false by simp; omega]; simp
theorem word_drop_other (p : Nat → Bool) (n j : Nat) (h : j ≠ n / 64) : word p j = word (fun m => p m && !decide (m = n)) j :=
  word_congr fun k hk => by rw [show decide (64 * j + k = n) = false by simp; omega]; simp

/-- The cells of the set that a predicate gives. -/
def cellsOf (p : Nat → Bool) : Array Value := ((List.range 16).map fun i => Value.int .u64 (word p i)).toArray
theorem cellsOf_size (p : Nat → Bool) : (cellsOf p).size = 16 := by simp [cellsOf]
theorem cellsOf_get (p : Nat → Bool) (i : Nat) (h : i < 16) : (cellsOf p)[i]? = some (.int .u64 (word p i)) := by
  simp [cellsOf, h]
theorem cellsOf_none (p : Nat → Bool) (i : Nat) (h : 16 ≤ i) : (cellsOf p)[i]? = none := by
  simp [cellsOf_size]; omega
theorem cells_ext {cs : Array Value} {p : Nat → Bool} (hs : cs.size = 16) (h : ∀ i, i < 16 → cs[i]? = some (.int .u64 (word p i))) : cs = cellsOf p := by
  apply Array.ext_getElem?
  intro i
  by_cases hi : i < 16
  · rw [h i hi, cellsOf_get p i hi]
  · rw [cellsOf_none p i (by omega)]; simp; omega
theorem cellsOf_congr {p q : Nat → Bool} (h : ∀ n, n < 1024 → p n = q n) : cellsOf p = cellsOf q :=
  cells_ext (cellsOf_size p) fun i hi => by rw [cellsOf_get p i hi, word_congr fun k hk => h _ (by omega)]
theorem cellsOf_inj {p q : Nat → Bool} (h : cellsOf p = cellsOf q) (n : Nat) (hn : n < 1024) : p n = q n := by
  have h1 := cellsOf_get p (n / 64) (by omega)
  rw [h, cellsOf_get q (n / 64) (by omega)] at h1
  simp only [Option.some.injEq, Value.int.injEq, true_and] at h1
  have h2 : word p (n / 64) = word q (n / 64) := by omega
  have h3 := word_inj h2 (n % 64) (by omega)
  rwa [show 64 * (n / 64) + n % 64 = n by omega] at h3
/-- One word stored: the i-th word turns, the others stay. -/
theorem cellsOf_set (p q : Nat → Bool) (i v : Nat) (h : i < 16) (hv : v = word q i) (ho : ∀ j, j < 16 → j ≠ i → word p j = word q j) :
    (cellsOf p).setIfInBounds i (.int .u64 v) = cellsOf q :=
  cells_ext (by simp [cellsOf_size]) fun j hj => by
    rw [Array.getElem?_setIfInBounds]
    by_cases e : i = j
    · subst e; rw [if_pos rfl, if_pos (by rw [cellsOf_size]; exact h), hv]
    · rw [if_neg e, cellsOf_get _ _ hj, ho j hj (fun x => e x.symm)]
theorem cellsOf_one (p : Nat → Bool) : (cellsOf p).all (·.oneCell') = true := by
  simp [cellsOf, Value.oneCell']
theorem cellsOf_zero : cellsOf (fun _ => false) = #[.int .u64 0, .int .u64 0, .int .u64 0, .int .u64 0, .int .u64 0, .int .u64 0, .int .u64 0, .int .u64 0, .int .u64 0, .int .u64 0, .int .u64 0, .int .u64 0, .int .u64 0, .int .u64 0, .int .u64 0, .int .u64 0] := by
  simp [cellsOf, word_zero, List.range_succ]

theorem wrap_pow (k : Nat) (h : k < 64) : IntKind.u64.wrap ((2 : Int) ^ k) = ((2 ^ k : Nat) : Int) := by
  have h1 : 2 ^ k < 2 ^ 64 := Nat.pow_lt_pow_right (by decide) h
  have h2 : ((2 : Int) ^ k) = ((2 ^ k : Nat) : Int) := by simp
  rw [IntKind.wrap_u64, h2]
  generalize 2 ^ k = q at *
  omega
theorem or_put (p : Nat → Bool) (n : Nat) : bits .or .u64 (word p (n / 64) : Int) (IntKind.u64.wrap ((2 : Int) ^ (n % 64))) = ((word (fun m => p m || decide (m = n)) (n / 64) : Nat) : Int) := by
  have h1 : 2 ^ (n % 64) < 2 ^ 64 := Nat.pow_lt_pow_right (by decide) (by omega)
  rw [wrap_pow _ (by omega), u64_or_nat _ _ (word_lt' p _) (by omega), word_put]
theorem andNot_drop (p : Nat → Bool) (n : Nat) : bits .andNot .u64 (word p (n / 64) : Int) (IntKind.u64.wrap ((2 : Int) ^ (n % 64))) = ((word (fun m => p m && !decide (m = n)) (n / 64) : Nat) : Int) := by
  have h1 : 2 ^ (n % 64) < 2 ^ 64 := Nat.pow_lt_pow_right (by decide) (by omega)
  rw [wrap_pow _ (by omega), u64_andNot_nat _ _ (word_lt' p _) (by omega), word_drop]
theorem has_and (p : Nat → Bool) (n : Nat) : (bits .and .u64 ((word p (n / 64) : Int) / 2 ^ (n % 64)) 1 == 1) = p n := by
  have e : ((word p (n / 64) : Int) / 2 ^ (n % 64)) = ((word p (n / 64) / 2 ^ (n % 64) : Nat) : Int) := by simp
  have h := word_has p n
  have h2 : word p (n / 64) / 2 ^ (n % 64) < 18446744073709551616 := Nat.lt_of_le_of_lt (Nat.div_le_self _ _) (word_lt' p _)
  have h3 := u64_and_nat _ 1 h2 (by decide)
  rw [nat_mask1, h] at h3
  rw [e, show (1 : Int) = ((1 : Nat) : Int) from rfl, h3]
  cases p n <;> rfl
theorem has_mod (p : Nat → Bool) (n : Nat) : (((word p (n / 64) : Int) / 2 ^ (n % 64)).tmod 2 == 1) = p n := by
  have e : ((word p (n / 64) : Int) / 2 ^ (n % 64)) = ((word p (n / 64) / 2 ^ (n % 64) : Nat) : Int) := by simp
  rw [e, Int.tmod_eq_emod_of_nonneg (Int.natCast_nonneg _), show (2 : Int) = ((2 : Nat) : Int) from rfl, ← Int.natCast_emod, word_has p n]
  cases p n <;> rfl
theorem and_word (p q : Nat → Bool) (i : Nat) : bits .and .u64 (word p i : Int) (word q i : Int) = ((word (fun n => p n && q n) i : Nat) : Int) := by
  rw [u64_and_nat _ _ (word_lt' p _) (word_lt' q _), word_and]
theorem or_word (p q : Nat → Bool) (i : Nat) : bits .or .u64 (word p i : Int) (word q i : Int) = ((word (fun n => p n || q n) i : Nat) : Int) := by
  rw [u64_or_nat _ _ (word_lt' p _) (word_lt' q _), word_or]
theorem minus_word (p q : Nat → Bool) (i : Nat) : bits .andNot .u64 (word p i : Int) (word q i : Int) = ((word (fun n => p n && !q n) i : Nat) : Int) := by
  rw [u64_andNot_nat _ _ (word_lt' p _) (word_lt' q _), word_minus]
/-- r on the first k words, p on the others. -/
def mixP (r p : Nat → Bool) (k : Nat) : Nat → Bool := fun n => if n < 64 * k then r n else p n
theorem mix_zero (r p : Nat → Bool) : mixP r p 0 = p := by funext n; simp [mixP]
theorem mix_all (r p : Nat → Bool) : cellsOf (mixP r p 16) = cellsOf r := cellsOf_congr fun n hn => by simp [mixP, hn]
theorem mix_here (r p : Nat → Bool) (k : Nat) : word (mixP r p k) k = word p k := word_congr fun j _ => by rw [mixP, if_neg (by omega)]
theorem mix_next (r p : Nat → Bool) (k : Nat) : word (mixP r p (k + 1)) k = word r k := word_congr fun j hj => by rw [mixP, if_pos (by omega)]
theorem mix_other (r p : Nat → Bool) (k j : Nat) (h : j ≠ k) : word (mixP r p k) j = word (mixP r p (k + 1)) j :=
  word_congr fun i hi => by
    unfold mixP
    by_cases hj : j < k
    · rw [if_pos (by omega), if_pos (by omega)]
    · rw [if_neg (by omega), if_neg (by omega)]
theorem wordB_same (p q : Nat → Bool) (K : Nat) (h : ∀ m, m < K → p m = q m) : wordB p K = wordB q K := by
  induction K with
  | zero => rfl
  | succ K ih => rw [wordB, wordB, ih (fun m hm => h m (by omega)), h K (by omega)]
theorem wordB_put (p : Nat → Bool) (k K : Nat) (hk : k < K) (h : p k = false) : wordB (fun m => p m || decide (m = k)) K = wordB p K + 2 ^ k := by
  induction K with
  | zero => omega
  | succ K ih =>
    rw [wordB, wordB]
    by_cases e : k = K
    · subst e
      rw [wordB_same (fun m => p m || decide (m = k)) p k (fun m hm => by simp; omega)]
      simp [h]
    · rw [ih (by omega), show (p K || decide (K = k)) = p K by simp; omega]
      omega
theorem word_add_put (p : Nat → Bool) (n : Nat) (h : p n = false) : word (fun m => p m || decide (m = n)) (n / 64) = word p (n / 64) + 2 ^ (n % 64) := by
  unfold word
  rw [← wordB_put (fun k => p (64 * (n / 64) + k)) (n % 64) 64 (by omega) (by rw [show 64 * (n / 64) + n % 64 = n by omega]; exact h)]
  refine wordB_same _ _ _ fun m hm => ?_
  show (p (64 * (n / 64) + m) || decide (64 * (n / 64) + m = n)) = _
  congr 1; rw [decide_eq_decide]; omega
theorem below_setRow {B g : Nat} {w0 w : World} (hb : Below B w0 w) (hBg : B ≤ g) (cs : Array Value) : Below B w0 (w.setRow g cs) :=
  hb.trans ⟨rfl, rfl, rfl, by simp [World.setRow], fun k hk => setRow_other w g k cs (by omega)⟩


theorem infoSet : (Tryd.prog.info? 24).map (·.size) = some 16 := by kernel_rfl
theorem underSet : Tryd.prog.underlying 24 = some (.array 16 22) := Tryd.underlying24
theorem ld_set {ops : Array Oper} {rest : List Oper} {o : Oper} {a : Act} {w : World} {Q : Exit → Act → World → Prop} (hgd : Region.wanted o (yielded ops a.tmps) = true) (x : Operand) (ho : o.op = .load 24 x)
    (g : Nat) (hx : a.eval x = .pointer (some ⟨g, 0, none⟩)) (p : Nat → Bool) (hg : w.heap[g]? = some (.cells (cellsOf p) 24 (0, 0)))
    (h : wpList Tryd.prog ops Q rest (a.put o.dst (.agg (cellsOf p))) w) : wpList Tryd.prog ops Q (o :: rest) a w :=
  BigFrame.wpList_want hgd fun _ hK => wp_load_row 24 x ho g hx 24 _ (0, 0) _ hg underSet rfl (by rw [infoSet, cellsOf_size]) (hK _ _ h)
theorem st_set {ops : Array Oper} {rest : List Oper} {o : Oper} {a : Act} {w : World} {Q : Exit → Act → World → Prop} (hgd : o.guard = none) (x y : Operand) (ho : o.op = .store 24 x y)
    (g : Nat) (p : Nat → Bool) (hx : a.eval x = .pointer (some ⟨g, 0, none⟩)) (hy : a.eval y = .agg (cellsOf p)) (old : Array Value) (hg : w.heap[g]? = some (.cells old 24 (0, 0))) (hold : old.size = 16)
    (h : wpList Tryd.prog ops Q rest (a.put o.dst undef) (w.setRow g (cellsOf p))) : wpList Tryd.prog ops Q (o :: rest) a w :=
  wpList_store_row hgd 24 x y ho g _ hx hy 24 old hg (by rw [infoSet, cellsOf_size]) (by rw [hold, cellsOf_size]) (cellsOf_one p) h
theorem res_set {fn : Func} {R : Ending → World → Prop} {a : Act} {w : World} {t : Tmp} (h : fn.results = #[.cell t 24]) (g : Nat) (p : Nat → Bool)
    (hp : a.tmps.getD t undef = .pointer (some ⟨g, 0, none⟩)) (hg : w.heap[g]? = some (.cells (cellsOf p) 24 (0, 0))) (hd : a.defers = []) (hR : R (.returned (.agg (cellsOf p))) w) : bodyPost Tryd.prog fn R .ret a w :=
  bodyPost_ret (results_cell_row h _ _ g 24 _ (0, 0) _ hp hg underSet rfl (by rw [infoSet, cellsOf_size])) hd hR
/-- A block of sixteen words in a world: its cells read as the set's words, and may be written. -/
theorem blk_cell {w : World} {g : Nat} {p : Nat → Bool} (h : w.heap[g]? = some (.cells (cellsOf p) 24 (0, 0))) (i : Nat) (hi : i < 16) : w.cell? ⟨g, i, none⟩ = some (.int .u64 (word p i)) := by
  rw [cell_of_row w g i _ _ _ h, cellsOf_get p i hi]
theorem blk_set {w : World} {g : Nat} {p : Nat → Bool} (h : w.heap[g]? = some (.cells (cellsOf p) 24 (0, 0))) (q : Nat → Bool) (i v : Nat) (hi : i < 16) (hv : v = word q i) (ho : ∀ j, j < 16 → j ≠ i → word p j = word q j) :
    (w.setCell ⟨g, i, none⟩ (.int .u64 v)).heap[g]? = some (.cells (cellsOf q) 24 (0, 0)) := by
  rw [heap_setCell_same w g i _ _ _ h, cellsOf_set p q i v hi hv ho]

theorem heap_alloc3_0 (w : World) (a b c : Array Value) : (((w.alloc (.cells a 24)).alloc (.cells b 24)).alloc (.cells c 24)).heap[w.heap.size]? = some (.cells a 24 (0, 0)) := by
  exact (heap_alloc_old _ _ (by simp; omega)).trans (heap_alloc2_old w _ _)
theorem heap_alloc3_1 (w : World) (a b c : Array Value) : (((w.alloc (.cells a 24)).alloc (.cells b 24)).alloc (.cells c 24)).heap[w.heap.size + 1]? = some (.cells b 24 (0, 0)) := by
  exact (heap_alloc_old _ _ (by simp)).trans (heap_alloc2_new w _ _)
theorem heap_alloc3_2 (w : World) (a b c : Array Value) : (((w.alloc (.cells a 24)).alloc (.cells b 24)).alloc (.cells c 24)).heap[w.heap.size + 1 + 1]? = some (.cells c 24 (0, 0)) := by
  have h := heap_alloc_new ((w.alloc (.cells a 24)).alloc (.cells b 24)) (.cells c 24)
  have e : ((w.alloc (.cells a 24)).alloc (.cells b 24)).heap.size = w.heap.size + 1 + 1 := by simp
  rwa [e] at h

set_option maxHeartbeats 400000 in
theorem isCpu_yes (n : Int) (w : World) (h0 : 0 ≤ n) (h1 : n < 1024) :
    Calls Tryd.prog 43 #[.int .i64 n] w fun e w' => e = .returned (.bool true) ∧ w = w' := by
  go_enter Tryd.func43, Tryd.ntmps43
  go_wp2
  go_ret
  exact ⟨rfl, rfl⟩
set_option maxHeartbeats 400000 in
theorem isCpu_no (n : Int) (w : World) (h0 : n < 0 ∨ 1024 ≤ n) :
    Calls Tryd.prog 43 #[.int .i64 n] w fun e w' => e = .returned (.bool false) ∧ w = w' := by
  rcases h0 with h0 | h0
  · go_enter Tryd.func43, Tryd.ntmps43
    go_wp2
    go_ret
    exact ⟨rfl, rfl⟩
  · have h2 : decide (n < 1024) = false := by simp; omega
    go_enter Tryd.func43, Tryd.ntmps43
    go_wp2
    go_ret
    exact ⟨rfl, rfl⟩

/-- The set p with the worker n, whatever number n is. -/
def putP (p : Nat → Bool) (n : Int) : Nat → Bool := fun m => p m || decide ((m : Int) = n)
/-- The set p without the worker n. -/
def dropP (p : Nat → Bool) (n : Int) : Nat → Bool := fun m => p m && !decide ((m : Int) = n)
/-- Is n a worker's number, and in p? -/
def hasP (p : Nat → Bool) (n : Int) : Bool := decide (0 ≤ n ∧ n < 1024) && p n.toNat

set_option maxHeartbeats 400000 in
theorem put_yes (p : Nat → Bool) (n : Nat) (w : World) (h1 : n < 1024) :
    Calls Tryd.prog 27 #[.agg (cellsOf p), .int .i64 n] w fun e w' => e = .returned (.agg (cellsOf (putP p n))) ∧ Below w.heap.size w w' := by
  have hq : (fun m => p m || decide (m = n)) = putP p n := by funext m; unfold putP; congr 1; rw [decide_eq_decide]; omega
  rw [← hq]; clear hq
  have hor := or_put p n
  have hg := cellsOf_get p (n / 64) (by omega)
  have hst := cellsOf_set p (fun m => p m || decide (m = n)) (n / 64) _ (by omega) rfl (fun j _ hj => word_put_other p n j hj)
  have hlt : n / 64 < 16 := by omega
  go_enter Tryd.func27, Tryd.ntmps27
  go_wp2_with (go_at_call 43; refine (isCpu_yes _ _ (by omega) (by omega)).mono ?_; rintro e w' ⟨rfl, rfl⟩)
  go_region
  go_wp2_with (first | (refine ld_set rfl (.tmp 2) rfl w.heap.size rfl _ (heap_alloc2_old w _ _) ?_) | (refine st_set rfl (.tmp 4) (.tmp 16) rfl (w.heap.size + 1) _ rfl rfl _ (heap_alloc2_new w _ _) rfl ?_))
  refine res_set rfl (w.heap.size + 1) _ rfl (setRow_heap _ _ _ _ _ _ (heap_alloc2_new w _ _)) rfl ⟨rfl, ?_⟩
  exact below_setRow ((((Below.refl _ _).alloc (Nat.le_refl _) _).alloc (by simp) _).drew) (by simp) _
set_option maxHeartbeats 400000 in
theorem put_no (p : Nat → Bool) (n : Int) (w : World) (h1 : n < 0 ∨ 1024 ≤ n) :
    Calls Tryd.prog 27 #[.agg (cellsOf p), .int .i64 n] w fun e w' => e = .returned (.agg (cellsOf (putP p n))) ∧ Below w.heap.size w w' := by
  have hq : cellsOf (putP p n) = cellsOf p := cellsOf_congr fun m hm => by unfold putP; rw [show decide ((m : Int) = n) = false by simp; omega]; simp
  rw [hq]; clear hq
  go_enter Tryd.func27, Tryd.ntmps27
  go_wp2_with (first | (go_at_call 43; refine (isCpu_no _ _ h1).mono ?_; rintro e w' ⟨rfl, rfl⟩) | (refine ld_set rfl (.tmp 2) rfl w.heap.size rfl _ (heap_alloc2_old w _ _) ?_) | (refine st_set rfl (.tmp 4) (.tmp 16) rfl (w.heap.size + 1) _ rfl rfl _ (heap_alloc2_new w _ _) rfl ?_))
  refine res_set rfl (w.heap.size + 1) _ rfl (setRow_heap _ _ _ _ _ _ (heap_alloc2_new w _ _)) rfl ⟨rfl, ?_⟩
  exact below_setRow (((Below.refl _ _).alloc (Nat.le_refl _) _).alloc (by simp) _) (by simp) _
/-- cpuset.Put, at every number. -/
theorem put_any (p : Nat → Bool) (n : Int) (w : World) :
    Calls Tryd.prog 27 #[.agg (cellsOf p), .int .i64 n] w fun e w' => e = .returned (.agg (cellsOf (putP p n))) ∧ Below w.heap.size w w' := by
  by_cases h : 0 ≤ n ∧ n < 1024
  · obtain ⟨k, rfl⟩ := Int.eq_ofNat_of_zero_le h.1
    exact put_yes p k w (by omega)
  · exact put_no p n w (by omega)

set_option maxHeartbeats 400000 in
theorem drop_yes (p : Nat → Bool) (n : Nat) (w : World) (h1 : n < 1024) :
    Calls Tryd.prog 51 #[.agg (cellsOf p), .int .i64 n] w fun e w' => e = .returned (.agg (cellsOf (dropP p n))) ∧ Below w.heap.size w w' := by
  have hq : (fun m => p m && !decide (m = n)) = dropP p n := by funext m; unfold dropP; congr 2; rw [decide_eq_decide]; omega
  rw [← hq]; clear hq
  have hor := andNot_drop p n
  have hg := cellsOf_get p (n / 64) (by omega)
  have hst := cellsOf_set p (fun m => p m && !decide (m = n)) (n / 64) _ (by omega) rfl (fun j _ hj => word_drop_other p n j hj)
  have hlt : n / 64 < 16 := by omega
  go_enter Tryd.func51, Tryd.ntmps51
  go_wp2_with (go_at_call 43; refine (isCpu_yes _ _ (by omega) (by omega)).mono ?_; rintro e w' ⟨rfl, rfl⟩)
  go_region
  go_wp2_with (first | (refine ld_set rfl (.tmp 2) rfl w.heap.size rfl _ (heap_alloc2_old w _ _) ?_) | (refine st_set rfl (.tmp 4) (.tmp 16) rfl (w.heap.size + 1) _ rfl rfl _ (heap_alloc2_new w _ _) rfl ?_))
  refine res_set rfl (w.heap.size + 1) _ rfl (setRow_heap _ _ _ _ _ _ (heap_alloc2_new w _ _)) rfl ⟨rfl, ?_⟩
  exact below_setRow ((((Below.refl _ _).alloc (Nat.le_refl _) _).alloc (by simp) _).drew) (by simp) _
set_option maxHeartbeats 400000 in
theorem drop_no (p : Nat → Bool) (n : Int) (w : World) (h1 : n < 0 ∨ 1024 ≤ n) :
    Calls Tryd.prog 51 #[.agg (cellsOf p), .int .i64 n] w fun e w' => e = .returned (.agg (cellsOf (dropP p n))) ∧ Below w.heap.size w w' := by
  have hq : cellsOf (dropP p n) = cellsOf p := cellsOf_congr fun m hm => by unfold dropP; rw [show decide ((m : Int) = n) = false by simp; omega]; simp
  rw [hq]; clear hq
  go_enter Tryd.func51, Tryd.ntmps51
  go_wp2_with (first | (go_at_call 43; refine (isCpu_no _ _ h1).mono ?_; rintro e w' ⟨rfl, rfl⟩) | (refine ld_set rfl (.tmp 2) rfl w.heap.size rfl _ (heap_alloc2_old w _ _) ?_) | (refine st_set rfl (.tmp 4) (.tmp 16) rfl (w.heap.size + 1) _ rfl rfl _ (heap_alloc2_new w _ _) rfl ?_))
  refine res_set rfl (w.heap.size + 1) _ rfl (setRow_heap _ _ _ _ _ _ (heap_alloc2_new w _ _)) rfl ⟨rfl, ?_⟩
  exact below_setRow (((Below.refl _ _).alloc (Nat.le_refl _) _).alloc (by simp) _) (by simp) _
/-- cpuset.Drop, at every number. -/
theorem drop_any (p : Nat → Bool) (n : Int) (w : World) :
    Calls Tryd.prog 51 #[.agg (cellsOf p), .int .i64 n] w fun e w' => e = .returned (.agg (cellsOf (dropP p n))) ∧ Below w.heap.size w w' := by
  by_cases h : 0 ≤ n ∧ n < 1024
  · obtain ⟨k, rfl⟩ := Int.eq_ofNat_of_zero_le h.1
    exact drop_yes p k w (by omega)
  · exact drop_no p n w (by omega)

set_option maxHeartbeats 400000 in
theorem shas_yes (p : Nat → Bool) (n : Nat) (w : World) (h1 : n < 1024) :
    Calls Tryd.prog 26 #[.agg (cellsOf p), .int .i64 n] w fun e w' => e = .returned (.bool (p n)) ∧ Below w.heap.size w w' := by
  have hg := cellsOf_get p (n / 64) (by omega)
  have hlt : n / 64 < 16 := by omega
  go_enter Tryd.func26, Tryd.ntmps26
  go_wp2_with (go_at_call 43; refine (isCpu_yes _ _ (by omega) (by omega)).mono ?_; rintro e w' ⟨rfl, rfl⟩)
  go_ret
  exact ⟨congrArg (fun b => Ending.returned (.bool b)) (has_and p n), (Below.refl _ _).alloc (Nat.le_refl _) _⟩
set_option maxHeartbeats 400000 in
theorem shas_no (p : Nat → Bool) (n : Int) (w : World) (h1 : n < 0 ∨ 1024 ≤ n) :
    Calls Tryd.prog 26 #[.agg (cellsOf p), .int .i64 n] w fun e w' => e = .returned (.bool false) ∧ Below w.heap.size w w' := by
  go_enter Tryd.func26, Tryd.ntmps26
  go_wp2_with (go_at_call 43; refine (isCpu_no _ _ h1).mono ?_; rintro e w' ⟨rfl, rfl⟩)
  go_ret
  exact ⟨rfl, (Below.refl _ _).alloc (Nat.le_refl _) _⟩
theorem hasP_yes (p : Nat → Bool) (n : Nat) (h : n < 1024) : hasP p n = p n := by unfold hasP; rw [show decide (0 ≤ (n : Int) ∧ (n : Int) < 1024) = true by simp; omega]; simp
theorem hasP_no (p : Nat → Bool) (n : Int) (h : n < 0 ∨ 1024 ≤ n) : hasP p n = false := by
  unfold hasP; rw [show decide (0 ≤ n ∧ n < 1024) = false by simp; omega]; rfl
/-- cpuset.Has, at every number. -/
theorem shas_any (p : Nat → Bool) (n : Int) (w : World) :
    Calls Tryd.prog 26 #[.agg (cellsOf p), .int .i64 n] w fun e w' => e = .returned (.bool (hasP p n)) ∧ Below w.heap.size w w' := by
  by_cases h : 0 ≤ n ∧ n < 1024
  · obtain ⟨k, rfl⟩ := Int.eq_ofNat_of_zero_le h.1
    rw [hasP_yes p k (by omega)]
    exact shas_yes p k w (by omega)
  · rw [hasP_no p n (by omega)]
    exact shas_no p n w (by omega)

set_option maxHeartbeats 400000 in
theorem refHas_yes (p : Nat → Bool) (n : Nat) (w : World) (h1 : n < 1024) :
    Calls Tryd.prog 17 #[.agg (cellsOf p), .int .i64 n] w fun e w' => e = .returned (.bool (p n)) ∧ Below w.heap.size w w' := by
  have hg := cellsOf_get p (n / 64) (by omega)
  have hlt : n / 64 < 16 := by omega
  go_enter Tryd.func17, Tryd.ntmps17
  go_wp2
  go_ret
  exact ⟨congrArg (fun b => Ending.returned (.bool b)) (has_mod p n), (Below.refl _ _).alloc (Nat.le_refl _) _⟩
set_option maxHeartbeats 400000 in
theorem refHas_no (p : Nat → Bool) (n : Int) (w : World) (h1 : n < 0 ∨ 1024 ≤ n) :
    Calls Tryd.prog 17 #[.agg (cellsOf p), .int .i64 n] w fun e w' => e = .returned (.bool false) ∧ Below w.heap.size w w' := by
  rcases h1 with h1 | h1
  all_goals
    go_enter Tryd.func17, Tryd.ntmps17
    go_wp2
    go_ret
    exact ⟨rfl, (Below.refl _ _).alloc (Nat.le_refl _) _⟩
/-- The document's Has, at every number. -/
theorem refHas_any (p : Nat → Bool) (n : Int) (w : World) :
    Calls Tryd.prog 17 #[.agg (cellsOf p), .int .i64 n] w fun e w' => e = .returned (.bool (hasP p n)) ∧ Below w.heap.size w w' := by
  by_cases h : 0 ≤ n ∧ n < 1024
  · obtain ⟨k, rfl⟩ := Int.eq_ofNat_of_zero_le h.1
    rw [hasP_yes p k (by omega)]
    exact refHas_yes p k w (by omega)
  · rw [hasP_no p n (by omega)]
    exact refHas_no p n w (by omega)




/-- Nothing that was there in w has turned. -/
def Cls (B : Nat) (w : World) : World → Prop := fun w' => Below B w w'
theorem Cls.bl {B : Nat} {w w' : World} (h : Cls B w w') : Below B w w' := h
theorem Cls.blk {B : Nat} {w w' : World} (h : Cls B w w') {g : Nat} (hg : g < B) {o : Option Obj} (e : w.heap[g]? = o) : w'.heap[g]? = o := (h.bl.block g hg).trans e

theorem wp_region_cls {P : Program} {id : Nat} {Q : Exit → Act → World → Prop} {a : Act} {w : World} {l : List Oper} (hm : P.follows .mixedOrders = true) (hB : Region.lexB .any l.toArray = true)
    (h : wpQuiet P l.toArray (Cls w.heap.size w) (fun a' => ∀ w', Cls w.heap.size w w' → Q .normal a' w') l a) : (Code.region id l.toArray true).wp P Q a w :=
  wp_region_quiet (C := Cls w.heap.size w) hm hB ((Below.refl _ _).drew) (by simpa only using h)

theorem quiet_call {P : Program} {f : FuncId} {args : Array Value} {w w' : World} {B : Nat} {v : Value} (hw : Cls B w w') (hB : B ≤ w.heap.size)
    (h : Calls P f args w' fun e w'' => e = .returned v ∧ Below w'.heap.size w' w'') : Calls P f args w' fun e w'' => e = .returned v ∧ Cls B w w'' :=
  h.mono fun _ _ ⟨he, hb⟩ => ⟨he, hw.bl.trans (hb.mono (Nat.le_trans hB hw.bl.size))⟩

theorem quiet_load_set {C : World → Prop} {o : Oper} {a : Act} {K : Act → Prop} (x : Operand) (ho : o.op = .load 24 x) (g : Nat) (p : Nat → Bool) (hx : a.eval x = .pointer (some ⟨g, 0, none⟩))
    (hC : ∀ w', C w' → w'.heap[g]? = some (.cells (cellsOf p) 24 (0, 0))) (hk : K (a.put o.dst (.agg (cellsOf p)))) : o.quiet Tryd.prog a C K :=
  ⟨_, fun w' h => by
    unfold Oper.quietAt execOp
    simp only [ho, hx, Instr.loadAt, Instr.sureAddr, Sem.run_bind, Sem.run_pure, Result.andThen_ok, run_loadVar_row w' g 24 24 _ (0, 0) _ (hC w' h) underSet rfl (by rw [infoSet, cellsOf_size])]
    exact ⟨rfl, rfl⟩, hk⟩

/-- The same workers. -/
def eqP (p q : Nat → Bool) : Bool := (List.range 1024).all fun n => p n == q n
theorem eqP_true {p q : Nat → Bool} : eqP p q = true ↔ ∀ n, n < 1024 → p n = q n := by simp [eqP]
theorem infoWord : ∃ i, Tryd.prog.info? 22 = some i := by
  have h : (Tryd.prog.info? 22).isSome = true := by kernel_rfl
  exact Option.isSome_iff_exists.1 h
theorem cellsWord : Tryd.prog.cellsOf 22 = 1 := by kernel_rfl
def wordsEq (p q : Nat → Bool) (l : List Nat) : Bool := l.all fun i => word p i == word q i
theorem run_items (d : Nat) (w : World) (p q : Nat → Bool) : ∀ l : List Nat, (∀ i ∈ l, i < 16) → (Op.eqItems (d + 1) 22 1 (cellsOf p) (cellsOf q) l).run Tryd.prog w = .ok (wordsEq p q l) w
  | [], _ => by simp [Op.eqItems, wordsEq]
  | i :: l, h => by
    have hi : i < 16 := h i (by simp)
    have ih := run_items d w p q l (fun j hj => h j (by simp [hj]))
    have h1 : (part 22 (cellsOf p) (i * 1)).run Tryd.prog w = .ok (.int .u64 (word p i)) w := by
      simp [part, Sem.run_bind, cellsOf_get p i hi]
    have h2 : (part 22 (cellsOf q) (i * 1)).run Tryd.prog w = .ok (.int .u64 (word q i)) w := by
      simp [part, Sem.run_bind, cellsOf_get q i hi]
    have h3 : ((word p i : Int) == (word q i : Int)) = (word p i == word q i) := by
      rw [Bool.eq_iff_iff, beq_iff_eq, beq_iff_eq]; exact Int.ofNat_inj
    simp only [Op.eqItems, Sem.run_bind, h1, h2, Result.andThen_ok, run_equalIn_int w d 22 .u64 .u64 _ _ Tryd.underlying22, h3]
    cases hb : (word p i == word q i)
    · simp [wordsEq, hb]
    · simp only [Bool.not_true, Bool.false_eq_true, if_false, ih]
      simp [wordsEq, hb]
theorem wordsEq_eqP (p q : Nat → Bool) : wordsEq p q (List.range 16) = eqP p q := by
  rw [Bool.eq_iff_iff, eqP_true]
  simp only [wordsEq, List.all_eq_true, List.mem_range, beq_iff_eq]
  constructor
  · intro h n hn
    have := word_inj (h (n / 64) (by omega)) (n % 64) (by omega)
    rwa [show 64 * (n / 64) + n % 64 = n by omega] at this
  · intro h i hi
    exact word_congr fun k hk => h _ (by omega)
theorem run_equal_set (p q : Nat → Bool) (w : World) : (Op.equalIn 10000 24 (.agg (cellsOf p)) (.agg (cellsOf q))).run Tryd.prog w = .ok (eqP p q) w := by
  obtain ⟨i, hi⟩ := infoWord
  rw [run_equalIn_array w 9999 _ _ underSet hi, cellsWord, run_items 9998 w p q _ (fun j hj => by simpa using hj), wordsEq_eqP]
theorem noGuardSet : Tryd.prog.eqGuardType Tryd.prog.depth 24 = false := by kernel_rfl

theorem quiet_eql_set {C : World → Prop} {o : Oper} {a : Act} {K : Act → Prop} (x y : Operand) (ty : TypeId) (ho : o.op = .binOp .eql 24 x y ty) (p q : Nat → Bool) (hx : a.eval x = .agg (cellsOf p)) (hy : a.eval y = .agg (cellsOf q))
    (hk : K (a.put o.dst (.bool (eqP p q)))) : o.quiet Tryd.prog a C K :=
  ⟨_, fun w' _ => by
    unfold Oper.quietAt execOp
    simp only [ho, hx, hy, Sem.run_bind, run_eqGuard_agg w' .eql 24 x y _ _ noGuardSet, run_eql_struct, run_equal_set, Result.andThen_ok]
    exact ⟨rfl, rfl⟩, hk⟩
theorem quiet_neq_set {C : World → Prop} {o : Oper} {a : Act} {K : Act → Prop} (x y : Operand) (ty : TypeId) (ho : o.op = .binOp .neq 24 x y ty) (p q : Nat → Bool) (hx : a.eval x = .agg (cellsOf p)) (hy : a.eval y = .agg (cellsOf q))
    (hk : K (a.put o.dst (.bool (!eqP p q)))) : o.quiet Tryd.prog a C K :=
  ⟨_, fun w' _ => by
    unfold Oper.quietAt execOp
    simp only [ho, hx, hy, Sem.run_bind, run_eqGuard_agg w' .neq 24 x y _ _ noGuardSet, run_neq_struct, run_equal_set, Result.andThen_ok]
    exact ⟨rfl, rfl⟩, hk⟩

theorem eql_set {ops : Array Oper} {rest : List Oper} {o : Oper} {a : Act} {w : World} {Q : Exit → Act → World → Prop} (hgd : Region.wanted o (yielded ops a.tmps) = true) (x y : Operand) (ty : TypeId) (ho : o.op = .binOp .eql 24 x y ty)
    (p q : Nat → Bool) (hx : a.eval x = .agg (cellsOf p)) (hy : a.eval y = .agg (cellsOf q))
    (h : wpList Tryd.prog ops Q rest (a.put o.dst (.bool (eqP p q))) w) : wpList Tryd.prog ops Q (o :: rest) a w :=
  BigFrame.wpList_want hgd fun _ hK => by
    unfold Oper.wp execOp
    simp only [ho, hx, hy, Sem.run_bind, run_eqGuard_agg w .eql 24 x y _ _ noGuardSet, run_eql_struct, run_equal_set, Result.andThen_ok]
    exact hK _ _ h
theorem neq_set {ops : Array Oper} {rest : List Oper} {o : Oper} {a : Act} {w : World} {Q : Exit → Act → World → Prop} (hgd : Region.wanted o (yielded ops a.tmps) = true) (x y : Operand) (ty : TypeId) (ho : o.op = .binOp .neq 24 x y ty)
    (p q : Nat → Bool) (hx : a.eval x = .agg (cellsOf p)) (hy : a.eval y = .agg (cellsOf q))
    (h : wpList Tryd.prog ops Q rest (a.put o.dst (.bool (!eqP p q))) w) : wpList Tryd.prog ops Q (o :: rest) a w :=
  BigFrame.wpList_want hgd fun _ hK => by
    unfold Oper.wp execOp
    simp only [ho, hx, hy, Sem.run_bind, run_eqGuard_agg w .neq 24 x y _ _ noGuardSet, run_neq_struct, run_equal_set, Result.andThen_ok]
    exact hK _ _ h



/-- The slice v holds the n numbers that z gives. -/
def IntsAt (w : World) (v : Value) (z : Nat → Int) (n : Nat) : Prop :=
  ∃ a cap, v = .slice a n cap ∧ (n = 0 ∨ ∃ b off, a = some ⟨b, off, none⟩ ∧ b < w.heap.size ∧ ∀ i, i < n → w.cell? ⟨b, off + i, none⟩ = some (.int .i64 (z i)))
theorem IntsAt.below {w w' : World} {v : Value} {z : Nat → Int} {n : Nat} (h : IntsAt w v z n) (hb : Below w.heap.size w w') : IntsAt w' v z n := by
  obtain ⟨a, cap, rfl, h⟩ := h
  refine ⟨a, cap, rfl, ?_⟩
  rcases h with h | ⟨b, off, rfl, hlt, hc⟩
  · exact .inl h
  · exact .inr ⟨b, off, rfl, Nat.lt_of_lt_of_le hlt hb.size, fun i hi => (hb.cell (p := ⟨b, off + i, none⟩) hlt).trans (hc i hi)⟩

/-- The first k of the numbers, as a set. -/
def ofP (z : Nat → Int) : Nat → Nat → Bool
  | 0 => fun _ => false
  | k + 1 => putP (ofP z k) (z k)
theorem ofP_iff (z : Nat → Int) (k m : Nat) : ofP z k m = true ↔ ∃ i, i < k ∧ z i = (m : Int) := by
  induction k with
  | zero => simp [ofP]
  | succ k ih =>
    simp only [ofP, putP, Bool.or_eq_true, ih, decide_eq_true_eq]
    constructor
    · rintro (⟨i, hi, h⟩ | h)
      · exact ⟨i, by omega, h⟩
      · exact ⟨k, by omega, h.symm⟩
    · rintro ⟨i, hi, h⟩
      by_cases e : i = k
      · subst e; exact .inr h.symm
      · exact .inl ⟨i, by omega, h⟩

theorem add_put (p : Nat → Bool) (n : Nat) (h : p n = false) : IntKind.u64.wrap ((word p (n / 64) : Int) + IntKind.u64.wrap ((2 : Int) ^ (n % 64))) = ((word (fun m => p m || decide (m = n)) (n / 64) : Nat) : Int) := by
  have hlt := word_lt' (fun m => p m || decide (m = n)) (n / 64)
  rw [wrap_pow _ (by omega), IntKind.wrap_u64]
  rw [word_add_put p n h] at *
  generalize 2 ^ (n % 64) = q at *
  omega
theorem put_same (p : Nat → Bool) (n : Int) (h : hasP p n = true) : cellsOf (putP p n) = cellsOf p :=
  cellsOf_congr fun m _ => by
    unfold putP
    by_cases e : (m : Int) = n
    · subst e
      unfold hasP at h
      simp only [Bool.and_eq_true] at h
      have := h.2
      simp at this
      simp [this]
    · simp [e]
theorem put_out (p : Nat → Bool) (n : Int) (h : n < 0 ∨ 1024 ≤ n) : cellsOf (putP p n) = cellsOf p :=
  cellsOf_congr fun m hm => by unfold putP; rw [show decide ((m : Int) = n) = false by simp; omega]; simp

set_option maxHeartbeats 2000000 in
theorem make_some (z : Nat → Int) (n b off cap : Nat) (w : World) (hn : n ≤ 5000) (hlt : b < w.heap.size) (hc : ∀ i, i < n → w.cell? ⟨b, off + i, none⟩ = some (.int .i64 (z i))) :
    Calls Tryd.prog 15 #[.slice (some ⟨b, off, none⟩) n cap] w fun e w' => e = .returned (.agg (cellsOf (ofP z n))) ∧ Below w.heap.size w w' := by
  have hc' := Lib.hid hc; clear hc
  have hz := cellsOf_zero.symm
  have g0 := heap_alloc2_old w (.cells (cellsOf fun _ => false) 24) (.cells (cellsOf fun _ => false) 24)
  have g1 := heap_alloc2_new w (.cells (cellsOf fun _ => false) 24) (.cells (cellsOf fun _ => false) 24)
  generalize hB : w.heap.size = B at g0 g1 hlt ⊢
  have HB := Lib.hid hB; clear hB
  have G0 := Lib.hid g0; have G1 := Lib.hid g1; clear g0 g1
  go_enter Tryd.func15, Tryd.ntmps15
  go_wp2
  rw [HB.out]
  go_loopw [8] (fun i wr => ∃ k : Nat, k ≤ n ∧ i = .int .i64 k ∧ Below B w wr ∧ wr.heap[B]? = some (.cells (cellsOf fun _ => false) 24 (0, 0)) ∧ wr.heap[B + 1]? = some (.cells (cellsOf (ofP z k)) 24 (0, 0))) (fun i _ => n - (intOf i).toNat)
  case atStart =>
    exact ⟨0, by omega, rfl, ((Below.refl _ _).alloc (by rw [HB.out]; exact Nat.le_refl _) _).alloc (by simp [HB.out]) _, G0.out, G1.out⟩
  case round =>
    obtain ⟨k, hk, rfl, hb, g0, g1⟩ := hrel
    have K0 := Lib.hid g0
    by_cases hkn : k < n
    · have hcell : wr.cell? ⟨b, off + k, none⟩ = some (.int .i64 (z k)) := (hb.cell (p := ⟨b, off + k, none⟩) hlt).trans (hc'.out k hkn)
      have hsz : B + 1 < wr.heap.size := by
        by_cases h : B + 1 < wr.heap.size
        · exact h
        · rw [Array.getElem?_eq_none (by omega)] at g1; cases g1
      have hout : z k < 0 ∨ 1024 ≤ z k → Hid (cellsOf (ofP z (k + 1)) = cellsOf (ofP z k)) := fun h => put_out _ _ h
      have hin : ∀ m : Nat, z k = (m : Int) → m < 1024 → ofP z k m = true → Hid (cellsOf (ofP z (k + 1)) = cellsOf (ofP z k)) := fun m e hm h => put_same _ _ (by rw [e, hasP_yes _ _ hm]; exact h)
      have hput : ∀ m : Nat, z k = (m : Int) → ofP z (k + 1) = fun j => ofP z k j || decide (j = m) := fun m e => by
        funext j; show (ofP z k j || decide ((j : Int) = z k)) = _; rw [e]; congr 1; rw [decide_eq_decide]; omega
      by_cases hr : 0 ≤ z k ∧ z k < 1024
      · obtain ⟨m, hm⟩ := Int.eq_ofNat_of_zero_le hr.1
        have hm' : m < 1024 := by omega
        have hle : decide ((m : Int) ≤ 1023) = true := by simp; omega
        by_cases hp : ofP z k m = true
        · have HN := hin m hm hm' hp
          have K1 := Lib.hid g1
          have hq := refHas_yes (ofP z k) m
          rw [hp] at hq
          have HQ := Lib.hid hq
          rw [hm] at hcell; clear hr hm hp hout hin hput hq g0 g1
          go_wp2_with (first | (refine ld_set rfl _ rfl _ rfl _ K1.out ?_) | (go_at_call 17; refine (HQ.out _ hm').mono ?_; rintro e w2 ⟨rfl, h2⟩))
          go_roundw
          case rel =>
            refine ⟨k + 1, by omega, by go_num, hb.trans (h2.mono (by omega)), (h2.block _ (by omega)).trans K0.out, ?_⟩
            rw [HN.out]; exact (h2.block _ hsz).trans K1.out
          case measure => simp [intOf]; omega
        · have hp' : ofP z k m = false := by simpa using hp
          have hput := hput m hm
          have K1 := Lib.hid g1
          have hq := refHas_yes (ofP z k) m
          rw [hp'] at hq
          have HQ := Lib.hid hq
          have hadd := add_put (ofP z k) m hp'
          rw [← hput] at hadd
          have hlt16 : m / 64 < 16 := by omega
          rw [hm] at hcell
          have HP := Lib.hid hput
          have HO := Lib.hid hp'
          clear hr hm hp hout hin hput hq g0 g1 hp'
          go_wp2_with (first | (refine ld_set rfl _ rfl _ rfl _ K1.out ?_) | (go_at_call 17; refine (HQ.out _ hm').mono ?_; rintro e w2 ⟨rfl, h2⟩))
          have hb2 : w2.heap[B + 1]? = some (.cells (cellsOf (ofP z k)) 24 (0, 0)) := (h2.block _ hsz).trans K1.out
          have hc2 := blk_cell hb2 (m / 64) hlt16
          have hf2 := frozen_of_row w2 (B + 1) (m / 64) _ _ hb2
          have HB2 := Lib.hid (blk_set hb2 (ofP z (k + 1)) (m / 64) _ hlt16 rfl (fun j _ hj => by rw [HP.out]; exact word_put_other _ _ _ hj))
          have Kb := (h2.block B (by omega)).trans K0.out
          have KB := Lib.hid Kb
          clear hb2 Kb
          go_region
          go_wp2
          go_roundw
          case rel =>
            refine ⟨k + 1, by omega, by go_num, ((hb.trans (h2.mono (by omega))).setCell (by simp) _).drew, ?_, HB2.out⟩
            exact (heap_setCell_other _ _ _ _ (by simp)).trans KB.out
          case measure => simp [intOf]; omega
      · have HN := hout (by omega)
        have K1 := Lib.hid g1
        clear hout hin hput g0 g1
        by_cases h0 : 0 ≤ z k
        · have h1 : decide (z k ≤ 1023) = false := by simp; omega
          clear hr
          go_wp2_with (first | (refine ld_set rfl _ rfl _ rfl _ K1.out ?_))
          go_roundw
          case rel =>
            refine ⟨k + 1, by omega, by go_num, hb, K0.out, ?_⟩
            rw [HN.out]; exact K1.out
          case measure => simp [intOf]; omega
        · have h1 : decide (0 ≤ z k) = false := by simp; omega
          clear hr
          go_wp2_with (first | (refine ld_set rfl _ rfl _ rfl _ K1.out ?_))
          go_roundw
          case rel =>
            refine ⟨k + 1, by omega, by go_num, hb, K0.out, ?_⟩
            rw [HN.out]; exact K1.out
          case measure => simp [intOf]; omega
    · obtain rfl : k = n := by omega
      have K1 := Lib.hid g1; clear g0 g1
      go_wp2_with (first | (refine ld_set rfl _ rfl _ rfl _ K1.out ?_) | (refine st_set rfl _ _ rfl _ _ rfl rfl _ K0.out (cellsOf_size _) ?_))
      refine res_set rfl B _ rfl (setRow_heap _ _ _ _ _ _ K0.out) rfl ⟨rfl, ?_⟩
      exact below_setRow hb (Nat.le_refl _) _

set_option maxHeartbeats 400000 in
theorem make_none (a : Option Addr) (cap : Nat) (w : World) :
    Calls Tryd.prog 15 #[.slice a 0 cap] w fun e w' => e = .returned (.agg (cellsOf fun _ => false)) ∧ Below w.heap.size w w' := by
  have hz := cellsOf_zero.symm
  have g0 := heap_alloc2_old w (.cells (cellsOf fun _ => false) 24) (.cells (cellsOf fun _ => false) 24)
  have g1 := heap_alloc2_new w (.cells (cellsOf fun _ => false) 24) (.cells (cellsOf fun _ => false) 24)
  have G0 := Lib.hid g0; have G1 := Lib.hid g1; clear g0 g1
  go_enter Tryd.func15, Tryd.ntmps15
  go_wp2
  go_loopw [8] (fun i wr => i = .int .i64 0 ∧ wr = (w.alloc (.cells (cellsOf fun _ => false) 24)).alloc (.cells (cellsOf fun _ => false) 24)) (fun _ _ => 0)
  case atStart => exact ⟨rfl, rfl⟩
  case round =>
    obtain ⟨rfl, rfl⟩ := hrel
    go_wp2_with (first | (refine ld_set rfl _ rfl _ rfl _ G1.out ?_) | (refine st_set rfl _ _ rfl _ _ rfl rfl _ G0.out (cellsOf_size _) ?_))
    refine res_set rfl _ _ rfl (setRow_heap _ _ _ _ _ _ G0.out) rfl ⟨rfl, ?_⟩
    exact below_setRow (((Below.refl _ _).alloc (Nat.le_refl _) _).alloc (by simp) _) (Nat.le_refl _) _
/-- The document's Make, at every slice of at most 5000 numbers. -/
theorem make_any (z : Nat → Int) (n : Nat) (v : Value) (w : World) (hn : n ≤ 5000) (h : IntsAt w v z n) :
    Calls Tryd.prog 15 #[v] w fun e w' => e = .returned (.agg (cellsOf (ofP z n))) ∧ Below w.heap.size w w' := by
  obtain ⟨a, cap, rfl, h⟩ := h
  rcases h with rfl | ⟨b, off, rfl, hlt, hc⟩
  · exact make_none a cap w
  · exact make_some z n b off cap w hn hlt hc


/-- The workers from f to t, both with it. -/
def rangeP (f t : Int) : Nat → Bool := fun m => decide (f ≤ (m : Int) ∧ (m : Int) ≤ t)
theorem range_nat (L H k : Nat) (hL : L ≤ H) (hH : H < 64) (p : Nat → Bool) (hp : ∀ j, j < 64 → p (64 * k + j) = decide (L ≤ j ∧ j ≤ H)) : 18446744073709551615 / 2 ^ (63 - (H - L)) * 2 ^ L % 2 ^ 64 = word p k :=
  word_eq (Nat.mod_lt _ (by decide)) fun j hj => by
    rw [Nat.testBit_mod_two_pow, Nat.testBit_mul_two_pow, Nat.testBit_div_two_pow, show 18446744073709551615 = 2 ^ 64 - 1 by decide, Nat.testBit_two_pow_sub_one, hp j hj]
    rw [Bool.eq_iff_iff]; simp; omega
theorem range_word (f t k : Nat) (lo hi : Int) (hlo : (if (f : Int) - (k : Int) * 64 < 0 then 0 else (f : Int) - (k : Int) * 64) = lo) (hhi : (if 63 < (t : Int) - (k : Int) * 64 then 63 else (t : Int) - (k : Int) * 64) = hi) (hle : lo ≤ hi) :
    IntKind.u64.wrap (18446744073709551615 / 2 ^ (63 - (hi - lo)).toNat * 2 ^ lo.toNat) = ((word (rangeP f t) k : Nat) : Int) := by
  have b1 : 0 ≤ lo := by split at hlo <;> omega
  have b2 : hi ≤ 63 := by split at hhi <;> omega
  obtain ⟨L, rfl⟩ := Int.eq_ofNat_of_zero_le b1
  obtain ⟨H, rfl⟩ := Int.eq_ofNat_of_zero_le (show 0 ≤ hi by omega)
  rw [← range_nat L H k (by omega) (by omega) (rangeP f t) (fun j hj => by unfold rangeP; rw [decide_eq_decide]; split at hlo <;> split at hhi <;> omega)]
  rw [show (63 - ((H : Int) - (L : Int))).toNat = 63 - (H - L) by omega, Int.toNat_natCast, IntKind.wrap_u64]
  simp
theorem range_none (f t k : Nat) (lo hi : Int) (hlo : (if (f : Int) - (k : Int) * 64 < 0 then 0 else (f : Int) - (k : Int) * 64) = lo) (hhi : (if 63 < (t : Int) - (k : Int) * 64 then 63 else (t : Int) - (k : Int) * 64) = hi) (hle : ¬ lo ≤ hi) :
    word (rangeP f t) k = 0 :=
  word_eq_zero.2 fun j hj => by unfold rangeP; rw [decide_eq_false_iff_not]; split at hlo <;> split at hhi <;> omega

end Go.Proofs.YtilaalleiiakoaaDoor
