/- Sets made of slices of numbers, and of rows of neighbours: cpuset.Of, the document's Make, cpuset.Range. -/
import Derived.Test.YtchhenpijbecaaaDoorSq
namespace Go.Proofs.YtchhenpijbecaaaDoor
open Go.RowKit

/-- The slice v holds the n numbers that z gives. -/
def IntsAt (w : World) (v : Value) (z : Nat → Int) (n : Nat) : Prop :=
  ∃ a cap, v = .slice a n cap ∧ (n = 0 ∨ ∃ b off, a = some ⟨b, off, none⟩ ∧ b < w.heap.size ∧ ∀ i, i < n → w.cell? ⟨b, off + i, none⟩ = some (.int .i64 (z i)))
theorem IntsAt.below {w w' : World} {v : Value} {z : Nat → Int} {n : Nat} (h : IntsAt w v z n) (hb : Below w.heap.size w w') : IntsAt w' v z n := by
  obtain ⟨a, cap, rfl, h⟩ := h
  refine ⟨a, cap, rfl, ?_⟩
  rcases h with h | ⟨b, off, rfl, hlt, hc⟩
  · exact .inl h
  · exact .inr ⟨b, off, rfl, Nat.lt_of_lt_of_le hlt hb.size, fun i hi => (hb.cell (p := ⟨b, off + i, none⟩) hlt).trans (hc i hi)⟩

/-- The first k of the numbers, as a set. -/
def ofP (z : Nat → Int) : Nat → Nat → Bool
  | 0 => fun _ => false
  | k + 1 => putP (ofP z k) (z k)
theorem ofP_iff (z : Nat → Int) (k m : Nat) : ofP z k m = true ↔ ∃ i, i < k ∧ z i = (m : Int) := by
  induction k with
  | zero => simp [ofP]
  | succ k ih =>
    simp only [ofP, putP, Bool.or_eq_true, ih, decide_eq_true_eq]
    constructor
    · rintro (⟨i, hi, h⟩ | h)
      · exact ⟨i, by omega, h⟩
      · exact ⟨k, by omega, h.symm⟩
    · rintro ⟨i, hi, h⟩
      by_cases e : i = k
      · subst e; exact .inr h.symm
      · exact .inl ⟨i, by omega, h⟩

theorem add_put (p : Nat → Bool) (n : Nat) (h : p n = false) : IntKind.u64.wrap ((word p (n / 64) : Int) + IntKind.u64.wrap ((2 : Int) ^ (n % 64))) = ((word (fun m => p m || decide (m = n)) (n / 64) : Nat) : Int) := by
  have hlt := word_lt' (fun m => p m || decide (m = n)) (n / 64)
  rw [wrap_pow _ (by omega), IntKind.wrap_u64]
  rw [word_add_put p n h] at *
  generalize 2 ^ (n % 64) = q at *
  omega
theorem put_same (p : Nat → Bool) (n : Int) (h : hasP p n = true) : cellsOf (putP p n) = cellsOf p :=
  cellsOf_congr fun m _ => by
    unfold putP
    by_cases e : (m : Int) = n
    · subst e
      unfold hasP at h
      simp only [Bool.and_eq_true] at h
      have := h.2
      simp at this
      simp [this]
    · simp [e]
theorem put_out (p : Nat → Bool) (n : Int) (h : n < 0 ∨ 1024 ≤ n) : cellsOf (putP p n) = cellsOf p :=
  cellsOf_congr fun m hm => by unfold putP; rw [show decide ((m : Int) = n) = false by simp; omega]; simp

set_option maxHeartbeats 2000000 in
theorem make_some (z : Nat → Int) (n b off cap : Nat) (w : World) (hn : n ≤ 5000) (hlt : b < w.heap.size) (hc : ∀ i, i < n → w.cell? ⟨b, off + i, none⟩ = some (.int .i64 (z i))) :
    Calls Tryd.prog 28 #[.slice (some ⟨b, off, none⟩) n cap] w fun e w' => e = .returned (.agg (cellsOf (ofP z n))) ∧ Below w.heap.size w w' := by
  have hc' := Lib.hid hc; clear hc
  have hz := cellsOf_zero.symm
  have g0 := heap_alloc2_old w (.cells (cellsOf fun _ => false) 33) (.cells (cellsOf fun _ => false) 33)
  have g1 := heap_alloc2_new w (.cells (cellsOf fun _ => false) 33) (.cells (cellsOf fun _ => false) 33)
  generalize hB : w.heap.size = B at g0 g1 hlt ⊢
  have HB := Lib.hid hB; clear hB
  have G0 := Lib.hid g0; have G1 := Lib.hid g1; clear g0 g1
  go_enter Tryd.func28, Tryd.ntmps28
  go_wp2
  rw [HB.out]
  go_loopw [8] (fun i wr => ∃ k : Nat, k ≤ n ∧ i = .int .i64 k ∧ Below B w wr ∧ wr.heap[B]? = some (.cells (cellsOf fun _ => false) 33 (0, 0)) ∧ wr.heap[B + 1]? = some (.cells (cellsOf (ofP z k)) 33 (0, 0))) (fun i _ => n - (intOf i).toNat)
  case atStart =>
    exact ⟨0, by omega, rfl, ((Below.refl _ _).alloc (by rw [HB.out]; exact Nat.le_refl _) _).alloc (by simp [HB.out]) _, G0.out, G1.out⟩
  case round =>
    obtain ⟨k, hk, rfl, hb, g0, g1⟩ := hrel
    have K0 := Lib.hid g0
    by_cases hkn : k < n
    · have hcell : wr.cell? ⟨b, off + k, none⟩ = some (.int .i64 (z k)) := (hb.cell (p := ⟨b, off + k, none⟩) hlt).trans (hc'.out k hkn)
      have hsz : B + 1 < wr.heap.size := by
        by_cases h : B + 1 < wr.heap.size
        · exact h
        · rw [Array.getElem?_eq_none (by omega)] at g1; cases g1
      have hout : z k < 0 ∨ 1024 ≤ z k → Hid (cellsOf (ofP z (k + 1)) = cellsOf (ofP z k)) := fun h => put_out _ _ h
      have hin : ∀ m : Nat, z k = (m : Int) → m < 1024 → ofP z k m = true → Hid (cellsOf (ofP z (k + 1)) = cellsOf (ofP z k)) := fun m e hm h => put_same _ _ (by rw [e, hasP_yes _ _ hm]; exact h)
      have hput : ∀ m : Nat, z k = (m : Int) → ofP z (k + 1) = fun j => ofP z k j || decide (j = m) := fun m e => by
        funext j; show (ofP z k j || decide ((j : Int) = z k)) = _; rw [e]; congr 1; rw [decide_eq_decide]; omega
      by_cases hr : 0 ≤ z k ∧ z k < 1024
      · obtain ⟨m, hm⟩ := Int.eq_ofNat_of_zero_le hr.1
        have hm' : m < 1024 := by omega
        have hle : decide ((m : Int) ≤ 1023) = true := by simp; omega
        by_cases hp : ofP z k m = true
        · have HN := hin m hm hm' hp
          have K1 := Lib.hid g1
          have hq := refHas_yes (ofP z k) m
          rw [hp] at hq
          have HQ := Lib.hid hq
          rw [hm] at hcell; clear hr hm hp hout hin hput hq g0 g1
          go_wp2_with (first | (refine ld_set rfl _ rfl _ rfl _ K1.out ?_) | (go_at_call 34; refine (HQ.out _ hm').mono ?_; rintro e w2 ⟨rfl, h2⟩))
          go_roundw
          case rel =>
            refine ⟨k + 1, by omega, by go_num, hb.trans (h2.mono (by omega)), (h2.block _ (by omega)).trans K0.out, ?_⟩
            rw [HN.out]; exact (h2.block _ hsz).trans K1.out
          case measure => simp [intOf]; omega
        · have hp' : ofP z k m = false := by simpa using hp
          have hput := hput m hm
          have K1 := Lib.hid g1
          have hq := refHas_yes (ofP z k) m
          rw [hp'] at hq
          have HQ := Lib.hid hq
          have hadd := add_put (ofP z k) m hp'
          rw [← hput] at hadd
          have hlt16 : m / 64 < 16 := by omega
          rw [hm] at hcell
          have HP := Lib.hid hput
          have HO := Lib.hid hp'
          clear hr hm hp hout hin hput hq g0 g1 hp'
          go_wp2_with (first | (refine ld_set rfl _ rfl _ rfl _ K1.out ?_) | (go_at_call 34; refine (HQ.out _ hm').mono ?_; rintro e w2 ⟨rfl, h2⟩))
          have hb2 : w2.heap[B + 1]? = some (.cells (cellsOf (ofP z k)) 33 (0, 0)) := (h2.block _ hsz).trans K1.out
          have hc2 := blk_cell hb2 (m / 64) hlt16
          have hf2 := frozen_of_row w2 (B + 1) (m / 64) _ _ hb2
          have HB2 := Lib.hid (blk_set hb2 (ofP z (k + 1)) (m / 64) _ hlt16 rfl (fun j _ hj => by rw [HP.out]; exact word_put_other _ _ _ hj))
          have Kb := (h2.block B (by omega)).trans K0.out
          have KB := Lib.hid Kb
          clear hb2 Kb
          go_region
          go_wp2
          go_roundw
          case rel =>
            refine ⟨k + 1, by omega, by go_num, ((hb.trans (h2.mono (by omega))).setCell (by simp) _).drew, ?_, HB2.out⟩
            exact (heap_setCell_other _ _ _ _ (by simp)).trans KB.out
          case measure => simp [intOf]; omega
      · have HN := hout (by omega)
        have K1 := Lib.hid g1
        clear hout hin hput g0 g1
        by_cases h0 : 0 ≤ z k
        · have h1 : decide (z k ≤ 1023) = false := by simp; omega
          clear hr
          go_wp2_with (first | (refine ld_set rfl _ rfl _ rfl _ K1.out ?_))
          go_roundw
          case rel =>
            refine ⟨k + 1, by omega, by go_num, hb, K0.out, ?_⟩
            rw [HN.out]; exact K1.out
          case measure => simp [intOf]; omega
        · have h1 : decide (0 ≤ z k) = false := by simp; omega
          clear hr
          go_wp2_with (first | (refine ld_set rfl _ rfl _ rfl _ K1.out ?_))
          go_roundw
          case rel =>
            refine ⟨k + 1, by omega, by go_num, hb, K0.out, ?_⟩
            rw [HN.out]; exact K1.out
          case measure => simp [intOf]; omega
    · obtain rfl : k = n := by omega
      have K1 := Lib.hid g1; clear g0 g1
      go_wp2_with (first | (refine ld_set rfl _ rfl _ rfl _ K1.out ?_) | (refine st_set rfl _ _ rfl _ _ rfl rfl _ K0.out (cellsOf_size _) ?_))
      refine res_set rfl B _ rfl (setRow_heap _ _ _ _ _ _ K0.out) rfl ⟨rfl, ?_⟩
      exact below_setRow hb (Nat.le_refl _) _

set_option maxHeartbeats 400000 in
theorem make_none (a : Option Addr) (cap : Nat) (w : World) :
    Calls Tryd.prog 28 #[.slice a 0 cap] w fun e w' => e = .returned (.agg (cellsOf fun _ => false)) ∧ Below w.heap.size w w' := by
  have hz := cellsOf_zero.symm
  have g0 := heap_alloc2_old w (.cells (cellsOf fun _ => false) 33) (.cells (cellsOf fun _ => false) 33)
  have g1 := heap_alloc2_new w (.cells (cellsOf fun _ => false) 33) (.cells (cellsOf fun _ => false) 33)
  have G0 := Lib.hid g0; have G1 := Lib.hid g1; clear g0 g1
  go_enter Tryd.func28, Tryd.ntmps28
  go_wp2
  go_loopw [8] (fun i wr => i = .int .i64 0 ∧ wr = (w.alloc (.cells (cellsOf fun _ => false) 33)).alloc (.cells (cellsOf fun _ => false) 33)) (fun _ _ => 0)
  case atStart => exact ⟨rfl, rfl⟩
  case round =>
    obtain ⟨rfl, rfl⟩ := hrel
    go_wp2_with (first | (refine ld_set rfl _ rfl _ rfl _ G1.out ?_) | (refine st_set rfl _ _ rfl _ _ rfl rfl _ G0.out (cellsOf_size _) ?_))
    refine res_set rfl _ _ rfl (setRow_heap _ _ _ _ _ _ G0.out) rfl ⟨rfl, ?_⟩
    exact below_setRow (((Below.refl _ _).alloc (Nat.le_refl _) _).alloc (by simp) _) (Nat.le_refl _) _
/-- The document's Make, at every slice of at most 5000 numbers. -/
theorem make_any (z : Nat → Int) (n : Nat) (v : Value) (w : World) (hn : n ≤ 5000) (h : IntsAt w v z n) :
    Calls Tryd.prog 28 #[v] w fun e w' => e = .returned (.agg (cellsOf (ofP z n))) ∧ Below w.heap.size w w' := by
  obtain ⟨a, cap, rfl, h⟩ := h
  rcases h with rfl | ⟨b, off, rfl, hlt, hc⟩
  · exact make_none a cap w
  · exact make_some z n b off cap w hn hlt hc


/-- The workers from f to t, both with it. -/
def rangeP (f t : Int) : Nat → Bool := fun m => decide (f ≤ (m : Int) ∧ (m : Int) ≤ t)
theorem range_nat (L H k : Nat) (hL : L ≤ H) (hH : H < 64) (p : Nat → Bool) (hp : ∀ j, j < 64 → p (64 * k + j) = decide (L ≤ j ∧ j ≤ H)) : 18446744073709551615 / 2 ^ (63 - (H - L)) * 2 ^ L % 2 ^ 64 = word p k :=
  word_eq (Nat.mod_lt _ (by decide)) fun j hj => by
    rw [Nat.testBit_mod_two_pow, Nat.testBit_mul_two_pow, Nat.testBit_div_two_pow, show 18446744073709551615 = 2 ^ 64 - 1 by decide, Nat.testBit_two_pow_sub_one, hp j hj]
    rw [Bool.eq_iff_iff]; simp; omega
theorem range_word (f t k : Nat) (lo hi : Int) (hlo : (if (f : Int) - (k : Int) * 64 < 0 then 0 else (f : Int) - (k : Int) * 64) = lo) (hhi : (if 63 < (t : Int) - (k : Int) * 64 then 63 else (t : Int) - (k : Int) * 64) = hi) (hle : lo ≤ hi) :
    IntKind.u64.wrap (18446744073709551615 / 2 ^ (63 - (hi - lo)).toNat * 2 ^ lo.toNat) = ((word (rangeP f t) k : Nat) : Int) := by
  have b1 : 0 ≤ lo := by split at hlo <;> omega
  have b2 : hi ≤ 63 := by split at hhi <;> omega
  obtain ⟨L, rfl⟩ := Int.eq_ofNat_of_zero_le b1
  obtain ⟨H, rfl⟩ := Int.eq_ofNat_of_zero_le (show 0 ≤ hi by omega)
  rw [← range_nat L H k (by omega) (by omega) (rangeP f t) (fun j hj => by unfold rangeP; rw [decide_eq_decide]; split at hlo <;> split at hhi <;> omega)]
  rw [show (63 - ((H : Int) - (L : Int))).toNat = 63 - (H - L) by omega, Int.toNat_natCast, IntKind.wrap_u64]
  simp
theorem range_none (f t k : Nat) (lo hi : Int) (hlo : (if (f : Int) - (k : Int) * 64 < 0 then 0 else (f : Int) - (k : Int) * 64) = lo) (hhi : (if 63 < (t : Int) - (k : Int) * 64 then 63 else (t : Int) - (k : Int) * 64) = hi) (hle : ¬ lo ≤ hi) :
    word (rangeP f t) k = 0 :=
  word_eq_zero.2 fun j hj => by unfold rangeP; rw [decide_eq_false_iff_not]; split at hlo <;> split at hhi <;> omega

set_option maxHeartbeats 1000000 in
theorem range_core (f t : Nat) (from_ to_ : Int) (w : World) (hf : (if from_ < 0 then 0 else from_) = (f : Int)) (ht : (if 1023 < to_ then 1023 else to_) = (t : Int)) (hft : f ≤ t) (ht2 : t ≤ 1023) :
    Calls Tryd.prog 33 #[.int .i64 from_, .int .i64 to_] w fun e w' => e = .returned (.agg (cellsOf (rangeP f t))) ∧ Below w.heap.size w w' := by
  have hz := cellsOf_zero.symm
  have g0 := heap_alloc2_old w (.cells (cellsOf fun _ => false) 33) (.cells (cellsOf fun _ => false) 33)
  have g1 := heap_alloc2_new w (.cells (cellsOf fun _ => false) 33) (.cells (cellsOf fun _ => false) 33)
  generalize hB : w.heap.size = B at g0 g1 ⊢
  have HB := Lib.hid hB; clear hB
  have G0 := Lib.hid g0; have G1 := Lib.hid g1; clear g0 g1
  go_enter Tryd.func33, Tryd.ntmps33
  go_wp2
  rw [HB.out]
  go_loopw [17] (fun i wr => ∃ k : Nat, k ≤ 16 ∧ i = .int .i64 k ∧ Below B w wr ∧ wr.heap[B]? = some (.cells (cellsOf fun _ => false) 33 (0, 0)) ∧ wr.heap[B + 1]? = some (.cells (cellsOf (mixP (rangeP f t) (fun _ => false) k)) 33 (0, 0))) (fun i _ => 16 - (intOf i).toNat)
  case atStart =>
    exact ⟨0, by omega, rfl, ((Below.refl _ _).alloc (by rw [HB.out]; exact Nat.le_refl _) _).alloc (by simp [HB.out]) _, G0.out, by rw [mix_zero]; exact G1.out⟩
  case round =>
    obtain ⟨k, hk, rfl, hb, g0, g1⟩ := hrel
    have K0 := Lib.hid g0
    have K1 := Lib.hid g1
    by_cases hkn : k < 16
    · obtain ⟨lo, hlo⟩ : ∃ lo : Int, (if (f : Int) - (k : Int) * 64 < 0 then 0 else (f : Int) - (k : Int) * 64) = lo := ⟨_, rfl⟩
      obtain ⟨hi, hhi⟩ : ∃ hi : Int, (if 63 < (t : Int) - (k : Int) * 64 then 63 else (t : Int) - (k : Int) * 64) = hi := ⟨_, rfl⟩
      clear hf ht g0 g1
      by_cases hle : lo ≤ hi
      · have b0 : 0 ≤ 63 - (hi - lo) := by split at hhi <;> split at hlo <;> omega
        have b1 : 0 ≤ lo := by split at hlo <;> omega
        have hkey := range_word f t k lo hi hlo hhi hle
        have hc1 := blk_cell K1.out k hkn
        have hf1 := frozen_of_row wr (B + 1) k _ _ K1.out
        have HB2 := Lib.hid (blk_set K1.out (mixP (rangeP f t) (fun _ => false) (k + 1)) k _ hkn (mix_next (rangeP f t) (fun _ => false) k).symm (fun j _ hj => mix_other _ _ k j hj))
        go_wp2_with fail
        go_roundw
        case rel =>
          refine ⟨k + 1, by omega, by go_num, hb.setCell (by simp) _, ?_, HB2.out⟩
          exact (heap_setCell_other _ _ _ _ (by simp)).trans K0.out
        case measure => simp [intOf]; omega
      · have hw := range_none f t k lo hi hlo hhi hle
        have HN : Hid (cellsOf (mixP (rangeP f t) (fun _ => false) (k + 1)) = cellsOf (mixP (rangeP f t) (fun _ => false) k)) := by
          refine cells_ext (cellsOf_size _) fun i hi => ?_
          rw [cellsOf_get _ i hi]
          by_cases e : i = k
          · subst e; rw [mix_next, mix_here, hw, word_zero]
          · rw [mix_other _ _ k i e]
        clear hw
        go_wp2_with fail
        go_roundw
        case rel =>
          refine ⟨k + 1, by omega, by go_num, hb, K0.out, ?_⟩
          rw [HN.out]; exact K1.out
        case measure => simp [intOf]; omega
    · obtain rfl : k = 16 := by omega
      rw [mix_all] at g1
      have K1 := Lib.hid g1; clear g0 g1
      go_wp2_with (first | (refine ld_set rfl _ rfl _ rfl _ K1.out ?_) | (refine st_set rfl _ _ rfl _ _ rfl rfl _ K0.out (cellsOf_size _) ?_))
      refine res_set rfl B _ rfl (setRow_heap _ _ _ _ _ _ K0.out) rfl ⟨rfl, ?_⟩
      exact below_setRow hb (Nat.le_refl _) _
set_option maxHeartbeats 1000000 in
theorem range_empty (from_ to_ f t : Int) (w : World) (hf : (if from_ < 0 then 0 else from_) = f) (ht : (if 1023 < to_ then 1023 else to_) = t) (hft : t < f) :
    Calls Tryd.prog 33 #[.int .i64 from_, .int .i64 to_] w fun e w' => e = .returned (.agg (cellsOf fun _ => false)) ∧ Below w.heap.size w w' := by
  have hz := cellsOf_zero.symm
  have g0 := heap_alloc2_old w (.cells (cellsOf fun _ => false) 33) (.cells (cellsOf fun _ => false) 33)
  have g1 := heap_alloc2_new w (.cells (cellsOf fun _ => false) 33) (.cells (cellsOf fun _ => false) 33)
  have G0 := Lib.hid g0; have G1 := Lib.hid g1; clear g0 g1
  go_enter Tryd.func33, Tryd.ntmps33
  go_wp2_with (first | (refine ld_set rfl _ rfl _ rfl _ G1.out ?_) | (refine st_set rfl _ _ rfl _ _ rfl rfl _ G0.out (cellsOf_size _) ?_))
  refine res_set rfl _ _ rfl (setRow_heap _ _ _ _ _ _ G0.out) rfl ⟨rfl, ?_⟩
  exact below_setRow (((Below.refl _ _).alloc (Nat.le_refl _) _).alloc (by simp) _) (Nat.le_refl _) _
/-- cpuset.Range, at every two numbers. -/
theorem range_any (f t : Int) (w : World) :
    Calls Tryd.prog 33 #[.int .i64 f, .int .i64 t] w fun e w' => e = .returned (.agg (cellsOf (rangeP f t))) ∧ Below w.heap.size w w' := by
  obtain ⟨f', hf⟩ : ∃ f' : Int, (if f < 0 then 0 else f) = f' := ⟨_, rfl⟩
  obtain ⟨t', ht⟩ : ∃ t' : Int, (if 1023 < t then 1023 else t) = t' := ⟨_, rfl⟩
  by_cases h : t' < f'
  · rw [show cellsOf (rangeP f t) = cellsOf fun _ => false from cellsOf_congr fun m hm => by unfold rangeP; rw [decide_eq_false_iff_not]; split at hf <;> split at ht <;> omega]
    exact range_empty f t f' t' w hf ht h
  · have b1 : 0 ≤ f' := by split at hf <;> omega
    have b2 : t' ≤ 1023 := by split at ht <;> omega
    obtain ⟨a, rfl⟩ := Int.eq_ofNat_of_zero_le b1
    obtain ⟨b, rfl⟩ := Int.eq_ofNat_of_zero_le (show 0 ≤ t' by omega)
    rw [show cellsOf (rangeP f t) = cellsOf (rangeP a b) from cellsOf_congr fun m hm => by unfold rangeP; rw [decide_eq_decide]; split at hf <;> split at ht <;> omega]
    exact range_core a b f t w hf ht (by omega) (by omega)
end Go.Proofs.YtchhenpijbecaaaDoor
