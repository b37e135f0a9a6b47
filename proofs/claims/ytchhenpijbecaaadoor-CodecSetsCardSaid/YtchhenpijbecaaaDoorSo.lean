/- The operations on sets of workers: the contracts of cpuset's small functions and of the document's Has. -/
import Derived.Test.YtchhenpijbecaaaDoorProg
import Derived.Test.YtchhenpijbecaaaDoorSm
import Derived.WalkSpells
import Derived.WalkLawsBesides
import Derived.BigRegion
import Derived.BigQuiet
import Derived.Deep.QuietTactic
import Derived.Lib.Hide
namespace Go.Proofs.YtchhenpijbecaaaDoor
open Go.RowKit

theorem infoSet : (Tryd.prog.info? 33).map (·.size) = some 16 := by kernel_rfl
theorem underSet : Tryd.prog.underlying 33 = some (.array 16 31) := Tryd.underlying33
theorem ld_set {ops : Array Oper} {rest : List Oper} {o : Oper} {a : Act} {w : World} {Q : Exit → Act → World → Prop} (hgd : Region.wanted o (yielded ops a.tmps) = true) (x : Operand) (ho : o.op = .load 33 x)
    (g : Nat) (hx : a.eval x = .pointer (some ⟨g, 0, none⟩)) (p : Nat → Bool) (hg : w.heap[g]? = some (.cells (cellsOf p) 33 (0, 0)))
    (h : wpList Tryd.prog ops Q rest (a.put o.dst (.agg (cellsOf p))) w) : wpList Tryd.prog ops Q (o :: rest) a w :=
  BigFrame.wpList_want hgd fun _ hK => wp_load_row 33 x ho g hx 33 _ (0, 0) _ hg underSet rfl (by rw [infoSet, cellsOf_size]) (hK _ _ h)
theorem st_set {ops : Array Oper} {rest : List Oper} {o : Oper} {a : Act} {w : World} {Q : Exit → Act → World → Prop} (hgd : o.guard = none) (x y : Operand) (ho : o.op = .store 33 x y)
    (g : Nat) (p : Nat → Bool) (hx : a.eval x = .pointer (some ⟨g, 0, none⟩)) (hy : a.eval y = .agg (cellsOf p)) (old : Array Value) (hg : w.heap[g]? = some (.cells old 33 (0, 0))) (hold : old.size = 16)
    (h : wpList Tryd.prog ops Q rest (a.put o.dst undef) (w.setRow g (cellsOf p))) : wpList Tryd.prog ops Q (o :: rest) a w :=
  wpList_store_row hgd 33 x y ho g _ hx hy 33 old hg (by rw [infoSet, cellsOf_size]) (by rw [hold, cellsOf_size]) (cellsOf_one p) h
theorem res_set {fn : Func} {R : Ending → World → Prop} {a : Act} {w : World} {t : Tmp} (h : fn.results = #[.cell t 33]) (g : Nat) (p : Nat → Bool)
    (hp : a.tmps.getD t undef = .pointer (some ⟨g, 0, none⟩)) (hg : w.heap[g]? = some (.cells (cellsOf p) 33 (0, 0))) (hd : a.defers = []) (hR : R (.returned (.agg (cellsOf p))) w) : bodyPost Tryd.prog fn R .ret a w :=
  bodyPost_ret (results_cell_row h _ _ g 33 _ (0, 0) _ hp hg underSet rfl (by rw [infoSet, cellsOf_size])) hd hR
/-- A block of sixteen words in a world: its cells read as the set's words, and may be written. -/
theorem blk_cell {w : World} {g : Nat} {p : Nat → Bool} (h : w.heap[g]? = some (.cells (cellsOf p) 33 (0, 0))) (i : Nat) (hi : i < 16) : w.cell? ⟨g, i, none⟩ = some (.int .u64 (word p i)) := by
  rw [cell_of_row w g i _ _ _ h, cellsOf_get p i hi]
theorem blk_set {w : World} {g : Nat} {p : Nat → Bool} (h : w.heap[g]? = some (.cells (cellsOf p) 33 (0, 0))) (q : Nat → Bool) (i v : Nat) (hi : i < 16) (hv : v = word q i) (ho : ∀ j, j < 16 → j ≠ i → word p j = word q j) :
    (w.setCell ⟨g, i, none⟩ (.int .u64 v)).heap[g]? = some (.cells (cellsOf q) 33 (0, 0)) := by
  rw [heap_setCell_same w g i _ _ _ h, cellsOf_set p q i v hi hv ho]

theorem heap_alloc3_0 (w : World) (a b c : Array Value) : (((w.alloc (.cells a 33)).alloc (.cells b 33)).alloc (.cells c 33)).heap[w.heap.size]? = some (.cells a 33 (0, 0)) := by
  exact (heap_alloc_old _ _ (by simp; omega)).trans (heap_alloc2_old w _ _)
theorem heap_alloc3_1 (w : World) (a b c : Array Value) : (((w.alloc (.cells a 33)).alloc (.cells b 33)).alloc (.cells c 33)).heap[w.heap.size + 1]? = some (.cells b 33 (0, 0)) := by
  exact (heap_alloc_old _ _ (by simp)).trans (heap_alloc2_new w _ _)
theorem heap_alloc3_2 (w : World) (a b c : Array Value) : (((w.alloc (.cells a 33)).alloc (.cells b 33)).alloc (.cells c 33)).heap[w.heap.size + 1 + 1]? = some (.cells c 33 (0, 0)) := by
  have h := heap_alloc_new ((w.alloc (.cells a 33)).alloc (.cells b 33)) (.cells c 33)
  have e : ((w.alloc (.cells a 33)).alloc (.cells b 33)).heap.size = w.heap.size + 1 + 1 := by simp
  rwa [e] at h

set_option maxHeartbeats 400000 in
theorem isCpu_yes (n : Int) (w : World) (h0 : 0 ≤ n) (h1 : n < 1024) :
    Calls Tryd.prog 46 #[.int .i64 n] w fun e w' => e = .returned (.bool true) ∧ w = w' := by
  go_enter Tryd.func46, Tryd.ntmps46
  go_wp2
  go_ret
  exact ⟨rfl, rfl⟩
set_option maxHeartbeats 400000 in
theorem isCpu_no (n : Int) (w : World) (h0 : n < 0 ∨ 1024 ≤ n) :
    Calls Tryd.prog 46 #[.int .i64 n] w fun e w' => e = .returned (.bool false) ∧ w = w' := by
  rcases h0 with h0 | h0
  · go_enter Tryd.func46, Tryd.ntmps46
    go_wp2
    go_ret
    exact ⟨rfl, rfl⟩
  · have h2 : decide (n < 1024) = false := by simp; omega
    go_enter Tryd.func46, Tryd.ntmps46
    go_wp2
    go_ret
    exact ⟨rfl, rfl⟩

/-- The set p with the worker n, whatever number n is. -/
def putP (p : Nat → Bool) (n : Int) : Nat → Bool := fun m => p m || decide ((m : Int) = n)
/-- The set p without the worker n. -/
def dropP (p : Nat → Bool) (n : Int) : Nat → Bool := fun m => p m && !decide ((m : Int) = n)
/-- Is n a worker's number, and in p? -/
def hasP (p : Nat → Bool) (n : Int) : Bool := decide (0 ≤ n ∧ n < 1024) && p n.toNat

set_option maxHeartbeats 400000 in
theorem has_yes (p : Nat → Bool) (n : Nat) (w : World) (h1 : n < 1024) :
    Calls Tryd.prog 42 #[.agg (cellsOf p), .int .i64 n] w fun e w' => e = .returned (.bool (p n)) ∧ Below w.heap.size w w' := by
  have hg := cellsOf_get p (n / 64) (by omega)
  have hlt : n / 64 < 16 := by omega
  go_enter Tryd.func42, Tryd.ntmps42
  go_wp2_with (go_at_call 46; refine (isCpu_yes _ _ (by omega) (by omega)).mono ?_; rintro e w' ⟨rfl, rfl⟩)
  go_ret
  exact ⟨congrArg (fun b => Ending.returned (.bool b)) (has_and p n), (Below.refl _ _).alloc (Nat.le_refl _) _⟩
set_option maxHeartbeats 400000 in
theorem has_no (p : Nat → Bool) (n : Int) (w : World) (h1 : n < 0 ∨ 1024 ≤ n) :
    Calls Tryd.prog 42 #[.agg (cellsOf p), .int .i64 n] w fun e w' => e = .returned (.bool false) ∧ Below w.heap.size w w' := by
  go_enter Tryd.func42, Tryd.ntmps42
  go_wp2_with (go_at_call 46; refine (isCpu_no _ _ h1).mono ?_; rintro e w' ⟨rfl, rfl⟩)
  go_ret
  exact ⟨rfl, (Below.refl _ _).alloc (Nat.le_refl _) _⟩
theorem hasP_yes (p : Nat → Bool) (n : Nat) (h : n < 1024) : hasP p n = p n := by unfold hasP; rw [show decide (0 ≤ (n : Int) ∧ (n : Int) < 1024) = true by simp; omega]; simp
theorem hasP_no (p : Nat → Bool) (n : Int) (h : n < 0 ∨ 1024 ≤ n) : hasP p n = false := by
  unfold hasP; rw [show decide (0 ≤ n ∧ n < 1024) = false by simp; omega]; rfl
/-- cpuset.Has, at every number. -/
theorem has_any (p : Nat → Bool) (n : Int) (w : World) :
    Calls Tryd.prog 42 #[.agg (cellsOf p), .int .i64 n] w fun e w' => e = .returned (.bool (hasP p n)) ∧ Below w.heap.size w w' := by
  by_cases h : 0 ≤ n ∧ n < 1024
  · obtain ⟨k, rfl⟩ := Int.eq_ofNat_of_zero_le h.1
    rw [hasP_yes p k (by omega)]
    exact has_yes p k w (by omega)
  · rw [hasP_no p n (by omega)]
    exact has_no p n w (by omega)

set_option maxHeartbeats 400000 in
theorem refHas_yes (p : Nat → Bool) (n : Nat) (w : World) (h1 : n < 1024) :
    Calls Tryd.prog 34 #[.agg (cellsOf p), .int .i64 n] w fun e w' => e = .returned (.bool (p n)) ∧ Below w.heap.size w w' := by
  have hg := cellsOf_get p (n / 64) (by omega)
  have hlt : n / 64 < 16 := by omega
  go_enter Tryd.func34, Tryd.ntmps34
  go_wp2
  go_ret
  exact ⟨congrArg (fun b => Ending.returned (.bool b)) (has_mod p n), (Below.refl _ _).alloc (Nat.le_refl _) _⟩
set_option maxHeartbeats 400000 in
theorem refHas_no (p : Nat → Bool) (n : Int) (w : World) (h1 : n < 0 ∨ 1024 ≤ n) :
    Calls Tryd.prog 34 #[.agg (cellsOf p), .int .i64 n] w fun e w' => e = .returned (.bool false) ∧ Below w.heap.size w w' := by
  rcases h1 with h1 | h1
  all_goals
    go_enter Tryd.func34, Tryd.ntmps34
    go_wp2
    go_ret
    exact ⟨rfl, (Below.refl _ _).alloc (Nat.le_refl _) _⟩
/-- The document's Has, at every number. -/
theorem refHas_any (p : Nat → Bool) (n : Int) (w : World) :
    Calls Tryd.prog 34 #[.agg (cellsOf p), .int .i64 n] w fun e w' => e = .returned (.bool (hasP p n)) ∧ Below w.heap.size w w' := by
  by_cases h : 0 ≤ n ∧ n < 1024
  · obtain ⟨k, rfl⟩ := Int.eq_ofNat_of_zero_le h.1
    rw [hasP_yes p k (by omega)]
    exact refHas_yes p k w (by omega)
  · rw [hasP_no p n (by omega)]
    exact refHas_no p n w (by omega)


set_option maxHeartbeats 1000000 in
theorem and_any (p q : Nat → Bool) (w : World) :
    Calls Tryd.prog 45 #[.agg (cellsOf p), .agg (cellsOf q)] w fun e w' => e = .returned (.agg (cellsOf (fun n => p n && q n))) ∧ Below w.heap.size w w' := by
  have H0 := heap_alloc3_0 w (cellsOf p) (cellsOf q) (cellsOf fun _ => false)
  have H1 := heap_alloc3_1 w (cellsOf p) (cellsOf q) (cellsOf fun _ => false)
  have H2 := heap_alloc3_2 w (cellsOf p) (cellsOf q) (cellsOf fun _ => false)
  rw [cellsOf_zero] at H0 H1 H2
  generalize hB : w.heap.size = B at H0 H1 H2 ⊢
  have HB := Lib.hid hB; clear hB
  have h0 := Lib.hid H0; have h1 := Lib.hid H1; have h2 := Lib.hid H2
  clear H0 H1 H2
  go_enter Tryd.func45, Tryd.ntmps45
  go_wp2
  rw [HB.out]
  go_loopw [6] (fun i wr => ∃ k : Nat, k ≤ 16 ∧ i = .int .i64 k ∧ Below B w wr ∧ wr.heap[B]? = some (.cells (cellsOf (mixP (fun n => p n && q n) p k)) 33 (0, 0)) ∧ wr.heap[B + 1]? = some (.cells (cellsOf q) 33 (0, 0)) ∧ wr.heap[B + 1 + 1]? = some (.cells (cellsOf fun _ => false) 33 (0, 0))) (fun i _ => 16 - (intOf i).toNat)
  case atStart =>
    refine ⟨0, by omega, rfl, ?_, ?_, ?_, ?_⟩
    · exact (((Below.refl _ _).alloc (by rw [HB.out]; exact Nat.le_refl _) _).alloc (by simp [HB.out]) _).alloc (by simp [HB.out]; omega) _
    · rw [mix_zero]; exact h0.out
    · exact h1.out
    · rw [cellsOf_zero]; exact h2.out
  case round =>
    obtain ⟨k, hk, rfl, hb, g0, g1, g2⟩ := hrel
    by_cases hlt : k < 16
    · have c0 := blk_cell g0 k hlt
      rw [mix_here] at c0
      have c1 := blk_cell g1 k hlt
      have f0 := frozen_of_row wr B k _ _ g0
      have hand := and_word p q k
      have G0 := Lib.hid (blk_set g0 (mixP (fun n => p n && q n) p (k + 1)) k _ hlt (mix_next (fun n => p n && q n) p k).symm (fun j _ hj => mix_other _ _ k j hj))
      have G1 := Lib.hid g1
      have G2 := Lib.hid g2
      clear g0 g1 g2
      go_wp2
      go_region
      go_wp2
      go_roundw
      case rel => 
        refine ⟨k + 1, by omega, by go_num, (hb.setCell (Nat.le_refl _) _).drew, G0.out, ?_, ?_⟩
        · exact (heap_setCell_other _ _ _ _ (by simp)).trans G1.out
        · exact (heap_setCell_other _ _ _ _ (by simp; omega)).trans G2.out
      case measure => simp [intOf]; omega
    · obtain rfl : k = 16 := by omega
      rw [mix_all] at g0
      go_wp2_with (first | (refine ld_set rfl (.tmp 2) rfl B rfl _ g0 ?_) | (refine st_set rfl (.tmp 4) (.tmp 18) rfl (B + 1 + 1) _ rfl rfl _ g2 (cellsOf_size _) ?_))
      refine res_set rfl (B + 1 + 1) _ rfl (setRow_heap _ _ _ _ _ _ g2) rfl ⟨rfl, ?_⟩
      exact below_setRow hb (by omega) _

set_option maxHeartbeats 1000000 in
theorem or_any (p q : Nat → Bool) (w : World) :
    Calls Tryd.prog 32 #[.agg (cellsOf p), .agg (cellsOf q)] w fun e w' => e = .returned (.agg (cellsOf (fun n => p n || q n))) ∧ Below w.heap.size w w' := by
  have H0 := heap_alloc3_0 w (cellsOf p) (cellsOf q) (cellsOf fun _ => false)
  have H1 := heap_alloc3_1 w (cellsOf p) (cellsOf q) (cellsOf fun _ => false)
  have H2 := heap_alloc3_2 w (cellsOf p) (cellsOf q) (cellsOf fun _ => false)
  rw [cellsOf_zero] at H0 H1 H2
  generalize hB : w.heap.size = B at H0 H1 H2 ⊢
  have HB := Lib.hid hB; clear hB
  have h0 := Lib.hid H0; have h1 := Lib.hid H1; have h2 := Lib.hid H2
  clear H0 H1 H2
  go_enter Tryd.func32, Tryd.ntmps32
  go_wp2
  rw [HB.out]
  go_loopw [6] (fun i wr => ∃ k : Nat, k ≤ 16 ∧ i = .int .i64 k ∧ Below B w wr ∧ wr.heap[B]? = some (.cells (cellsOf (mixP (fun n => p n || q n) p k)) 33 (0, 0)) ∧ wr.heap[B + 1]? = some (.cells (cellsOf q) 33 (0, 0)) ∧ wr.heap[B + 1 + 1]? = some (.cells (cellsOf fun _ => false) 33 (0, 0))) (fun i _ => 16 - (intOf i).toNat)
  case atStart =>
    refine ⟨0, by omega, rfl, ?_, ?_, ?_, ?_⟩
    · exact (((Below.refl _ _).alloc (by rw [HB.out]; exact Nat.le_refl _) _).alloc (by simp [HB.out]) _).alloc (by simp [HB.out]; omega) _
    · rw [mix_zero]; exact h0.out
    · exact h1.out
    · rw [cellsOf_zero]; exact h2.out
  case round =>
    obtain ⟨k, hk, rfl, hb, g0, g1, g2⟩ := hrel
    by_cases hlt : k < 16
    · have c0 := blk_cell g0 k hlt
      rw [mix_here] at c0
      have c1 := blk_cell g1 k hlt
      have f0 := frozen_of_row wr B k _ _ g0
      have hand := or_word p q k
      have G0 := Lib.hid (blk_set g0 (mixP (fun n => p n || q n) p (k + 1)) k _ hlt (mix_next (fun n => p n || q n) p k).symm (fun j _ hj => mix_other _ _ k j hj))
      have G1 := Lib.hid g1
      have G2 := Lib.hid g2
      clear g0 g1 g2
      go_wp2
      go_region
      go_wp2
      go_roundw
      case rel => 
        refine ⟨k + 1, by omega, by go_num, (hb.setCell (Nat.le_refl _) _).drew, G0.out, ?_, ?_⟩
        · exact (heap_setCell_other _ _ _ _ (by simp)).trans G1.out
        · exact (heap_setCell_other _ _ _ _ (by simp; omega)).trans G2.out
      case measure => simp [intOf]; omega
    · obtain rfl : k = 16 := by omega
      rw [mix_all] at g0
      go_wp2_with (first | (refine ld_set rfl (.tmp 2) rfl B rfl _ g0 ?_) | (refine st_set rfl (.tmp 4) (.tmp 18) rfl (B + 1 + 1) _ rfl rfl _ g2 (cellsOf_size _) ?_))
      refine res_set rfl (B + 1 + 1) _ rfl (setRow_heap _ _ _ _ _ _ g2) rfl ⟨rfl, ?_⟩
      exact below_setRow hb (by omega) _

end Go.Proofs.YtchhenpijbecaaaDoor
