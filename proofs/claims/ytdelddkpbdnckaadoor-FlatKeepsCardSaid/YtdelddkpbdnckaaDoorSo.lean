/- The operations on sets of workers: the contracts of cpuset's small functions and of the document's Has. -/
import Derived.Test.YtdelddkpbdnckaaDoorProg
import Derived.Test.YtdelddkpbdnckaaDoorSm
import Derived.WalkSpells
import Derived.WalkLawsBesides
import Derived.BigRegion
import Derived.BigQuiet
import Derived.Deep.QuietTactic
import Derived.Lib.Hide
namespace Go.Proofs.YtdelddkpbdnckaaDoor
open Go.RowKit

theorem infoSet : (Tryd.prog.info? 24).map (·.size) = some 16 := by kernel_rfl
theorem underSet : Tryd.prog.underlying 24 = some (.array 16 22) := Tryd.underlying24
theorem ld_set {ops : Array Oper} {rest : List Oper} {o : Oper} {a : Act} {w : World} {Q : Exit → Act → World → Prop} (hgd : Region.wanted o (yielded ops a.tmps) = true) (x : Operand) (ho : o.op = .load 24 x)
    (g : Nat) (hx : a.eval x = .pointer (some ⟨g, 0, none⟩)) (p : Nat → Bool) (hg : w.heap[g]? = some (.cells (cellsOf p) 24 (0, 0)))
    (h : wpList Tryd.prog ops Q rest (a.put o.dst (.agg (cellsOf p))) w) : wpList Tryd.prog ops Q (o :: rest) a w :=
  BigFrame.wpList_want hgd fun _ hK => wp_load_row 24 x ho g hx 24 _ (0, 0) _ hg underSet rfl (by rw [infoSet, cellsOf_size]) (hK _ _ h)
theorem st_set {ops : Array Oper} {rest : List Oper} {o : Oper} {a : Act} {w : World} {Q : Exit → Act → World → Prop} (hgd : o.guard = none) (x y : Operand) (ho : o.op = .store 24 x y)
    (g : Nat) (p : Nat → Bool) (hx : a.eval x = .pointer (some ⟨g, 0, none⟩)) (hy : a.eval y = .agg (cellsOf p)) (old : Array Value) (hg : w.heap[g]? = some (.cells old 24 (0, 0))) (hold : old.size = 16)
    (h : wpList Tryd.prog ops Q rest (a.put o.dst undef) (w.setRow g (cellsOf p))) : wpList Tryd.prog ops Q (o :: rest) a w :=
  wpList_store_row hgd 24 x y ho g _ hx hy 24 old hg (by rw [infoSet, cellsOf_size]) (by rw [hold, cellsOf_size]) (cellsOf_one p) h
theorem res_set {fn : Func} {R : Ending → World → Prop} {a : Act} {w : World} {t : Tmp} (h : fn.results = #[.cell t 24]) (g : Nat) (p : Nat → Bool)
    (hp : a.tmps.getD t undef = .pointer (some ⟨g, 0, none⟩)) (hg : w.heap[g]? = some (.cells (cellsOf p) 24 (0, 0))) (hd : a.defers = []) (hR : R (.returned (.agg (cellsOf p))) w) : bodyPost Tryd.prog fn R .ret a w :=
  bodyPost_ret (results_cell_row h _ _ g 24 _ (0, 0) _ hp hg underSet rfl (by rw [infoSet, cellsOf_size])) hd hR
/-- A block of sixteen words in a world: its cells read as the set's words, and may be written. -/
theorem blk_cell {w : World} {g : Nat} {p : Nat → Bool} (h : w.heap[g]? = some (.cells (cellsOf p) 24 (0, 0))) (i : Nat) (hi : i < 16) : w.cell? ⟨g, i, none⟩ = some (.int .u64 (word p i)) := by
  rw [cell_of_row w g i _ _ _ h, cellsOf_get p i hi]
theorem blk_set {w : World} {g : Nat} {p : Nat → Bool} (h : w.heap[g]? = some (.cells (cellsOf p) 24 (0, 0))) (q : Nat → Bool) (i v : Nat) (hi : i < 16) (hv : v = word q i) (ho : ∀ j, j < 16 → j ≠ i → word p j = word q j) :
    (w.setCell ⟨g, i, none⟩ (.int .u64 v)).heap[g]? = some (.cells (cellsOf q) 24 (0, 0)) := by
  rw [heap_setCell_same w g i _ _ _ h, cellsOf_set p q i v hi hv ho]

theorem heap_alloc3_0 (w : World) (a b c : Array Value) : (((w.alloc (.cells a 24)).alloc (.cells b 24)).alloc (.cells c 24)).heap[w.heap.size]? = some (.cells a 24 (0, 0)) := by
  exact (heap_alloc_old _ _ (by simp; omega)).trans (heap_alloc2_old w _ _)
theorem heap_alloc3_1 (w : World) (a b c : Array Value) : (((w.alloc (.cells a 24)).alloc (.cells b 24)).alloc (.cells c 24)).heap[w.heap.size + 1]? = some (.cells b 24 (0, 0)) := by
  exact (heap_alloc_old _ _ (by simp)).trans (heap_alloc2_new w _ _)
theorem heap_alloc3_2 (w : World) (a b c : Array Value) : (((w.alloc (.cells a 24)).alloc (.cells b 24)).alloc (.cells c 24)).heap[w.heap.size + 1 + 1]? = some (.cells c 24 (0, 0)) := by
  have h := heap_alloc_new ((w.alloc (.cells a 24)).alloc (.cells b 24)) (.cells c 24)
  have e : ((w.alloc (.cells a 24)).alloc (.cells b 24)).heap.size = w.heap.size + 1 + 1 := by simp
  rwa [e] at h

set_option maxHeartbeats 400000 in
theorem isCpu_yes (n : Int) (w : World) (h0 : 0 ≤ n) (h1 : n < 1024) :
    Calls Tryd.prog 43 #[.int .i64 n] w fun e w' => e = .returned (.bool true) ∧ w = w' := by
  go_enter Tryd.func43, Tryd.ntmps43
  go_wp2
  go_ret
  exact ⟨rfl, rfl⟩
set_option maxHeartbeats 400000 in
theorem isCpu_no (n : Int) (w : World) (h0 : n < 0 ∨ 1024 ≤ n) :
    Calls Tryd.prog 43 #[.int .i64 n] w fun e w' => e = .returned (.bool false) ∧ w = w' := by
  rcases h0 with h0 | h0
  · go_enter Tryd.func43, Tryd.ntmps43
    go_wp2
    go_ret
    exact ⟨rfl, rfl⟩
  · have h2 : decide (n < 1024) = false := by simp; omega
    go_enter Tryd.func43, Tryd.ntmps43
    go_wp2
    go_ret
    exact ⟨rfl, rfl⟩

/-- The set p with the worker n, whatever number n is. -/
def putP (p : Nat → Bool) (n : Int) : Nat → Bool := fun m => p m || decide ((m : Int) = n)
/-- The set p without the worker n. -/
def dropP (p : Nat → Bool) (n : Int) : Nat → Bool := fun m => p m && !decide ((m : Int) = n)
/-- Is n a worker's number, and in p? -/
def hasP (p : Nat → Bool) (n : Int) : Bool := decide (0 ≤ n ∧ n < 1024) && p n.toNat

set_option maxHeartbeats 400000 in
theorem put_yes (p : Nat → Bool) (n : Nat) (w : World) (h1 : n < 1024) :
    Calls Tryd.prog 27 #[.agg (cellsOf p), .int .i64 n] w fun e w' => e = .returned (.agg (cellsOf (putP p n))) ∧ Below w.heap.size w w' := by
  have hq : (fun m => p m || decide (m = n)) = putP p n := by funext m; unfold putP; congr 1; rw [decide_eq_decide]; omega
  rw [← hq]; clear hq
  have hor := or_put p n
  have hg := cellsOf_get p (n / 64) (by omega)
  have hst := cellsOf_set p (fun m => p m || decide (m = n)) (n / 64) _ (by omega) rfl (fun j _ hj => word_put_other p n j hj)
  have hlt : n / 64 < 16 := by omega
  go_enter Tryd.func27, Tryd.ntmps27
  go_wp2_with (go_at_call 43; refine (isCpu_yes _ _ (by omega) (by omega)).mono ?_; rintro e w' ⟨rfl, rfl⟩)
  go_region
  go_wp2_with (first | (refine ld_set rfl (.tmp 2) rfl w.heap.size rfl _ (heap_alloc2_old w _ _) ?_) | (refine st_set rfl (.tmp 4) (.tmp 16) rfl (w.heap.size + 1) _ rfl rfl _ (heap_alloc2_new w _ _) rfl ?_))
  refine res_set rfl (w.heap.size + 1) _ rfl (setRow_heap _ _ _ _ _ _ (heap_alloc2_new w _ _)) rfl ⟨rfl, ?_⟩
  exact below_setRow ((((Below.refl _ _).alloc (Nat.le_refl _) _).alloc (by simp) _).drew) (by simp) _
set_option maxHeartbeats 400000 in
theorem put_no (p : Nat → Bool) (n : Int) (w : World) (h1 : n < 0 ∨ 1024 ≤ n) :
    Calls Tryd.prog 27 #[.agg (cellsOf p), .int .i64 n] w fun e w' => e = .returned (.agg (cellsOf (putP p n))) ∧ Below w.heap.size w w' := by
  have hq : cellsOf (putP p n) = cellsOf p := cellsOf_congr fun m hm => by unfold putP; rw [show decide ((m : Int) = n) = false by simp; omega]; simp
  rw [hq]; clear hq
  go_enter Tryd.func27, Tryd.ntmps27
  go_wp2_with (first | (go_at_call 43; refine (isCpu_no _ _ h1).mono ?_; rintro e w' ⟨rfl, rfl⟩) | (refine ld_set rfl (.tmp 2) rfl w.heap.size rfl _ (heap_alloc2_old w _ _) ?_) | (refine st_set rfl (.tmp 4) (.tmp 16) rfl (w.heap.size + 1) _ rfl rfl _ (heap_alloc2_new w _ _) rfl ?_))
  refine res_set rfl (w.heap.size + 1) _ rfl (setRow_heap _ _ _ _ _ _ (heap_alloc2_new w _ _)) rfl ⟨rfl, ?_⟩
  exact below_setRow (((Below.refl _ _).alloc (Nat.le_refl _) _).alloc (by simp) _) (by simp) _
/-- cpuset.Put, at every number. -/
theorem put_any (p : Nat → Bool) (n : Int) (w : World) :
    Calls Tryd.prog 27 #[.agg (cellsOf p), .int .i64 n] w fun e w' => e = .returned (.agg (cellsOf (putP p n))) ∧ Below w.heap.size w w' := by
  by_cases h : 0 ≤ n ∧ n < 1024
  · obtain ⟨k, rfl⟩ := Int.eq_ofNat_of_zero_le h.1
    exact put_yes p k w (by omega)
  · exact put_no p n w (by omega)

set_option maxHeartbeats 400000 in
theorem drop_yes (p : Nat → Bool) (n : Nat) (w : World) (h1 : n < 1024) :
    Calls Tryd.prog 51 #[.agg (cellsOf p), .int .i64 n] w fun e w' => e = .returned (.agg (cellsOf (dropP p n))) ∧ Below w.heap.size w w' := by
  have hq : (fun m => p m && !decide (m = n)) = dropP p n := by funext m; unfold dropP; congr 2; rw [decide_eq_decide]; omega
  rw [← hq]; clear hq
  have hor := andNot_drop p n
  have hg := cellsOf_get p (n / 64) (by omega)
  have hst := cellsOf_set p (fun m => p m && !decide (m = n)) (n / 64) _ (by omega) rfl (fun j _ hj => word_drop_other p n j hj)
  have hlt : n / 64 < 16 := by omega
  go_enter Tryd.func51, Tryd.ntmps51
  go_wp2_with (go_at_call 43; refine (isCpu_yes _ _ (by omega) (by omega)).mono ?_; rintro e w' ⟨rfl, rfl⟩)
  go_region
  go_wp2_with (first | (refine ld_set rfl (.tmp 2) rfl w.heap.size rfl _ (heap_alloc2_old w _ _) ?_) | (refine st_set rfl (.tmp 4) (.tmp 16) rfl (w.heap.size + 1) _ rfl rfl _ (heap_alloc2_new w _ _) rfl ?_))
  refine res_set rfl (w.heap.size + 1) _ rfl (setRow_heap _ _ _ _ _ _ (heap_alloc2_new w _ _)) rfl ⟨rfl, ?_⟩
  exact below_setRow ((((Below.refl _ _).alloc (Nat.le_refl _) _).alloc (by simp) _).drew) (by simp) _
set_option maxHeartbeats 400000 in
theorem drop_no (p : Nat → Bool) (n : Int) (w : World) (h1 : n < 0 ∨ 1024 ≤ n) :
    Calls Tryd.prog 51 #[.agg (cellsOf p), .int .i64 n] w fun e w' => e = .returned (.agg (cellsOf (dropP p n))) ∧ Below w.heap.size w w' := by
  have hq : cellsOf (dropP p n) = cellsOf p := cellsOf_congr fun m hm => by unfold dropP; rw [show decide ((m : Int) = n) = false by simp; omega]; simp
  rw [hq]; clear hq
  go_enter Tryd.func51, Tryd.ntmps51
  go_wp2_with (first | (go_at_call 43; refine (isCpu_no _ _ h1).mono ?_; rintro e w' ⟨rfl, rfl⟩) | (refine ld_set rfl (.tmp 2) rfl w.heap.size rfl _ (heap_alloc2_old w _ _) ?_) | (refine st_set rfl (.tmp 4) (.tmp 16) rfl (w.heap.size + 1) _ rfl rfl _ (heap_alloc2_new w _ _) rfl ?_))
  refine res_set rfl (w.heap.size + 1) _ rfl (setRow_heap _ _ _ _ _ _ (heap_alloc2_new w _ _)) rfl ⟨rfl, ?_⟩
  exact below_setRow (((Below.refl _ _).alloc (Nat.le_refl _) _).alloc (by simp) _) (by simp) _
/-- cpuset.Drop, at every number. -/
theorem drop_any (p : Nat → Bool) (n : Int) (w : World) :
    Calls Tryd.prog 51 #[.agg (cellsOf p), .int .i64 n] w fun e w' => e = .returned (.agg (cellsOf (dropP p n))) ∧ Below w.heap.size w w' := by
  by_cases h : 0 ≤ n ∧ n < 1024
  · obtain ⟨k, rfl⟩ := Int.eq_ofNat_of_zero_le h.1
    exact drop_yes p k w (by omega)
  · exact drop_no p n w (by omega)

set_option maxHeartbeats 400000 in
theorem shas_yes (p : Nat → Bool) (n : Nat) (w : World) (h1 : n < 1024) :
    Calls Tryd.prog 26 #[.agg (cellsOf p), .int .i64 n] w fun e w' => e = .returned (.bool (p n)) ∧ Below w.heap.size w w' := by
  have hg := cellsOf_get p (n / 64) (by omega)
  have hlt : n / 64 < 16 := by omega
  go_enter Tryd.func26, Tryd.ntmps26
  go_wp2_with (go_at_call 43; refine (isCpu_yes _ _ (by omega) (by omega)).mono ?_; rintro e w' ⟨rfl, rfl⟩)
  go_ret
  exact ⟨congrArg (fun b => Ending.returned (.bool b)) (has_and p n), (Below.refl _ _).alloc (Nat.le_refl _) _⟩
set_option maxHeartbeats 400000 in
theorem shas_no (p : Nat → Bool) (n : Int) (w : World) (h1 : n < 0 ∨ 1024 ≤ n) :
    Calls Tryd.prog 26 #[.agg (cellsOf p), .int .i64 n] w fun e w' => e = .returned (.bool false) ∧ Below w.heap.size w w' := by
  go_enter Tryd.func26, Tryd.ntmps26
  go_wp2_with (go_at_call 43; refine (isCpu_no _ _ h1).mono ?_; rintro e w' ⟨rfl, rfl⟩)
  go_ret
  exact ⟨rfl, (Below.refl _ _).alloc (Nat.le_refl _) _⟩
theorem hasP_yes (p : Nat → Bool) (n : Nat) (h : n < 1024) : hasP p n = p n := by unfold hasP; rw [show decide (0 ≤ (n : Int) ∧ (n : Int) < 1024) = true by simp; omega]; simp
theorem hasP_no (p : Nat → Bool) (n : Int) (h : n < 0 ∨ 1024 ≤ n) : hasP p n = false := by
  unfold hasP; rw [show decide (0 ≤ n ∧ n < 1024) = false by simp; omega]; rfl
/-- cpuset.Has, at every number. -/
theorem shas_any (p : Nat → Bool) (n : Int) (w : World) :
    Calls Tryd.prog 26 #[.agg (cellsOf p), .int .i64 n] w fun e w' => e = .returned (.bool (hasP p n)) ∧ Below w.heap.size w w' := by
  by_cases h : 0 ≤ n ∧ n < 1024
  · obtain ⟨k, rfl⟩ := Int.eq_ofNat_of_zero_le h.1
    rw [hasP_yes p k (by omega)]
    exact shas_yes p k w (by omega)
  · rw [hasP_no p n (by omega)]
    exact shas_no p n w (by omega)

set_option maxHeartbeats 400000 in
theorem refHas_yes (p : Nat → Bool) (n : Nat) (w : World) (h1 : n < 1024) :
    Calls Tryd.prog 17 #[.agg (cellsOf p), .int .i64 n] w fun e w' => e = .returned (.bool (p n)) ∧ Below w.heap.size w w' := by
  have hg := cellsOf_get p (n / 64) (by omega)
  have hlt : n / 64 < 16 := by omega
  go_enter Tryd.func17, Tryd.ntmps17
  go_wp2
  go_ret
  exact ⟨congrArg (fun b => Ending.returned (.bool b)) (has_mod p n), (Below.refl _ _).alloc (Nat.le_refl _) _⟩
set_option maxHeartbeats 400000 in
theorem refHas_no (p : Nat → Bool) (n : Int) (w : World) (h1 : n < 0 ∨ 1024 ≤ n) :
    Calls Tryd.prog 17 #[.agg (cellsOf p), .int .i64 n] w fun e w' => e = .returned (.bool false) ∧ Below w.heap.size w w' := by
  rcases h1 with h1 | h1
  all_goals
    go_enter Tryd.func17, Tryd.ntmps17
    go_wp2
    go_ret
    exact ⟨rfl, (Below.refl _ _).alloc (Nat.le_refl _) _⟩
/-- The document's Has, at every number. -/
theorem refHas_any (p : Nat → Bool) (n : Int) (w : World) :
    Calls Tryd.prog 17 #[.agg (cellsOf p), .int .i64 n] w fun e w' => e = .returned (.bool (hasP p n)) ∧ Below w.heap.size w w' := by
  by_cases h : 0 ≤ n ∧ n < 1024
  · obtain ⟨k, rfl⟩ := Int.eq_ofNat_of_zero_le h.1
    rw [hasP_yes p k (by omega)]
    exact refHas_yes p k w (by omega)
  · rw [hasP_no p n (by omega)]
    exact refHas_no p n w (by omega)


end Go.Proofs.YtdelddkpbdnckaaDoor
