/- The document's shared row: New. -/
import Derived.Test.YtfejimlfnelhhaaUb
namespace Go.Proofs.Ytfejimlfnelhhaa
open Go.RowKit

theorem refcut_any (c a b r : Int) (h : min (max c a) b = r) (hab : a ≤ b) (w : World) : Calls Try.prog 35 #[.int .i64 c, .int .i64 a, .int .i64 b] w fun e w' => e = .returned (.int .i64 r) ∧ w = w' := by
  by_cases h0 : c < a
  · obtain rfl : r = a := by omega
    clear h
    go_enter Try.func35, Try.ntmps35
    go_wp2
    go_ret
    exact ⟨rfl, rfl⟩
  · by_cases h1 : b < c
    · obtain rfl : r = b := by omega
      clear h
      go_enter Try.func35, Try.ntmps35
      go_wp2
      go_ret
      exact ⟨rfl, rfl⟩
    · obtain rfl : r = c := by omega
      clear h
      go_enter Try.func35, Try.ntmps35
      go_wp2
      go_ret
      exact ⟨rfl, rfl⟩
theorem infoParty : (Try.prog.info? 38).map (fun i => (i.zero, i.size, i.bytes)) = some (some (.agg #[.int .i64 0, .int .i64 0, .int .i64 0, .int .i64 0, .int .i64 0, .bool false]), 6, 48) := by kernel_rfl
theorem make_rows (N : Nat) (z : Int) (hz : z = N) (hN : N ≤ 100) : ∃ Z : Array Value, (∀ W : World, (Instr.makeSlice 32 (.int .i64 z) (.int .i64 z)).run Try.prog W = .ok (.slice (some ⟨W.heap.size, 0, none⟩) N N) (W.alloc (.cells Z 3))) ∧ Z.size = N ∧ ∀ i, i < N → Z[i]? = some (.int .i64 0) := by
  subst hz
  obtain ⟨i0, hi0, hz0, hz1, hz2⟩ := info_parts infoInt
  refine ⟨madeCells (Value.int IntKind.i64 0).cells N, fun W => ?_, by simp [madeCells], fun i hi => by simp [madeCells, Value.cells, hi, Nat.mod_one]⟩
  have := run_makeSlice (P := Try.prog) W 32 3 i0 (.int .i64 0) Try.underlying32 hi0 hz0 .i64 .i64 N N (by omega) (by omega) (by rw [hz1]; simp; omega) (by rw [hz2]; omega) (by omega)
  simp only [Int.toNat_natCast, hz1, Nat.mul_one] at this
  exact this
theorem make_pars (N : Nat) (z : Int) (hz : z = N) (hN : N ≤ 100) : ∃ Z : Array Value, (∀ W : World, (Instr.makeSlice 33 (.int .i64 z) (.int .i64 z)).run Try.prog W = .ok (.slice (some ⟨W.heap.size, 0, none⟩) N N) (W.alloc (.cells Z 38))) ∧ Z.size = N * 6 ∧
    ∀ k, k < N → Z[k * 6]? = some (.int .i64 0) ∧ Z[k * 6 + 1]? = some (.int .i64 0) ∧ Z[k * 6 + 2]? = some (.int .i64 0) ∧ Z[k * 6 + 3]? = some (.int .i64 0) ∧ Z[k * 6 + 4]? = some (.int .i64 0) ∧ Z[k * 6 + 5]? = some (.bool false) := by
  subst hz
  obtain ⟨i0, hi0, hz0, hz1, hz2⟩ := info_parts infoParty
  refine ⟨madeCells (Value.agg #[.int .i64 0, .int .i64 0, .int .i64 0, .int .i64 0, .int .i64 0, .bool false]).cells (N * 6), fun W => ?_, by simp [madeCells], fun k hk => ?_⟩
  · have := run_makeSlice (P := Try.prog) W 33 38 i0 _ Try.underlying33 hi0 hz0 .i64 .i64 N N (by omega) (by omega) (by rw [hz1]; simp; omega) (by rw [hz2]; omega) (by omega)
    simp only [Int.toNat_natCast, hz1] at this
    exact this
  · have e : ∀ j, j < 6 → (k * 6 + j) % 6 = j := fun j hj => by omega
    have e0 : k * 6 % 6 = 0 := by omega
    refine ⟨?_, ?_, ?_, ?_, ?_, ?_⟩
    · simp [madeCells, Value.cells, show k * 6 < N * 6 by omega]
    · simp [madeCells, Value.cells, show k * 6 + 1 < N * 6 by omega]
    · simp [madeCells, Value.cells, show k * 6 + 2 < N * 6 by omega]
    · simp [madeCells, Value.cells, show k * 6 + 3 < N * 6 by omega]
    · simp [madeCells, Value.cells, show k * 6 + 4 < N * 6 by omega]
    · simp [madeCells, Value.cells, show k * 6 + 5 < N * 6 by omega]
/-- The new row's blocks, however they come. -/
theorem refnew_end {w W : World} {rb gs gp r t : Nat} {Z1 Z2 : Array Value} (r1 : 1 ≤ r) (r2 : r ≤ 64) (t8 : t ≤ 8) (h1 : gs ≠ rb) (h2 : gp ≠ rb) (h3 : gs ≠ gp)
    (hb : Blk W rb 35 #[.int .i64 0, .int .i64 0, .int .i64 r, .slice (some ⟨gs, 0, none⟩) r r, .slice (some ⟨gp, 0, none⟩) (t + 1) (t + 1)]) (hs : Blk W gs 3 Z1) (hp : Blk W gp 38 Z2)
    (s1 : Z1.size = r) (s2 : Z2.size = (t + 1) * 6) (z1 : ∀ i, i < r → Z1[i]? = some (.int .i64 0))
    (z2 : ∀ k, k < t + 1 → Z2[k * 6]? = some (.int .i64 0) ∧ Z2[k * 6 + 1]? = some (.int .i64 0) ∧ Z2[k * 6 + 2]? = some (.int .i64 0) ∧ Z2[k * 6 + 3]? = some (.int .i64 0) ∧ Z2[k * 6 + 4]? = some (.int .i64 0) ∧ Z2[k * 6 + 5]? = some (.bool false))
    (hN : But Nob w W) (l1 : w.heap.size ≤ rb) (l2 : w.heap.size ≤ gs) (l3 : w.heap.size ≤ gp) : RfD rb gs gp (newD r t) W ∧ But Nob w W ∧ ∀ k, OwnR rb gs gp k → w.heap.size ≤ k := by
  refine ⟨⟨fun _ => Pt.out, ⟨r1, r2, t8, h1, h2, h3, hb, ⟨Z1, by rw [s1]; exact Nat.le_refl _, hs, z1⟩, ⟨Z2, by rw [s2]; exact Nat.le_refl _, hp, fun k hk => z2 k (by have : k ≤ t := hk; omega)⟩⟩, fun _ _ => party_out⟩, hN, fun k hk => ?_⟩
  rcases hk with rfl | rfl | rfl <;> assumption
theorem blk_at {w : World} {g : Nat} (t : TypeId) (cs : Array Value) (h : w.heap.size = g) : Blk (w.alloc (.cells cs t)) g t cs := by subst h; exact Blk.new _ _ _
set_option maxRecDepth 100000 in
set_option maxHeartbeats 4000000 in
theorem refnew_any (room thieves : Int) (r t : Nat) (hr : min (max room 1) 64 = (r : Int)) (ht : min (max thieves 0) 8 = (t : Int)) (w : World) :
    Calls Try.prog 10 #[.int .i64 room, .int .i64 thieves] w fun e w' => ∃ rb gs gp, e = .returned (.pointer (some ⟨rb, 0, none⟩)) ∧ RfD rb gs gp (newD r t) w' ∧ But Nob w w' ∧ ∀ k, OwnR rb gs gp k → w.heap.size ≤ k := by
  obtain ⟨Z1, m1, s1, z1⟩ := make_rows r r rfl (by omega)
  obtain ⟨Z2, m2, s2, z2⟩ := make_pars (t + 1) (IntKind.i64.wrap (1 + (t : Int))) (by rw [IntWalk.i64_in _ (by omega)]; omega) (by omega)
  have C1 := Lib.hid (fun w => refcut_any room 1 64 r hr (by omega) w); have C2 := Lib.hid (fun w => refcut_any thieves 0 8 t ht (by omega) w)
  have S1 := Lib.hid s1; have S2 := Lib.hid s2; have ZZ1 := Lib.hid z1; have ZZ2 := Lib.hid z2
  have r1 : 1 ≤ r := by omega
  have r2 : r ≤ 64 := by omega
  have t8 : t ≤ 8 := by omega
  clear hr ht s1 s2 z1 z2
  go_enter Try.func10, Try.ntmps10
  go_wp2_with fail
  refine (C1.out _).mono ?_
  rintro e wq ⟨rfl, rfl⟩
  go_wp2_with fail
  go_region_with (go_at_call 35; (with_reducible refine (C2.out _).mono ?_); rintro e w' ⟨rfl, rfl⟩)
  all_goals
    go_wp2_with fail
    go_ret
    first
      | exact ⟨w.heap.size + 1 + 1, w.heap.size, w.heap.size + 1, rfl, refnew_end r1 r2 t8 (by omega) (by omega) (by omega) (show Blk (((w.alloc (.cells Z1 3)).alloc (.cells Z2 38)).alloc _) _ _ _ from blk_at _ _ (by simp)) (show Blk (((w.alloc (.cells Z1 3)).alloc (.cells Z2 38)).alloc _) _ _ _ from ((Blk.new w _ _).alloc _).alloc _) (show Blk (((w.alloc (.cells Z1 3)).alloc (.cells Z2 38)).alloc _) _ _ _ from (blk_at _ _ (by simp)).alloc _) S1.out S2.out ZZ1.out ZZ2.out ((((But.refl Nob w).alloc _).alloc _).alloc _).drew (by omega) (by omega) (by omega)⟩
      | exact ⟨w.heap.size + 1 + 1, w.heap.size + 1, w.heap.size, rfl, refnew_end r1 r2 t8 (by omega) (by omega) (by omega) (show Blk (((w.alloc (.cells Z2 38)).alloc (.cells Z1 3)).alloc _) _ _ _ from blk_at _ _ (by simp)) (show Blk (((w.alloc (.cells Z2 38)).alloc (.cells Z1 3)).alloc _) _ _ _ from (blk_at _ _ (by simp)).alloc _) (show Blk (((w.alloc (.cells Z2 38)).alloc (.cells Z1 3)).alloc _) _ _ _ from ((Blk.new w _ _).alloc _).alloc _) S1.out S2.out ZZ1.out ZZ2.out ((((But.refl Nob w).alloc _).alloc _).alloc _).drew (by omega) (by omega) (by omega)⟩
end Go.Proofs.Ytfejimlfnelhhaa
