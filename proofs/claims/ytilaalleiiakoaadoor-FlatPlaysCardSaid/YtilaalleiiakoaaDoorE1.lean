/- exec's step, at the instructions 4, 5. -/
import Derived.Test.YtilaalleiiakoaaDoorE0
namespace Go.Proofs.YtilaalleiiakoaaDoor
open Go.RowKit

set_option maxRecDepth 100000 in
set_option maxHeartbeats 4000000 in
theorem step_4_0 (b n pc : Int) (r : R4) (w : World) (hp : 0 ≤ pc ∧ pc < 1000000) (hn : In32 n) :
    Calls Tryd.prog 63 #[insV ⟨4, 0, b, n⟩, .int .i64 pc, regV r] w (StepG (stepP ⟨4, 0, b, n⟩ pc r) w) := by
  obtain ⟨p0, p1⟩ := hp
  obtain ⟨n0, n1⟩ := hn
  obtain ⟨ra, rb, rc, rd⟩ := r
  go_enter Tryd.func63, Tryd.ntmps63
  go_wp2
  go_quiet (fail)
  go_wp2
  go_region
  all_goals go_wp2
  all_goals refine bodyPost_ret (v := .tuple #[.int .i64 n, .agg #[.int .i32 ra, .int .i32 rb, .int .i32 rc, .int .i32 rd], .agg #[.int .i64 0, .int .i64 0, .int .i32 0]]) (by simp [results, Tryd.results63, go_sem]) rfl ⟨?_, ?_⟩
  · simp [stepP, Eff.zero]
  · refine But.below (X := Nob) ?_ (Nat.le_refl _) fun _ _ q => q.elim
    repeat' first
      | with_reducible exact But.refl _ _
      | with_reducible refine But.set ?_ _ _ (.inr ?_)
      | with_reducible refine But.drewN ?_ _
      | with_reducible refine But.drew ?_
      | with_reducible refine But.alloc ?_ _
    all_goals (dsimp only; omega)
set_option maxRecDepth 100000 in
set_option maxHeartbeats 4000000 in
theorem step_4_1 (b n pc : Int) (r : R4) (w : World) (hp : 0 ≤ pc ∧ pc < 1000000) (hn : In32 n) :
    Calls Tryd.prog 63 #[insV ⟨4, 1, b, n⟩, .int .i64 pc, regV r] w (StepG (stepP ⟨4, 1, b, n⟩ pc r) w) := by
  obtain ⟨p0, p1⟩ := hp
  obtain ⟨n0, n1⟩ := hn
  obtain ⟨ra, rb, rc, rd⟩ := r
  go_enter Tryd.func63, Tryd.ntmps63
  go_wp2
  go_quiet (fail)
  go_wp2
  go_region
  all_goals go_wp2
  all_goals refine bodyPost_ret (v := .tuple #[.int .i64 n, .agg #[.int .i32 ra, .int .i32 rb, .int .i32 rc, .int .i32 rd], .agg #[.int .i64 0, .int .i64 0, .int .i32 0]]) (by simp [results, Tryd.results63, go_sem]) rfl ⟨?_, ?_⟩
  · simp [stepP, Eff.zero]
  · refine But.below (X := Nob) ?_ (Nat.le_refl _) fun _ _ q => q.elim
    repeat' first
      | with_reducible exact But.refl _ _
      | with_reducible refine But.set ?_ _ _ (.inr ?_)
      | with_reducible refine But.drewN ?_ _
      | with_reducible refine But.drew ?_
      | with_reducible refine But.alloc ?_ _
    all_goals (dsimp only; omega)
set_option maxRecDepth 100000 in
set_option maxHeartbeats 4000000 in
theorem step_4_2 (b n pc : Int) (r : R4) (w : World) (hp : 0 ≤ pc ∧ pc < 1000000) (hn : In32 n) :
    Calls Tryd.prog 63 #[insV ⟨4, 2, b, n⟩, .int .i64 pc, regV r] w (StepG (stepP ⟨4, 2, b, n⟩ pc r) w) := by
  obtain ⟨p0, p1⟩ := hp
  obtain ⟨n0, n1⟩ := hn
  obtain ⟨ra, rb, rc, rd⟩ := r
  go_enter Tryd.func63, Tryd.ntmps63
  go_wp2
  go_quiet (fail)
  go_wp2
  go_region
  all_goals go_wp2
  all_goals refine bodyPost_ret (v := .tuple #[.int .i64 n, .agg #[.int .i32 ra, .int .i32 rb, .int .i32 rc, .int .i32 rd], .agg #[.int .i64 0, .int .i64 0, .int .i32 0]]) (by simp [results, Tryd.results63, go_sem]) rfl ⟨?_, ?_⟩
  · simp [stepP, Eff.zero]
  · refine But.below (X := Nob) ?_ (Nat.le_refl _) fun _ _ q => q.elim
    repeat' first
      | with_reducible exact But.refl _ _
      | with_reducible refine But.set ?_ _ _ (.inr ?_)
      | with_reducible refine But.drewN ?_ _
      | with_reducible refine But.drew ?_
      | with_reducible refine But.alloc ?_ _
    all_goals (dsimp only; omega)
set_option maxRecDepth 100000 in
set_option maxHeartbeats 4000000 in
theorem step_4_3 (b n pc : Int) (r : R4) (w : World) (hp : 0 ≤ pc ∧ pc < 1000000) (hn : In32 n) :
    Calls Tryd.prog 63 #[insV ⟨4, 3, b, n⟩, .int .i64 pc, regV r] w (StepG (stepP ⟨4, 3, b, n⟩ pc r) w) := by
  obtain ⟨p0, p1⟩ := hp
  obtain ⟨n0, n1⟩ := hn
  obtain ⟨ra, rb, rc, rd⟩ := r
  go_enter Tryd.func63, Tryd.ntmps63
  go_wp2
  go_quiet (fail)
  go_wp2
  go_region
  all_goals go_wp2
  all_goals refine bodyPost_ret (v := .tuple #[.int .i64 n, .agg #[.int .i32 ra, .int .i32 rb, .int .i32 rc, .int .i32 rd], .agg #[.int .i64 0, .int .i64 0, .int .i32 0]]) (by simp [results, Tryd.results63, go_sem]) rfl ⟨?_, ?_⟩
  · simp [stepP, Eff.zero]
  · refine But.below (X := Nob) ?_ (Nat.le_refl _) fun _ _ q => q.elim
    repeat' first
      | with_reducible exact But.refl _ _
      | with_reducible refine But.set ?_ _ _ (.inr ?_)
      | with_reducible refine But.drewN ?_ _
      | with_reducible refine But.drew ?_
      | with_reducible refine But.alloc ?_ _
    all_goals (dsimp only; omega)
set_option maxRecDepth 100000 in
set_option maxHeartbeats 4000000 in
theorem step_5_0_z (b n pc : Int) (r : R4) (w : World) (hp : 0 ≤ pc ∧ pc < 1000000) (hn : In32 n) (h0 : r.get 0 = 0) :
    Calls Tryd.prog 63 #[insV ⟨5, 0, b, n⟩, .int .i64 pc, regV r] w (StepG (stepP ⟨5, 0, b, n⟩ pc r) w) := by
  obtain ⟨p0, p1⟩ := hp
  obtain ⟨n0, n1⟩ := hn
  obtain ⟨ra, rb, rc, rd⟩ := r
  have h0 : ra = 0 := h0
  have t0 : (ra != 0) = false := by simp [h0]
  go_enter Tryd.func63, Tryd.ntmps63
  go_wp2
  go_quiet (fail)
  go_wp2
  go_region
  all_goals go_wp2
  all_goals refine bodyPost_ret (v := .tuple #[.int .i64 (pc + 1), .agg #[.int .i32 0, .int .i32 rb, .int .i32 rc, .int .i32 rd], .agg #[.int .i64 0, .int .i64 0, .int .i32 0]]) (by simp [results, Tryd.results63, go_sem]) rfl ⟨?_, ?_⟩
  · simp [stepP, R4.get, Eff.zero, h0]
  · refine But.below (X := Nob) ?_ (Nat.le_refl _) fun _ _ q => q.elim
    repeat' first
      | with_reducible exact But.refl _ _
      | with_reducible refine But.set ?_ _ _ (.inr ?_)
      | with_reducible refine But.drewN ?_ _
      | with_reducible refine But.drew ?_
      | with_reducible refine But.alloc ?_ _
    all_goals (dsimp only; omega)
set_option maxRecDepth 100000 in
set_option maxHeartbeats 4000000 in
theorem step_5_0_n (b n pc : Int) (r : R4) (w : World) (hp : 0 ≤ pc ∧ pc < 1000000) (hn : In32 n) (h0 : r.get 0 ≠ 0) :
    Calls Tryd.prog 63 #[insV ⟨5, 0, b, n⟩, .int .i64 pc, regV r] w (StepG (stepP ⟨5, 0, b, n⟩ pc r) w) := by
  obtain ⟨p0, p1⟩ := hp
  obtain ⟨n0, n1⟩ := hn
  obtain ⟨ra, rb, rc, rd⟩ := r
  have h0 : ra ≠ 0 := h0
  have t0 : (ra != 0) = true := by simpa using h0
  go_enter Tryd.func63, Tryd.ntmps63
  go_wp2
  go_quiet (fail)
  go_wp2
  go_region
  all_goals go_wp2
  all_goals refine bodyPost_ret (v := .tuple #[.int .i64 n, .agg #[.int .i32 ra, .int .i32 rb, .int .i32 rc, .int .i32 rd], .agg #[.int .i64 0, .int .i64 0, .int .i32 0]]) (by simp [results, Tryd.results63, go_sem]) rfl ⟨?_, ?_⟩
  · simp [stepP, R4.get, Eff.zero, h0]
  · refine But.below (X := Nob) ?_ (Nat.le_refl _) fun _ _ q => q.elim
    repeat' first
      | with_reducible exact But.refl _ _
      | with_reducible refine But.set ?_ _ _ (.inr ?_)
      | with_reducible refine But.drewN ?_ _
      | with_reducible refine But.drew ?_
      | with_reducible refine But.alloc ?_ _
    all_goals (dsimp only; omega)
set_option maxRecDepth 100000 in
set_option maxHeartbeats 4000000 in
theorem step_5_1_z (b n pc : Int) (r : R4) (w : World) (hp : 0 ≤ pc ∧ pc < 1000000) (hn : In32 n) (h0 : r.get 1 = 0) :
    Calls Tryd.prog 63 #[insV ⟨5, 1, b, n⟩, .int .i64 pc, regV r] w (StepG (stepP ⟨5, 1, b, n⟩ pc r) w) := by
  obtain ⟨p0, p1⟩ := hp
  obtain ⟨n0, n1⟩ := hn
  obtain ⟨ra, rb, rc, rd⟩ := r
  have h0 : rb = 0 := h0
  have t0 : (rb != 0) = false := by simp [h0]
  go_enter Tryd.func63, Tryd.ntmps63
  go_wp2
  go_quiet (fail)
  go_wp2
  go_region
  all_goals go_wp2
  all_goals refine bodyPost_ret (v := .tuple #[.int .i64 (pc + 1), .agg #[.int .i32 ra, .int .i32 0, .int .i32 rc, .int .i32 rd], .agg #[.int .i64 0, .int .i64 0, .int .i32 0]]) (by simp [results, Tryd.results63, go_sem]) rfl ⟨?_, ?_⟩
  · simp [stepP, R4.get, Eff.zero, h0]
  · refine But.below (X := Nob) ?_ (Nat.le_refl _) fun _ _ q => q.elim
    repeat' first
      | with_reducible exact But.refl _ _
      | with_reducible refine But.set ?_ _ _ (.inr ?_)
      | with_reducible refine But.drewN ?_ _
      | with_reducible refine But.drew ?_
      | with_reducible refine But.alloc ?_ _
    all_goals (dsimp only; omega)
set_option maxRecDepth 100000 in
set_option maxHeartbeats 4000000 in
theorem step_5_1_n (b n pc : Int) (r : R4) (w : World) (hp : 0 ≤ pc ∧ pc < 1000000) (hn : In32 n) (h0 : r.get 1 ≠ 0) :
    Calls Tryd.prog 63 #[insV ⟨5, 1, b, n⟩, .int .i64 pc, regV r] w (StepG (stepP ⟨5, 1, b, n⟩ pc r) w) := by
  obtain ⟨p0, p1⟩ := hp
  obtain ⟨n0, n1⟩ := hn
  obtain ⟨ra, rb, rc, rd⟩ := r
  have h0 : rb ≠ 0 := h0
  have t0 : (rb != 0) = true := by simpa using h0
  go_enter Tryd.func63, Tryd.ntmps63
  go_wp2
  go_quiet (fail)
  go_wp2
  go_region
  all_goals go_wp2
  all_goals refine bodyPost_ret (v := .tuple #[.int .i64 n, .agg #[.int .i32 ra, .int .i32 rb, .int .i32 rc, .int .i32 rd], .agg #[.int .i64 0, .int .i64 0, .int .i32 0]]) (by simp [results, Tryd.results63, go_sem]) rfl ⟨?_, ?_⟩
  · simp [stepP, R4.get, Eff.zero, h0]
  · refine But.below (X := Nob) ?_ (Nat.le_refl _) fun _ _ q => q.elim
    repeat' first
      | with_reducible exact But.refl _ _
      | with_reducible refine But.set ?_ _ _ (.inr ?_)
      | with_reducible refine But.drewN ?_ _
      | with_reducible refine But.drew ?_
      | with_reducible refine But.alloc ?_ _
    all_goals (dsimp only; omega)
set_option maxRecDepth 100000 in
set_option maxHeartbeats 4000000 in
theorem step_5_2_z (b n pc : Int) (r : R4) (w : World) (hp : 0 ≤ pc ∧ pc < 1000000) (hn : In32 n) (h0 : r.get 2 = 0) :
    Calls Tryd.prog 63 #[insV ⟨5, 2, b, n⟩, .int .i64 pc, regV r] w (StepG (stepP ⟨5, 2, b, n⟩ pc r) w) := by
  obtain ⟨p0, p1⟩ := hp
  obtain ⟨n0, n1⟩ := hn
  obtain ⟨ra, rb, rc, rd⟩ := r
  have h0 : rc = 0 := h0
  have t0 : (rc != 0) = false := by simp [h0]
  go_enter Tryd.func63, Tryd.ntmps63
  go_wp2
  go_quiet (fail)
  go_wp2
  go_region
  all_goals go_wp2
  all_goals refine bodyPost_ret (v := .tuple #[.int .i64 (pc + 1), .agg #[.int .i32 ra, .int .i32 rb, .int .i32 0, .int .i32 rd], .agg #[.int .i64 0, .int .i64 0, .int .i32 0]]) (by simp [results, Tryd.results63, go_sem]) rfl ⟨?_, ?_⟩
  · simp [stepP, R4.get, Eff.zero, h0]
  · refine But.below (X := Nob) ?_ (Nat.le_refl _) fun _ _ q => q.elim
    repeat' first
      | with_reducible exact But.refl _ _
      | with_reducible refine But.set ?_ _ _ (.inr ?_)
      | with_reducible refine But.drewN ?_ _
      | with_reducible refine But.drew ?_
      | with_reducible refine But.alloc ?_ _
    all_goals (dsimp only; omega)
set_option maxRecDepth 100000 in
set_option maxHeartbeats 4000000 in
theorem step_5_2_n (b n pc : Int) (r : R4) (w : World) (hp : 0 ≤ pc ∧ pc < 1000000) (hn : In32 n) (h0 : r.get 2 ≠ 0) :
    Calls Tryd.prog 63 #[insV ⟨5, 2, b, n⟩, .int .i64 pc, regV r] w (StepG (stepP ⟨5, 2, b, n⟩ pc r) w) := by
  obtain ⟨p0, p1⟩ := hp
  obtain ⟨n0, n1⟩ := hn
  obtain ⟨ra, rb, rc, rd⟩ := r
  have h0 : rc ≠ 0 := h0
  have t0 : (rc != 0) = true := by simpa using h0
  go_enter Tryd.func63, Tryd.ntmps63
  go_wp2
  go_quiet (fail)
  go_wp2
  go_region
  all_goals go_wp2
  all_goals refine bodyPost_ret (v := .tuple #[.int .i64 n, .agg #[.int .i32 ra, .int .i32 rb, .int .i32 rc, .int .i32 rd], .agg #[.int .i64 0, .int .i64 0, .int .i32 0]]) (by simp [results, Tryd.results63, go_sem]) rfl ⟨?_, ?_⟩
  · simp [stepP, R4.get, Eff.zero, h0]
  · refine But.below (X := Nob) ?_ (Nat.le_refl _) fun _ _ q => q.elim
    repeat' first
      | with_reducible exact But.refl _ _
      | with_reducible refine But.set ?_ _ _ (.inr ?_)
      | with_reducible refine But.drewN ?_ _
      | with_reducible refine But.drew ?_
      | with_reducible refine But.alloc ?_ _
    all_goals (dsimp only; omega)
set_option maxRecDepth 100000 in
set_option maxHeartbeats 4000000 in
theorem step_5_3_z (b n pc : Int) (r : R4) (w : World) (hp : 0 ≤ pc ∧ pc < 1000000) (hn : In32 n) (h0 : r.get 3 = 0) :
    Calls Tryd.prog 63 #[insV ⟨5, 3, b, n⟩, .int .i64 pc, regV r] w (StepG (stepP ⟨5, 3, b, n⟩ pc r) w) := by
  obtain ⟨p0, p1⟩ := hp
  obtain ⟨n0, n1⟩ := hn
  obtain ⟨ra, rb, rc, rd⟩ := r
  have h0 : rd = 0 := h0
  have t0 : (rd != 0) = false := by simp [h0]
  go_enter Tryd.func63, Tryd.ntmps63
  go_wp2
  go_quiet (fail)
  go_wp2
  go_region
  all_goals go_wp2
  all_goals refine bodyPost_ret (v := .tuple #[.int .i64 (pc + 1), .agg #[.int .i32 ra, .int .i32 rb, .int .i32 rc, .int .i32 0], .agg #[.int .i64 0, .int .i64 0, .int .i32 0]]) (by simp [results, Tryd.results63, go_sem]) rfl ⟨?_, ?_⟩
  · simp [stepP, R4.get, Eff.zero, h0]
  · refine But.below (X := Nob) ?_ (Nat.le_refl _) fun _ _ q => q.elim
    repeat' first
      | with_reducible exact But.refl _ _
      | with_reducible refine But.set ?_ _ _ (.inr ?_)
      | with_reducible refine But.drewN ?_ _
      | with_reducible refine But.drew ?_
      | with_reducible refine But.alloc ?_ _
    all_goals (dsimp only; omega)
set_option maxRecDepth 100000 in
set_option maxHeartbeats 4000000 in
theorem step_5_3_n (b n pc : Int) (r : R4) (w : World) (hp : 0 ≤ pc ∧ pc < 1000000) (hn : In32 n) (h0 : r.get 3 ≠ 0) :
    Calls Tryd.prog 63 #[insV ⟨5, 3, b, n⟩, .int .i64 pc, regV r] w (StepG (stepP ⟨5, 3, b, n⟩ pc r) w) := by
  obtain ⟨p0, p1⟩ := hp
  obtain ⟨n0, n1⟩ := hn
  obtain ⟨ra, rb, rc, rd⟩ := r
  have h0 : rd ≠ 0 := h0
  have t0 : (rd != 0) = true := by simpa using h0
  go_enter Tryd.func63, Tryd.ntmps63
  go_wp2
  go_quiet (fail)
  go_wp2
  go_region
  all_goals go_wp2
  all_goals refine bodyPost_ret (v := .tuple #[.int .i64 n, .agg #[.int .i32 ra, .int .i32 rb, .int .i32 rc, .int .i32 rd], .agg #[.int .i64 0, .int .i64 0, .int .i32 0]]) (by simp [results, Tryd.results63, go_sem]) rfl ⟨?_, ?_⟩
  · simp [stepP, R4.get, Eff.zero, h0]
  · refine But.below (X := Nob) ?_ (Nat.le_refl _) fun _ _ q => q.elim
    repeat' first
      | with_reducible exact But.refl _ _
      | with_reducible refine But.set ?_ _ _ (.inr ?_)
      | with_reducible refine But.drewN ?_ _
      | with_reducible refine But.drew ?_
      | with_reducible refine But.alloc ?_ _
    all_goals (dsimp only; omega)


set_option maxRecDepth 100000 in
set_option maxHeartbeats 4000000 in
theorem step_6_0 (b n pc : Int) (r : R4) (w : World) (hp : 0 ≤ pc ∧ pc < 1000000) (hn : In32 n) :
    Calls Tryd.prog 63 #[insV ⟨6, 0, b, n⟩, .int .i64 pc, regV r] w (StepG (stepP ⟨6, 0, b, n⟩ pc r) w) := by
  obtain ⟨p0, p1⟩ := hp
  obtain ⟨n0, n1⟩ := hn
  obtain ⟨ra, rb, rc, rd⟩ := r
  go_enter Tryd.func63, Tryd.ntmps63
  go_wp2
  go_quiet (fail)
  go_wp2
  go_region
  all_goals go_wp2
  all_goals refine bodyPost_ret (v := .tuple #[.int .i64 (pc + 1), .agg #[.int .i32 ra, .int .i32 rb, .int .i32 rc, .int .i32 rd], .agg #[.int .i64 6, .int .i64 0, .int .i32 0]]) (by simp [results, Tryd.results63, go_sem]) rfl ⟨?_, ?_⟩
  · simp [stepP]
  · refine But.below (X := Nob) ?_ (Nat.le_refl _) fun _ _ q => q.elim
    repeat' first
      | with_reducible exact But.refl _ _
      | with_reducible refine But.set ?_ _ _ (.inr ?_)
      | with_reducible refine But.drewN ?_ _
      | with_reducible refine But.drew ?_
      | with_reducible refine But.alloc ?_ _
    all_goals (dsimp only; omega)
set_option maxRecDepth 100000 in
set_option maxHeartbeats 4000000 in
theorem step_6_1 (b n pc : Int) (r : R4) (w : World) (hp : 0 ≤ pc ∧ pc < 1000000) (hn : In32 n) :
    Calls Tryd.prog 63 #[insV ⟨6, 1, b, n⟩, .int .i64 pc, regV r] w (StepG (stepP ⟨6, 1, b, n⟩ pc r) w) := by
  obtain ⟨p0, p1⟩ := hp
  obtain ⟨n0, n1⟩ := hn
  obtain ⟨ra, rb, rc, rd⟩ := r
  go_enter Tryd.func63, Tryd.ntmps63
  go_wp2
  go_quiet (fail)
  go_wp2
  go_region
  all_goals go_wp2
  all_goals refine bodyPost_ret (v := .tuple #[.int .i64 (pc + 1), .agg #[.int .i32 ra, .int .i32 rb, .int .i32 rc, .int .i32 rd], .agg #[.int .i64 6, .int .i64 0, .int .i32 0]]) (by simp [results, Tryd.results63, go_sem]) rfl ⟨?_, ?_⟩
  · simp [stepP]
  · refine But.below (X := Nob) ?_ (Nat.le_refl _) fun _ _ q => q.elim
    repeat' first
      | with_reducible exact But.refl _ _
      | with_reducible refine But.set ?_ _ _ (.inr ?_)
      | with_reducible refine But.drewN ?_ _
      | with_reducible refine But.drew ?_
      | with_reducible refine But.alloc ?_ _
    all_goals (dsimp only; omega)
set_option maxRecDepth 100000 in
set_option maxHeartbeats 4000000 in
theorem step_6_2 (b n pc : Int) (r : R4) (w : World) (hp : 0 ≤ pc ∧ pc < 1000000) (hn : In32 n) :
    Calls Tryd.prog 63 #[insV ⟨6, 2, b, n⟩, .int .i64 pc, regV r] w (StepG (stepP ⟨6, 2, b, n⟩ pc r) w) := by
  obtain ⟨p0, p1⟩ := hp
  obtain ⟨n0, n1⟩ := hn
  obtain ⟨ra, rb, rc, rd⟩ := r
  go_enter Tryd.func63, Tryd.ntmps63
  go_wp2
  go_quiet (fail)
  go_wp2
  go_region
  all_goals go_wp2
  all_goals refine bodyPost_ret (v := .tuple #[.int .i64 (pc + 1), .agg #[.int .i32 ra, .int .i32 rb, .int .i32 rc, .int .i32 rd], .agg #[.int .i64 6, .int .i64 0, .int .i32 0]]) (by simp [results, Tryd.results63, go_sem]) rfl ⟨?_, ?_⟩
  · simp [stepP]
  · refine But.below (X := Nob) ?_ (Nat.le_refl _) fun _ _ q => q.elim
    repeat' first
      | with_reducible exact But.refl _ _
      | with_reducible refine But.set ?_ _ _ (.inr ?_)
      | with_reducible refine But.drewN ?_ _
      | with_reducible refine But.drew ?_
      | with_reducible refine But.alloc ?_ _
    all_goals (dsimp only; omega)
set_option maxRecDepth 100000 in
set_option maxHeartbeats 4000000 in
theorem step_6_3 (b n pc : Int) (r : R4) (w : World) (hp : 0 ≤ pc ∧ pc < 1000000) (hn : In32 n) :
    Calls Tryd.prog 63 #[insV ⟨6, 3, b, n⟩, .int .i64 pc, regV r] w (StepG (stepP ⟨6, 3, b, n⟩ pc r) w) := by
  obtain ⟨p0, p1⟩ := hp
  obtain ⟨n0, n1⟩ := hn
  obtain ⟨ra, rb, rc, rd⟩ := r
  go_enter Tryd.func63, Tryd.ntmps63
  go_wp2
  go_quiet (fail)
  go_wp2
  go_region
  all_goals go_wp2
  all_goals refine bodyPost_ret (v := .tuple #[.int .i64 (pc + 1), .agg #[.int .i32 ra, .int .i32 rb, .int .i32 rc, .int .i32 rd], .agg #[.int .i64 6, .int .i64 0, .int .i32 0]]) (by simp [results, Tryd.results63, go_sem]) rfl ⟨?_, ?_⟩
  · simp [stepP]
  · refine But.below (X := Nob) ?_ (Nat.le_refl _) fun _ _ q => q.elim
    repeat' first
      | with_reducible exact But.refl _ _
      | with_reducible refine But.set ?_ _ _ (.inr ?_)
      | with_reducible refine But.drewN ?_ _
      | with_reducible refine But.drew ?_
      | with_reducible refine But.alloc ?_ _
    all_goals (dsimp only; omega)
set_option maxRecDepth 100000 in
set_option maxHeartbeats 4000000 in
theorem step_7_0 (b n pc : Int) (r : R4) (w : World) (hp : 0 ≤ pc ∧ pc < 1000000) (hn : In32 n) :
    Calls Tryd.prog 63 #[insV ⟨7, 0, b, n⟩, .int .i64 pc, regV r] w (StepG (stepP ⟨7, 0, b, n⟩ pc r) w) := by
  obtain ⟨p0, p1⟩ := hp
  obtain ⟨n0, n1⟩ := hn
  obtain ⟨ra, rb, rc, rd⟩ := r
  go_enter Tryd.func63, Tryd.ntmps63
  go_wp2
  go_quiet (fail)
  go_wp2
  go_region
  all_goals go_wp2
  all_goals refine bodyPost_ret (v := .tuple #[.int .i64 (pc + 1), .agg #[.int .i32 ra, .int .i32 rb, .int .i32 rc, .int .i32 rd], .agg #[.int .i64 7, .int .i64 0, .int .i32 n]]) (by simp [results, Tryd.results63, go_sem]) rfl ⟨?_, ?_⟩
  · simp [stepP]
  · refine But.below (X := Nob) ?_ (Nat.le_refl _) fun _ _ q => q.elim
    repeat' first
      | with_reducible exact But.refl _ _
      | with_reducible refine But.set ?_ _ _ (.inr ?_)
      | with_reducible refine But.drewN ?_ _
      | with_reducible refine But.drew ?_
      | with_reducible refine But.alloc ?_ _
    all_goals (dsimp only; omega)
set_option maxRecDepth 100000 in
set_option maxHeartbeats 4000000 in
theorem step_7_1 (b n pc : Int) (r : R4) (w : World) (hp : 0 ≤ pc ∧ pc < 1000000) (hn : In32 n) :
    Calls Tryd.prog 63 #[insV ⟨7, 1, b, n⟩, .int .i64 pc, regV r] w (StepG (stepP ⟨7, 1, b, n⟩ pc r) w) := by
  obtain ⟨p0, p1⟩ := hp
  obtain ⟨n0, n1⟩ := hn
  obtain ⟨ra, rb, rc, rd⟩ := r
  go_enter Tryd.func63, Tryd.ntmps63
  go_wp2
  go_quiet (fail)
  go_wp2
  go_region
  all_goals go_wp2
  all_goals refine bodyPost_ret (v := .tuple #[.int .i64 (pc + 1), .agg #[.int .i32 ra, .int .i32 rb, .int .i32 rc, .int .i32 rd], .agg #[.int .i64 7, .int .i64 1, .int .i32 n]]) (by simp [results, Tryd.results63, go_sem]) rfl ⟨?_, ?_⟩
  · simp [stepP]
  · refine But.below (X := Nob) ?_ (Nat.le_refl _) fun _ _ q => q.elim
    repeat' first
      | with_reducible exact But.refl _ _
      | with_reducible refine But.set ?_ _ _ (.inr ?_)
      | with_reducible refine But.drewN ?_ _
      | with_reducible refine But.drew ?_
      | with_reducible refine But.alloc ?_ _
    all_goals (dsimp only; omega)
set_option maxRecDepth 100000 in
set_option maxHeartbeats 4000000 in
theorem step_7_2 (b n pc : Int) (r : R4) (w : World) (hp : 0 ≤ pc ∧ pc < 1000000) (hn : In32 n) :
    Calls Tryd.prog 63 #[insV ⟨7, 2, b, n⟩, .int .i64 pc, regV r] w (StepG (stepP ⟨7, 2, b, n⟩ pc r) w) := by
  obtain ⟨p0, p1⟩ := hp
  obtain ⟨n0, n1⟩ := hn
  obtain ⟨ra, rb, rc, rd⟩ := r
  go_enter Tryd.func63, Tryd.ntmps63
  go_wp2
  go_quiet (fail)
  go_wp2
  go_region
  all_goals go_wp2
  all_goals refine bodyPost_ret (v := .tuple #[.int .i64 (pc + 1), .agg #[.int .i32 ra, .int .i32 rb, .int .i32 rc, .int .i32 rd], .agg #[.int .i64 7, .int .i64 2, .int .i32 n]]) (by simp [results, Tryd.results63, go_sem]) rfl ⟨?_, ?_⟩
  · simp [stepP]
  · refine But.below (X := Nob) ?_ (Nat.le_refl _) fun _ _ q => q.elim
    repeat' first
      | with_reducible exact But.refl _ _
      | with_reducible refine But.set ?_ _ _ (.inr ?_)
      | with_reducible refine But.drewN ?_ _
      | with_reducible refine But.drew ?_
      | with_reducible refine But.alloc ?_ _
    all_goals (dsimp only; omega)
set_option maxRecDepth 100000 in
set_option maxHeartbeats 4000000 in
theorem step_7_3 (b n pc : Int) (r : R4) (w : World) (hp : 0 ≤ pc ∧ pc < 1000000) (hn : In32 n) :
    Calls Tryd.prog 63 #[insV ⟨7, 3, b, n⟩, .int .i64 pc, regV r] w (StepG (stepP ⟨7, 3, b, n⟩ pc r) w) := by
  obtain ⟨p0, p1⟩ := hp
  obtain ⟨n0, n1⟩ := hn
  obtain ⟨ra, rb, rc, rd⟩ := r
  go_enter Tryd.func63, Tryd.ntmps63
  go_wp2
  go_quiet (fail)
  go_wp2
  go_region
  all_goals go_wp2
  all_goals refine bodyPost_ret (v := .tuple #[.int .i64 (pc + 1), .agg #[.int .i32 ra, .int .i32 rb, .int .i32 rc, .int .i32 rd], .agg #[.int .i64 7, .int .i64 3, .int .i32 n]]) (by simp [results, Tryd.results63, go_sem]) rfl ⟨?_, ?_⟩
  · simp [stepP]
  · refine But.below (X := Nob) ?_ (Nat.le_refl _) fun _ _ q => q.elim
    repeat' first
      | with_reducible exact But.refl _ _
      | with_reducible refine But.set ?_ _ _ (.inr ?_)
      | with_reducible refine But.drewN ?_ _
      | with_reducible refine But.drew ?_
      | with_reducible refine But.alloc ?_ _
    all_goals (dsimp only; omega)
set_option maxRecDepth 100000 in
set_option maxHeartbeats 4000000 in
theorem step_9_0 (b n pc : Int) (r : R4) (w : World) (hp : 0 ≤ pc ∧ pc < 1000000) (hn : In32 n) :
    Calls Tryd.prog 63 #[insV ⟨9, 0, b, n⟩, .int .i64 pc, regV r] w (StepG (stepP ⟨9, 0, b, n⟩ pc r) w) := by
  obtain ⟨p0, p1⟩ := hp
  obtain ⟨n0, n1⟩ := hn
  obtain ⟨ra, rb, rc, rd⟩ := r
  go_enter Tryd.func63, Tryd.ntmps63
  go_wp2
  go_quiet (fail)
  go_wp2
  go_region
  all_goals go_wp2
  all_goals refine bodyPost_ret (v := .tuple #[.int .i64 (pc + 1), .agg #[.int .i32 ra, .int .i32 rb, .int .i32 rc, .int .i32 rd], .agg #[.int .i64 9, .int .i64 0, .int .i32 n]]) (by simp [results, Tryd.results63, go_sem]) rfl ⟨?_, ?_⟩
  · simp [stepP]
  · refine But.below (X := Nob) ?_ (Nat.le_refl _) fun _ _ q => q.elim
    repeat' first
      | with_reducible exact But.refl _ _
      | with_reducible refine But.set ?_ _ _ (.inr ?_)
      | with_reducible refine But.drewN ?_ _
      | with_reducible refine But.drew ?_
      | with_reducible refine But.alloc ?_ _
    all_goals (dsimp only; omega)
set_option maxRecDepth 100000 in
set_option maxHeartbeats 4000000 in
theorem step_9_1 (b n pc : Int) (r : R4) (w : World) (hp : 0 ≤ pc ∧ pc < 1000000) (hn : In32 n) :
    Calls Tryd.prog 63 #[insV ⟨9, 1, b, n⟩, .int .i64 pc, regV r] w (StepG (stepP ⟨9, 1, b, n⟩ pc r) w) := by
  obtain ⟨p0, p1⟩ := hp
  obtain ⟨n0, n1⟩ := hn
  obtain ⟨ra, rb, rc, rd⟩ := r
  go_enter Tryd.func63, Tryd.ntmps63
  go_wp2
  go_quiet (fail)
  go_wp2
  go_region
  all_goals go_wp2
  all_goals refine bodyPost_ret (v := .tuple #[.int .i64 (pc + 1), .agg #[.int .i32 ra, .int .i32 rb, .int .i32 rc, .int .i32 rd], .agg #[.int .i64 9, .int .i64 1, .int .i32 n]]) (by simp [results, Tryd.results63, go_sem]) rfl ⟨?_, ?_⟩
  · simp [stepP]
  · refine But.below (X := Nob) ?_ (Nat.le_refl _) fun _ _ q => q.elim
    repeat' first
      | with_reducible exact But.refl _ _
      | with_reducible refine But.set ?_ _ _ (.inr ?_)
      | with_reducible refine But.drewN ?_ _
      | with_reducible refine But.drew ?_
      | with_reducible refine But.alloc ?_ _
    all_goals (dsimp only; omega)
set_option maxRecDepth 100000 in
set_option maxHeartbeats 4000000 in
theorem step_9_2 (b n pc : Int) (r : R4) (w : World) (hp : 0 ≤ pc ∧ pc < 1000000) (hn : In32 n) :
    Calls Tryd.prog 63 #[insV ⟨9, 2, b, n⟩, .int .i64 pc, regV r] w (StepG (stepP ⟨9, 2, b, n⟩ pc r) w) := by
  obtain ⟨p0, p1⟩ := hp
  obtain ⟨n0, n1⟩ := hn
  obtain ⟨ra, rb, rc, rd⟩ := r
  go_enter Tryd.func63, Tryd.ntmps63
  go_wp2
  go_quiet (fail)
  go_wp2
  go_region
  all_goals go_wp2
  all_goals refine bodyPost_ret (v := .tuple #[.int .i64 (pc + 1), .agg #[.int .i32 ra, .int .i32 rb, .int .i32 rc, .int .i32 rd], .agg #[.int .i64 9, .int .i64 2, .int .i32 n]]) (by simp [results, Tryd.results63, go_sem]) rfl ⟨?_, ?_⟩
  · simp [stepP]
  · refine But.below (X := Nob) ?_ (Nat.le_refl _) fun _ _ q => q.elim
    repeat' first
      | with_reducible exact But.refl _ _
      | with_reducible refine But.set ?_ _ _ (.inr ?_)
      | with_reducible refine But.drewN ?_ _
      | with_reducible refine But.drew ?_
      | with_reducible refine But.alloc ?_ _
    all_goals (dsimp only; omega)
set_option maxRecDepth 100000 in
set_option maxHeartbeats 4000000 in
theorem step_9_3 (b n pc : Int) (r : R4) (w : World) (hp : 0 ≤ pc ∧ pc < 1000000) (hn : In32 n) :
    Calls Tryd.prog 63 #[insV ⟨9, 3, b, n⟩, .int .i64 pc, regV r] w (StepG (stepP ⟨9, 3, b, n⟩ pc r) w) := by
  obtain ⟨p0, p1⟩ := hp
  obtain ⟨n0, n1⟩ := hn
  obtain ⟨ra, rb, rc, rd⟩ := r
  go_enter Tryd.func63, Tryd.ntmps63
  go_wp2
  go_quiet (fail)
  go_wp2
  go_region
  all_goals go_wp2
  all_goals refine bodyPost_ret (v := .tuple #[.int .i64 (pc + 1), .agg #[.int .i32 ra, .int .i32 rb, .int .i32 rc, .int .i32 rd], .agg #[.int .i64 9, .int .i64 3, .int .i32 n]]) (by simp [results, Tryd.results63, go_sem]) rfl ⟨?_, ?_⟩
  · simp [stepP]
  · refine But.below (X := Nob) ?_ (Nat.le_refl _) fun _ _ q => q.elim
    repeat' first
      | with_reducible exact But.refl _ _
      | with_reducible refine But.set ?_ _ _ (.inr ?_)
      | with_reducible refine But.drewN ?_ _
      | with_reducible refine But.drew ?_
      | with_reducible refine But.alloc ?_ _
    all_goals (dsimp only; omega)
end Go.Proofs.YtilaalleiiakoaaDoor
