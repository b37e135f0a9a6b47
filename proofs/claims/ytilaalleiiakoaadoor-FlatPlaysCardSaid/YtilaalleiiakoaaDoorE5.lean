/- exec's step, at the instructions 1, 2. -/
import Derived.Test.YtilaalleiiakoaaDoorE0
namespace Go.Proofs.YtilaalleiiakoaaDoor
open Go.RowKit

set_option maxRecDepth 100000 in
set_option maxHeartbeats 4000000 in
theorem step_1_0 (b n pc : Int) (r : R4) (w : World) (hp : 0 ≤ pc ∧ pc < 1000000) (hn : In32 n) :
    Calls Tryd.prog 63 #[insV ⟨1, 0, b, n⟩, .int .i64 pc, regV r] w (StepG (stepP ⟨1, 0, b, n⟩ pc r) w) := by
  obtain ⟨p0, p1⟩ := hp
  obtain ⟨n0, n1⟩ := hn
  obtain ⟨ra, rb, rc, rd⟩ := r
  go_enter Tryd.func63, Tryd.ntmps63
  go_wp2
  go_quiet (fail)
  go_wp2
  go_region
  all_goals go_wp2
  all_goals refine bodyPost_ret (v := .tuple #[.int .i64 (pc + 1), .agg #[.int .i32 n, .int .i32 rb, .int .i32 rc, .int .i32 rd], .agg #[.int .i64 0, .int .i64 0, .int .i32 0]]) (by simp [results, Tryd.results63, go_sem]) rfl ⟨?_, ?_⟩
  · simp [stepP, R4.put, Eff.zero]
  · refine But.below (X := Nob) ?_ (Nat.le_refl _) fun _ _ q => q.elim
    repeat' first
      | with_reducible exact But.refl _ _
      | with_reducible refine But.set ?_ _ _ (.inr ?_)
      | with_reducible refine But.drewN ?_ _
      | with_reducible refine But.drew ?_
      | with_reducible refine But.alloc ?_ _
    all_goals (dsimp only; omega)
set_option maxRecDepth 100000 in
set_option maxHeartbeats 4000000 in
theorem step_1_1 (b n pc : Int) (r : R4) (w : World) (hp : 0 ≤ pc ∧ pc < 1000000) (hn : In32 n) :
    Calls Tryd.prog 63 #[insV ⟨1, 1, b, n⟩, .int .i64 pc, regV r] w (StepG (stepP ⟨1, 1, b, n⟩ pc r) w) := by
  obtain ⟨p0, p1⟩ := hp
  obtain ⟨n0, n1⟩ := hn
  obtain ⟨ra, rb, rc, rd⟩ := r
  go_enter Tryd.func63, Tryd.ntmps63
  go_wp2
  go_quiet (fail)
  go_wp2
  go_region
  all_goals go_wp2
  all_goals refine bodyPost_ret (v := .tuple #[.int .i64 (pc + 1), .agg #[.int .i32 ra, .int .i32 n, .int .i32 rc, .int .i32 rd], .agg #[.int .i64 0, .int .i64 0, .int .i32 0]]) (by simp [results, Tryd.results63, go_sem]) rfl ⟨?_, ?_⟩
  · simp [stepP, R4.put, Eff.zero]
  · refine But.below (X := Nob) ?_ (Nat.le_refl _) fun _ _ q => q.elim
    repeat' first
      | with_reducible exact But.refl _ _
      | with_reducible refine But.set ?_ _ _ (.inr ?_)
      | with_reducible refine But.drewN ?_ _
      | with_reducible refine But.drew ?_
      | with_reducible refine But.alloc ?_ _
    all_goals (dsimp only; omega)
set_option maxRecDepth 100000 in
set_option maxHeartbeats 4000000 in
theorem step_1_2 (b n pc : Int) (r : R4) (w : World) (hp : 0 ≤ pc ∧ pc < 1000000) (hn : In32 n) :
    Calls Tryd.prog 63 #[insV ⟨1, 2, b, n⟩, .int .i64 pc, regV r] w (StepG (stepP ⟨1, 2, b, n⟩ pc r) w) := by
  obtain ⟨p0, p1⟩ := hp
  obtain ⟨n0, n1⟩ := hn
  obtain ⟨ra, rb, rc, rd⟩ := r
  go_enter Tryd.func63, Tryd.ntmps63
  go_wp2
  go_quiet (fail)
  go_wp2
  go_region
  all_goals go_wp2
  all_goals refine bodyPost_ret (v := .tuple #[.int .i64 (pc + 1), .agg #[.int .i32 ra, .int .i32 rb, .int .i32 n, .int .i32 rd], .agg #[.int .i64 0, .int .i64 0, .int .i32 0]]) (by simp [results, Tryd.results63, go_sem]) rfl ⟨?_, ?_⟩
  · simp [stepP, R4.put, Eff.zero]
  · refine But.below (X := Nob) ?_ (Nat.le_refl _) fun _ _ q => q.elim
    repeat' first
      | with_reducible exact But.refl _ _
      | with_reducible refine But.set ?_ _ _ (.inr ?_)
      | with_reducible refine But.drewN ?_ _
      | with_reducible refine But.drew ?_
      | with_reducible refine But.alloc ?_ _
    all_goals (dsimp only; omega)
set_option maxRecDepth 100000 in
set_option maxHeartbeats 4000000 in
theorem step_1_3 (b n pc : Int) (r : R4) (w : World) (hp : 0 ≤ pc ∧ pc < 1000000) (hn : In32 n) :
    Calls Tryd.prog 63 #[insV ⟨1, 3, b, n⟩, .int .i64 pc, regV r] w (StepG (stepP ⟨1, 3, b, n⟩ pc r) w) := by
  obtain ⟨p0, p1⟩ := hp
  obtain ⟨n0, n1⟩ := hn
  obtain ⟨ra, rb, rc, rd⟩ := r
  go_enter Tryd.func63, Tryd.ntmps63
  go_wp2
  go_quiet (fail)
  go_wp2
  go_region
  all_goals go_wp2
  all_goals refine bodyPost_ret (v := .tuple #[.int .i64 (pc + 1), .agg #[.int .i32 ra, .int .i32 rb, .int .i32 rc, .int .i32 n], .agg #[.int .i64 0, .int .i64 0, .int .i32 0]]) (by simp [results, Tryd.results63, go_sem]) rfl ⟨?_, ?_⟩
  · simp [stepP, R4.put, Eff.zero]
  · refine But.below (X := Nob) ?_ (Nat.le_refl _) fun _ _ q => q.elim
    repeat' first
      | with_reducible exact But.refl _ _
      | with_reducible refine But.set ?_ _ _ (.inr ?_)
      | with_reducible refine But.drewN ?_ _
      | with_reducible refine But.drew ?_
      | with_reducible refine But.alloc ?_ _
    all_goals (dsimp only; omega)
set_option maxRecDepth 100000 in
set_option maxHeartbeats 4000000 in
theorem step_2_0_0 (n pc : Int) (r : R4) (w : World) (hp : 0 ≤ pc ∧ pc < 1000000) (hn : In32 n) :
    Calls Tryd.prog 63 #[insV ⟨2, 0, 0, n⟩, .int .i64 pc, regV r] w (StepG (stepP ⟨2, 0, 0, n⟩ pc r) w) := by
  obtain ⟨p0, p1⟩ := hp
  obtain ⟨n0, n1⟩ := hn
  obtain ⟨ra, rb, rc, rd⟩ := r
  go_enter Tryd.func63, Tryd.ntmps63
  go_wp2
  go_quiet (fail)
  go_wp2
  go_region
  all_goals go_wp2
  all_goals go_region
  all_goals go_wp2
  all_goals refine bodyPost_ret (v := .tuple #[.int .i64 (pc + 1), .agg #[.int .i32 (wrap32 (ra + ra)), .int .i32 rb, .int .i32 rc, .int .i32 rd], .agg #[.int .i64 0, .int .i64 0, .int .i32 0]]) (by simp [results, Tryd.results63, go_sem]) rfl ⟨?_, ?_⟩
  · simp [stepP, R4.get, R4.put, Eff.zero, word32_eq]
  · refine But.below (X := Nob) ?_ (Nat.le_refl _) fun _ _ q => q.elim
    repeat' first
      | with_reducible exact But.refl _ _
      | with_reducible refine But.set ?_ _ _ (.inr ?_)
      | with_reducible refine But.drewN ?_ _
      | with_reducible refine But.drew ?_
      | with_reducible refine But.alloc ?_ _
    all_goals (dsimp only; omega)
set_option maxRecDepth 100000 in
set_option maxHeartbeats 4000000 in
theorem step_2_0_1 (n pc : Int) (r : R4) (w : World) (hp : 0 ≤ pc ∧ pc < 1000000) (hn : In32 n) :
    Calls Tryd.prog 63 #[insV ⟨2, 0, 1, n⟩, .int .i64 pc, regV r] w (StepG (stepP ⟨2, 0, 1, n⟩ pc r) w) := by
  obtain ⟨p0, p1⟩ := hp
  obtain ⟨n0, n1⟩ := hn
  obtain ⟨ra, rb, rc, rd⟩ := r
  go_enter Tryd.func63, Tryd.ntmps63
  go_wp2
  go_quiet (fail)
  go_wp2
  go_region
  all_goals go_wp2
  all_goals go_region
  all_goals go_wp2
  all_goals refine bodyPost_ret (v := .tuple #[.int .i64 (pc + 1), .agg #[.int .i32 (wrap32 (ra + rb)), .int .i32 rb, .int .i32 rc, .int .i32 rd], .agg #[.int .i64 0, .int .i64 0, .int .i32 0]]) (by simp [results, Tryd.results63, go_sem]) rfl ⟨?_, ?_⟩
  · simp [stepP, R4.get, R4.put, Eff.zero, word32_eq]
  · refine But.below (X := Nob) ?_ (Nat.le_refl _) fun _ _ q => q.elim
    repeat' first
      | with_reducible exact But.refl _ _
      | with_reducible refine But.set ?_ _ _ (.inr ?_)
      | with_reducible refine But.drewN ?_ _
      | with_reducible refine But.drew ?_
      | with_reducible refine But.alloc ?_ _
    all_goals (dsimp only; omega)
set_option maxRecDepth 100000 in
set_option maxHeartbeats 4000000 in
theorem step_2_0_2 (n pc : Int) (r : R4) (w : World) (hp : 0 ≤ pc ∧ pc < 1000000) (hn : In32 n) :
    Calls Tryd.prog 63 #[insV ⟨2, 0, 2, n⟩, .int .i64 pc, regV r] w (StepG (stepP ⟨2, 0, 2, n⟩ pc r) w) := by
  obtain ⟨p0, p1⟩ := hp
  obtain ⟨n0, n1⟩ := hn
  obtain ⟨ra, rb, rc, rd⟩ := r
  go_enter Tryd.func63, Tryd.ntmps63
  go_wp2
  go_quiet (fail)
  go_wp2
  go_region
  all_goals go_wp2
  all_goals go_region
  all_goals go_wp2
  all_goals refine bodyPost_ret (v := .tuple #[.int .i64 (pc + 1), .agg #[.int .i32 (wrap32 (ra + rc)), .int .i32 rb, .int .i32 rc, .int .i32 rd], .agg #[.int .i64 0, .int .i64 0, .int .i32 0]]) (by simp [results, Tryd.results63, go_sem]) rfl ⟨?_, ?_⟩
  · simp [stepP, R4.get, R4.put, Eff.zero, word32_eq]
  · refine But.below (X := Nob) ?_ (Nat.le_refl _) fun _ _ q => q.elim
    repeat' first
      | with_reducible exact But.refl _ _
      | with_reducible refine But.set ?_ _ _ (.inr ?_)
      | with_reducible refine But.drewN ?_ _
      | with_reducible refine But.drew ?_
      | with_reducible refine But.alloc ?_ _
    all_goals (dsimp only; omega)
set_option maxRecDepth 100000 in
set_option maxHeartbeats 4000000 in
theorem step_2_0_3 (n pc : Int) (r : R4) (w : World) (hp : 0 ≤ pc ∧ pc < 1000000) (hn : In32 n) :
    Calls Tryd.prog 63 #[insV ⟨2, 0, 3, n⟩, .int .i64 pc, regV r] w (StepG (stepP ⟨2, 0, 3, n⟩ pc r) w) := by
  obtain ⟨p0, p1⟩ := hp
  obtain ⟨n0, n1⟩ := hn
  obtain ⟨ra, rb, rc, rd⟩ := r
  go_enter Tryd.func63, Tryd.ntmps63
  go_wp2
  go_quiet (fail)
  go_wp2
  go_region
  all_goals go_wp2
  all_goals go_region
  all_goals go_wp2
  all_goals refine bodyPost_ret (v := .tuple #[.int .i64 (pc + 1), .agg #[.int .i32 (wrap32 (ra + rd)), .int .i32 rb, .int .i32 rc, .int .i32 rd], .agg #[.int .i64 0, .int .i64 0, .int .i32 0]]) (by simp [results, Tryd.results63, go_sem]) rfl ⟨?_, ?_⟩
  · simp [stepP, R4.get, R4.put, Eff.zero, word32_eq]
  · refine But.below (X := Nob) ?_ (Nat.le_refl _) fun _ _ q => q.elim
    repeat' first
      | with_reducible exact But.refl _ _
      | with_reducible refine But.set ?_ _ _ (.inr ?_)
      | with_reducible refine But.drewN ?_ _
      | with_reducible refine But.drew ?_
      | with_reducible refine But.alloc ?_ _
    all_goals (dsimp only; omega)
set_option maxRecDepth 100000 in
set_option maxHeartbeats 4000000 in
theorem step_2_1_0 (n pc : Int) (r : R4) (w : World) (hp : 0 ≤ pc ∧ pc < 1000000) (hn : In32 n) :
    Calls Tryd.prog 63 #[insV ⟨2, 1, 0, n⟩, .int .i64 pc, regV r] w (StepG (stepP ⟨2, 1, 0, n⟩ pc r) w) := by
  obtain ⟨p0, p1⟩ := hp
  obtain ⟨n0, n1⟩ := hn
  obtain ⟨ra, rb, rc, rd⟩ := r
  go_enter Tryd.func63, Tryd.ntmps63
  go_wp2
  go_quiet (fail)
  go_wp2
  go_region
  all_goals go_wp2
  all_goals go_region
  all_goals go_wp2
  all_goals refine bodyPost_ret (v := .tuple #[.int .i64 (pc + 1), .agg #[.int .i32 ra, .int .i32 (wrap32 (rb + ra)), .int .i32 rc, .int .i32 rd], .agg #[.int .i64 0, .int .i64 0, .int .i32 0]]) (by simp [results, Tryd.results63, go_sem]) rfl ⟨?_, ?_⟩
  · simp [stepP, R4.get, R4.put, Eff.zero, word32_eq]
  · refine But.below (X := Nob) ?_ (Nat.le_refl _) fun _ _ q => q.elim
    repeat' first
      | with_reducible exact But.refl _ _
      | with_reducible refine But.set ?_ _ _ (.inr ?_)
      | with_reducible refine But.drewN ?_ _
      | with_reducible refine But.drew ?_
      | with_reducible refine But.alloc ?_ _
    all_goals (dsimp only; omega)
set_option maxRecDepth 100000 in
set_option maxHeartbeats 4000000 in
theorem step_2_1_1 (n pc : Int) (r : R4) (w : World) (hp : 0 ≤ pc ∧ pc < 1000000) (hn : In32 n) :
    Calls Tryd.prog 63 #[insV ⟨2, 1, 1, n⟩, .int .i64 pc, regV r] w (StepG (stepP ⟨2, 1, 1, n⟩ pc r) w) := by
  obtain ⟨p0, p1⟩ := hp
  obtain ⟨n0, n1⟩ := hn
  obtain ⟨ra, rb, rc, rd⟩ := r
  go_enter Tryd.func63, Tryd.ntmps63
  go_wp2
  go_quiet (fail)
  go_wp2
  go_region
  all_goals go_wp2
  all_goals go_region
  all_goals go_wp2
  all_goals refine bodyPost_ret (v := .tuple #[.int .i64 (pc + 1), .agg #[.int .i32 ra, .int .i32 (wrap32 (rb + rb)), .int .i32 rc, .int .i32 rd], .agg #[.int .i64 0, .int .i64 0, .int .i32 0]]) (by simp [results, Tryd.results63, go_sem]) rfl ⟨?_, ?_⟩
  · simp [stepP, R4.get, R4.put, Eff.zero, word32_eq]
  · refine But.below (X := Nob) ?_ (Nat.le_refl _) fun _ _ q => q.elim
    repeat' first
      | with_reducible exact But.refl _ _
      | with_reducible refine But.set ?_ _ _ (.inr ?_)
      | with_reducible refine But.drewN ?_ _
      | with_reducible refine But.drew ?_
      | with_reducible refine But.alloc ?_ _
    all_goals (dsimp only; omega)
set_option maxRecDepth 100000 in
set_option maxHeartbeats 4000000 in
theorem step_2_1_2 (n pc : Int) (r : R4) (w : World) (hp : 0 ≤ pc ∧ pc < 1000000) (hn : In32 n) :
    Calls Tryd.prog 63 #[insV ⟨2, 1, 2, n⟩, .int .i64 pc, regV r] w (StepG (stepP ⟨2, 1, 2, n⟩ pc r) w) := by
  obtain ⟨p0, p1⟩ := hp
  obtain ⟨n0, n1⟩ := hn
  obtain ⟨ra, rb, rc, rd⟩ := r
  go_enter Tryd.func63, Tryd.ntmps63
  go_wp2
  go_quiet (fail)
  go_wp2
  go_region
  all_goals go_wp2
  all_goals go_region
  all_goals go_wp2
  all_goals refine bodyPost_ret (v := .tuple #[.int .i64 (pc + 1), .agg #[.int .i32 ra, .int .i32 (wrap32 (rb + rc)), .int .i32 rc, .int .i32 rd], .agg #[.int .i64 0, .int .i64 0, .int .i32 0]]) (by simp [results, Tryd.results63, go_sem]) rfl ⟨?_, ?_⟩
  · simp [stepP, R4.get, R4.put, Eff.zero, word32_eq]
  · refine But.below (X := Nob) ?_ (Nat.le_refl _) fun _ _ q => q.elim
    repeat' first
      | with_reducible exact But.refl _ _
      | with_reducible refine But.set ?_ _ _ (.inr ?_)
      | with_reducible refine But.drewN ?_ _
      | with_reducible refine But.drew ?_
      | with_reducible refine But.alloc ?_ _
    all_goals (dsimp only; omega)
set_option maxRecDepth 100000 in
set_option maxHeartbeats 4000000 in
theorem step_2_1_3 (n pc : Int) (r : R4) (w : World) (hp : 0 ≤ pc ∧ pc < 1000000) (hn : In32 n) :
    Calls Tryd.prog 63 #[insV ⟨2, 1, 3, n⟩, .int .i64 pc, regV r] w (StepG (stepP ⟨2, 1, 3, n⟩ pc r) w) := by
  obtain ⟨p0, p1⟩ := hp
  obtain ⟨n0, n1⟩ := hn
  obtain ⟨ra, rb, rc, rd⟩ := r
  go_enter Tryd.func63, Tryd.ntmps63
  go_wp2
  go_quiet (fail)
  go_wp2
  go_region
  all_goals go_wp2
  all_goals go_region
  all_goals go_wp2
  all_goals refine bodyPost_ret (v := .tuple #[.int .i64 (pc + 1), .agg #[.int .i32 ra, .int .i32 (wrap32 (rb + rd)), .int .i32 rc, .int .i32 rd], .agg #[.int .i64 0, .int .i64 0, .int .i32 0]]) (by simp [results, Tryd.results63, go_sem]) rfl ⟨?_, ?_⟩
  · simp [stepP, R4.get, R4.put, Eff.zero, word32_eq]
  · refine But.below (X := Nob) ?_ (Nat.le_refl _) fun _ _ q => q.elim
    repeat' first
      | with_reducible exact But.refl _ _
      | with_reducible refine But.set ?_ _ _ (.inr ?_)
      | with_reducible refine But.drewN ?_ _
      | with_reducible refine But.drew ?_
      | with_reducible refine But.alloc ?_ _
    all_goals (dsimp only; omega)
set_option maxRecDepth 100000 in
set_option maxHeartbeats 4000000 in
theorem step_2_2_0 (n pc : Int) (r : R4) (w : World) (hp : 0 ≤ pc ∧ pc < 1000000) (hn : In32 n) :
    Calls Tryd.prog 63 #[insV ⟨2, 2, 0, n⟩, .int .i64 pc, regV r] w (StepG (stepP ⟨2, 2, 0, n⟩ pc r) w) := by
  obtain ⟨p0, p1⟩ := hp
  obtain ⟨n0, n1⟩ := hn
  obtain ⟨ra, rb, rc, rd⟩ := r
  go_enter Tryd.func63, Tryd.ntmps63
  go_wp2
  go_quiet (fail)
  go_wp2
  go_region
  all_goals go_wp2
  all_goals go_region
  all_goals go_wp2
  all_goals refine bodyPost_ret (v := .tuple #[.int .i64 (pc + 1), .agg #[.int .i32 ra, .int .i32 rb, .int .i32 (wrap32 (rc + ra)), .int .i32 rd], .agg #[.int .i64 0, .int .i64 0, .int .i32 0]]) (by simp [results, Tryd.results63, go_sem]) rfl ⟨?_, ?_⟩
  · simp [stepP, R4.get, R4.put, Eff.zero, word32_eq]
  · refine But.below (X := Nob) ?_ (Nat.le_refl _) fun _ _ q => q.elim
    repeat' first
      | with_reducible exact But.refl _ _
      | with_reducible refine But.set ?_ _ _ (.inr ?_)
      | with_reducible refine But.drewN ?_ _
      | with_reducible refine But.drew ?_
      | with_reducible refine But.alloc ?_ _
    all_goals (dsimp only; omega)
set_option maxRecDepth 100000 in
set_option maxHeartbeats 4000000 in
theorem step_2_2_1 (n pc : Int) (r : R4) (w : World) (hp : 0 ≤ pc ∧ pc < 1000000) (hn : In32 n) :
    Calls Tryd.prog 63 #[insV ⟨2, 2, 1, n⟩, .int .i64 pc, regV r] w (StepG (stepP ⟨2, 2, 1, n⟩ pc r) w) := by
  obtain ⟨p0, p1⟩ := hp
  obtain ⟨n0, n1⟩ := hn
  obtain ⟨ra, rb, rc, rd⟩ := r
  go_enter Tryd.func63, Tryd.ntmps63
  go_wp2
  go_quiet (fail)
  go_wp2
  go_region
  all_goals go_wp2
  all_goals go_region
  all_goals go_wp2
  all_goals refine bodyPost_ret (v := .tuple #[.int .i64 (pc + 1), .agg #[.int .i32 ra, .int .i32 rb, .int .i32 (wrap32 (rc + rb)), .int .i32 rd], .agg #[.int .i64 0, .int .i64 0, .int .i32 0]]) (by simp [results, Tryd.results63, go_sem]) rfl ⟨?_, ?_⟩
  · simp [stepP, R4.get, R4.put, Eff.zero, word32_eq]
  · refine But.below (X := Nob) ?_ (Nat.le_refl _) fun _ _ q => q.elim
    repeat' first
      | with_reducible exact But.refl _ _
      | with_reducible refine But.set ?_ _ _ (.inr ?_)
      | with_reducible refine But.drewN ?_ _
      | with_reducible refine But.drew ?_
      | with_reducible refine But.alloc ?_ _
    all_goals (dsimp only; omega)
set_option maxRecDepth 100000 in
set_option maxHeartbeats 4000000 in
theorem step_2_2_2 (n pc : Int) (r : R4) (w : World) (hp : 0 ≤ pc ∧ pc < 1000000) (hn : In32 n) :
    Calls Tryd.prog 63 #[insV ⟨2, 2, 2, n⟩, .int .i64 pc, regV r] w (StepG (stepP ⟨2, 2, 2, n⟩ pc r) w) := by
  obtain ⟨p0, p1⟩ := hp
  obtain ⟨n0, n1⟩ := hn
  obtain ⟨ra, rb, rc, rd⟩ := r
  go_enter Tryd.func63, Tryd.ntmps63
  go_wp2
  go_quiet (fail)
  go_wp2
  go_region
  all_goals go_wp2
  all_goals go_region
  all_goals go_wp2
  all_goals refine bodyPost_ret (v := .tuple #[.int .i64 (pc + 1), .agg #[.int .i32 ra, .int .i32 rb, .int .i32 (wrap32 (rc + rc)), .int .i32 rd], .agg #[.int .i64 0, .int .i64 0, .int .i32 0]]) (by simp [results, Tryd.results63, go_sem]) rfl ⟨?_, ?_⟩
  · simp [stepP, R4.get, R4.put, Eff.zero, word32_eq]
  · refine But.below (X := Nob) ?_ (Nat.le_refl _) fun _ _ q => q.elim
    repeat' first
      | with_reducible exact But.refl _ _
      | with_reducible refine But.set ?_ _ _ (.inr ?_)
      | with_reducible refine But.drewN ?_ _
      | with_reducible refine But.drew ?_
      | with_reducible refine But.alloc ?_ _
    all_goals (dsimp only; omega)
set_option maxRecDepth 100000 in
set_option maxHeartbeats 4000000 in
theorem step_2_2_3 (n pc : Int) (r : R4) (w : World) (hp : 0 ≤ pc ∧ pc < 1000000) (hn : In32 n) :
    Calls Tryd.prog 63 #[insV ⟨2, 2, 3, n⟩, .int .i64 pc, regV r] w (StepG (stepP ⟨2, 2, 3, n⟩ pc r) w) := by
  obtain ⟨p0, p1⟩ := hp
  obtain ⟨n0, n1⟩ := hn
  obtain ⟨ra, rb, rc, rd⟩ := r
  go_enter Tryd.func63, Tryd.ntmps63
  go_wp2
  go_quiet (fail)
  go_wp2
  go_region
  all_goals go_wp2
  all_goals go_region
  all_goals go_wp2
  all_goals refine bodyPost_ret (v := .tuple #[.int .i64 (pc + 1), .agg #[.int .i32 ra, .int .i32 rb, .int .i32 (wrap32 (rc + rd)), .int .i32 rd], .agg #[.int .i64 0, .int .i64 0, .int .i32 0]]) (by simp [results, Tryd.results63, go_sem]) rfl ⟨?_, ?_⟩
  · simp [stepP, R4.get, R4.put, Eff.zero, word32_eq]
  · refine But.below (X := Nob) ?_ (Nat.le_refl _) fun _ _ q => q.elim
    repeat' first
      | with_reducible exact But.refl _ _
      | with_reducible refine But.set ?_ _ _ (.inr ?_)
      | with_reducible refine But.drewN ?_ _
      | with_reducible refine But.drew ?_
      | with_reducible refine But.alloc ?_ _
    all_goals (dsimp only; omega)
set_option maxRecDepth 100000 in
set_option maxHeartbeats 4000000 in
theorem step_2_3_0 (n pc : Int) (r : R4) (w : World) (hp : 0 ≤ pc ∧ pc < 1000000) (hn : In32 n) :
    Calls Tryd.prog 63 #[insV ⟨2, 3, 0, n⟩, .int .i64 pc, regV r] w (StepG (stepP ⟨2, 3, 0, n⟩ pc r) w) := by
  obtain ⟨p0, p1⟩ := hp
  obtain ⟨n0, n1⟩ := hn
  obtain ⟨ra, rb, rc, rd⟩ := r
  go_enter Tryd.func63, Tryd.ntmps63
  go_wp2
  go_quiet (fail)
  go_wp2
  go_region
  all_goals go_wp2
  all_goals go_region
  all_goals go_wp2
  all_goals refine bodyPost_ret (v := .tuple #[.int .i64 (pc + 1), .agg #[.int .i32 ra, .int .i32 rb, .int .i32 rc, .int .i32 (wrap32 (rd + ra))], .agg #[.int .i64 0, .int .i64 0, .int .i32 0]]) (by simp [results, Tryd.results63, go_sem]) rfl ⟨?_, ?_⟩
  · simp [stepP, R4.get, R4.put, Eff.zero, word32_eq]
  · refine But.below (X := Nob) ?_ (Nat.le_refl _) fun _ _ q => q.elim
    repeat' first
      | with_reducible exact But.refl _ _
      | with_reducible refine But.set ?_ _ _ (.inr ?_)
      | with_reducible refine But.drewN ?_ _
      | with_reducible refine But.drew ?_
      | with_reducible refine But.alloc ?_ _
    all_goals (dsimp only; omega)
set_option maxRecDepth 100000 in
set_option maxHeartbeats 4000000 in
theorem step_2_3_1 (n pc : Int) (r : R4) (w : World) (hp : 0 ≤ pc ∧ pc < 1000000) (hn : In32 n) :
    Calls Tryd.prog 63 #[insV ⟨2, 3, 1, n⟩, .int .i64 pc, regV r] w (StepG (stepP ⟨2, 3, 1, n⟩ pc r) w) := by
  obtain ⟨p0, p1⟩ := hp
  obtain ⟨n0, n1⟩ := hn
  obtain ⟨ra, rb, rc, rd⟩ := r
  go_enter Tryd.func63, Tryd.ntmps63
  go_wp2
  go_quiet (fail)
  go_wp2
  go_region
  all_goals go_wp2
  all_goals go_region
  all_goals go_wp2
  all_goals refine bodyPost_ret (v := .tuple #[.int .i64 (pc + 1), .agg #[.int .i32 ra, .int .i32 rb, .int .i32 rc, .int .i32 (wrap32 (rd + rb))], .agg #[.int .i64 0, .int .i64 0, .int .i32 0]]) (by simp [results, Tryd.results63, go_sem]) rfl ⟨?_, ?_⟩
  · simp [stepP, R4.get, R4.put, Eff.zero, word32_eq]
  · refine But.below (X := Nob) ?_ (Nat.le_refl _) fun _ _ q => q.elim
    repeat' first
      | with_reducible exact But.refl _ _
      | with_reducible refine But.set ?_ _ _ (.inr ?_)
      | with_reducible refine But.drewN ?_ _
      | with_reducible refine But.drew ?_
      | with_reducible refine But.alloc ?_ _
    all_goals (dsimp only; omega)
set_option maxRecDepth 100000 in
set_option maxHeartbeats 4000000 in
theorem step_2_3_2 (n pc : Int) (r : R4) (w : World) (hp : 0 ≤ pc ∧ pc < 1000000) (hn : In32 n) :
    Calls Tryd.prog 63 #[insV ⟨2, 3, 2, n⟩, .int .i64 pc, regV r] w (StepG (stepP ⟨2, 3, 2, n⟩ pc r) w) := by
  obtain ⟨p0, p1⟩ := hp
  obtain ⟨n0, n1⟩ := hn
  obtain ⟨ra, rb, rc, rd⟩ := r
  go_enter Tryd.func63, Tryd.ntmps63
  go_wp2
  go_quiet (fail)
  go_wp2
  go_region
  all_goals go_wp2
  all_goals go_region
  all_goals go_wp2
  all_goals refine bodyPost_ret (v := .tuple #[.int .i64 (pc + 1), .agg #[.int .i32 ra, .int .i32 rb, .int .i32 rc, .int .i32 (wrap32 (rd + rc))], .agg #[.int .i64 0, .int .i64 0, .int .i32 0]]) (by simp [results, Tryd.results63, go_sem]) rfl ⟨?_, ?_⟩
  · simp [stepP, R4.get, R4.put, Eff.zero, word32_eq]
  · refine But.below (X := Nob) ?_ (Nat.le_refl _) fun _ _ q => q.elim
    repeat' first
      | with_reducible exact But.refl _ _
      | with_reducible refine But.set ?_ _ _ (.inr ?_)
      | with_reducible refine But.drewN ?_ _
      | with_reducible refine But.drew ?_
      | with_reducible refine But.alloc ?_ _
    all_goals (dsimp only; omega)
set_option maxRecDepth 100000 in
set_option maxHeartbeats 4000000 in
theorem step_2_3_3 (n pc : Int) (r : R4) (w : World) (hp : 0 ≤ pc ∧ pc < 1000000) (hn : In32 n) :
    Calls Tryd.prog 63 #[insV ⟨2, 3, 3, n⟩, .int .i64 pc, regV r] w (StepG (stepP ⟨2, 3, 3, n⟩ pc r) w) := by
  obtain ⟨p0, p1⟩ := hp
  obtain ⟨n0, n1⟩ := hn
  obtain ⟨ra, rb, rc, rd⟩ := r
  go_enter Tryd.func63, Tryd.ntmps63
  go_wp2
  go_quiet (fail)
  go_wp2
  go_region
  all_goals go_wp2
  all_goals go_region
  all_goals go_wp2
  all_goals refine bodyPost_ret (v := .tuple #[.int .i64 (pc + 1), .agg #[.int .i32 ra, .int .i32 rb, .int .i32 rc, .int .i32 (wrap32 (rd + rd))], .agg #[.int .i64 0, .int .i64 0, .int .i32 0]]) (by simp [results, Tryd.results63, go_sem]) rfl ⟨?_, ?_⟩
  · simp [stepP, R4.get, R4.put, Eff.zero, word32_eq]
  · refine But.below (X := Nob) ?_ (Nat.le_refl _) fun _ _ q => q.elim
    repeat' first
      | with_reducible exact But.refl _ _
      | with_reducible refine But.set ?_ _ _ (.inr ?_)
      | with_reducible refine But.drewN ?_ _
      | with_reducible refine But.drew ?_
      | with_reducible refine But.alloc ?_ _
    all_goals (dsimp only; omega)


set_option maxRecDepth 100000 in
set_option maxHeartbeats 4000000 in
theorem step_3_0_0 (n pc : Int) (r : R4) (w : World) (hp : 0 ≤ pc ∧ pc < 1000000) (hn : In32 n) :
    Calls Tryd.prog 63 #[insV ⟨3, 0, 0, n⟩, .int .i64 pc, regV r] w (StepG (stepP ⟨3, 0, 0, n⟩ pc r) w) := by
  obtain ⟨p0, p1⟩ := hp
  obtain ⟨n0, n1⟩ := hn
  obtain ⟨ra, rb, rc, rd⟩ := r
  go_enter Tryd.func63, Tryd.ntmps63
  go_wp2
  go_quiet (fail)
  go_wp2
  go_region
  all_goals go_wp2
  all_goals go_region
  all_goals go_wp2
  all_goals refine bodyPost_ret (v := .tuple #[.int .i64 (pc + 1), .agg #[.int .i32 0, .int .i32 rb, .int .i32 rc, .int .i32 rd], .agg #[.int .i64 0, .int .i64 0, .int .i32 0]]) (by simp [results, Tryd.results63, go_sem]) rfl ⟨?_, ?_⟩
  · simp [stepP, R4.get, R4.put, Eff.zero, word32]
  · refine But.below (X := Nob) ?_ (Nat.le_refl _) fun _ _ q => q.elim
    repeat' first
      | with_reducible exact But.refl _ _
      | with_reducible refine But.set ?_ _ _ (.inr ?_)
      | with_reducible refine But.drewN ?_ _
      | with_reducible refine But.drew ?_
      | with_reducible refine But.alloc ?_ _
    all_goals (dsimp only; omega)
set_option maxRecDepth 100000 in
set_option maxHeartbeats 4000000 in
theorem step_3_0_1 (n pc : Int) (r : R4) (w : World) (hp : 0 ≤ pc ∧ pc < 1000000) (hn : In32 n) :
    Calls Tryd.prog 63 #[insV ⟨3, 0, 1, n⟩, .int .i64 pc, regV r] w (StepG (stepP ⟨3, 0, 1, n⟩ pc r) w) := by
  obtain ⟨p0, p1⟩ := hp
  obtain ⟨n0, n1⟩ := hn
  obtain ⟨ra, rb, rc, rd⟩ := r
  go_enter Tryd.func63, Tryd.ntmps63
  go_wp2
  go_quiet (fail)
  go_wp2
  go_region
  all_goals go_wp2
  all_goals go_region
  all_goals go_wp2
  all_goals refine bodyPost_ret (v := .tuple #[.int .i64 (pc + 1), .agg #[.int .i32 (wrap32 (ra - rb)), .int .i32 rb, .int .i32 rc, .int .i32 rd], .agg #[.int .i64 0, .int .i64 0, .int .i32 0]]) (by simp [results, Tryd.results63, go_sem]) rfl ⟨?_, ?_⟩
  · simp [stepP, R4.get, R4.put, Eff.zero, word32_eq]
  · refine But.below (X := Nob) ?_ (Nat.le_refl _) fun _ _ q => q.elim
    repeat' first
      | with_reducible exact But.refl _ _
      | with_reducible refine But.set ?_ _ _ (.inr ?_)
      | with_reducible refine But.drewN ?_ _
      | with_reducible refine But.drew ?_
      | with_reducible refine But.alloc ?_ _
    all_goals (dsimp only; omega)
set_option maxRecDepth 100000 in
set_option maxHeartbeats 4000000 in
theorem step_3_0_2 (n pc : Int) (r : R4) (w : World) (hp : 0 ≤ pc ∧ pc < 1000000) (hn : In32 n) :
    Calls Tryd.prog 63 #[insV ⟨3, 0, 2, n⟩, .int .i64 pc, regV r] w (StepG (stepP ⟨3, 0, 2, n⟩ pc r) w) := by
  obtain ⟨p0, p1⟩ := hp
  obtain ⟨n0, n1⟩ := hn
  obtain ⟨ra, rb, rc, rd⟩ := r
  go_enter Tryd.func63, Tryd.ntmps63
  go_wp2
  go_quiet (fail)
  go_wp2
  go_region
  all_goals go_wp2
  all_goals go_region
  all_goals go_wp2
  all_goals refine bodyPost_ret (v := .tuple #[.int .i64 (pc + 1), .agg #[.int .i32 (wrap32 (ra - rc)), .int .i32 rb, .int .i32 rc, .int .i32 rd], .agg #[.int .i64 0, .int .i64 0, .int .i32 0]]) (by simp [results, Tryd.results63, go_sem]) rfl ⟨?_, ?_⟩
  · simp [stepP, R4.get, R4.put, Eff.zero, word32_eq]
  · refine But.below (X := Nob) ?_ (Nat.le_refl _) fun _ _ q => q.elim
    repeat' first
      | with_reducible exact But.refl _ _
      | with_reducible refine But.set ?_ _ _ (.inr ?_)
      | with_reducible refine But.drewN ?_ _
      | with_reducible refine But.drew ?_
      | with_reducible refine But.alloc ?_ _
    all_goals (dsimp only; omega)
set_option maxRecDepth 100000 in
set_option maxHeartbeats 4000000 in
theorem step_3_0_3 (n pc : Int) (r : R4) (w : World) (hp : 0 ≤ pc ∧ pc < 1000000) (hn : In32 n) :
    Calls Tryd.prog 63 #[insV ⟨3, 0, 3, n⟩, .int .i64 pc, regV r] w (StepG (stepP ⟨3, 0, 3, n⟩ pc r) w) := by
  obtain ⟨p0, p1⟩ := hp
  obtain ⟨n0, n1⟩ := hn
  obtain ⟨ra, rb, rc, rd⟩ := r
  go_enter Tryd.func63, Tryd.ntmps63
  go_wp2
  go_quiet (fail)
  go_wp2
  go_region
  all_goals go_wp2
  all_goals go_region
  all_goals go_wp2
  all_goals refine bodyPost_ret (v := .tuple #[.int .i64 (pc + 1), .agg #[.int .i32 (wrap32 (ra - rd)), .int .i32 rb, .int .i32 rc, .int .i32 rd], .agg #[.int .i64 0, .int .i64 0, .int .i32 0]]) (by simp [results, Tryd.results63, go_sem]) rfl ⟨?_, ?_⟩
  · simp [stepP, R4.get, R4.put, Eff.zero, word32_eq]
  · refine But.below (X := Nob) ?_ (Nat.le_refl _) fun _ _ q => q.elim
    repeat' first
      | with_reducible exact But.refl _ _
      | with_reducible refine But.set ?_ _ _ (.inr ?_)
      | with_reducible refine But.drewN ?_ _
      | with_reducible refine But.drew ?_
      | with_reducible refine But.alloc ?_ _
    all_goals (dsimp only; omega)
set_option maxRecDepth 100000 in
set_option maxHeartbeats 4000000 in
theorem step_3_1_0 (n pc : Int) (r : R4) (w : World) (hp : 0 ≤ pc ∧ pc < 1000000) (hn : In32 n) :
    Calls Tryd.prog 63 #[insV ⟨3, 1, 0, n⟩, .int .i64 pc, regV r] w (StepG (stepP ⟨3, 1, 0, n⟩ pc r) w) := by
  obtain ⟨p0, p1⟩ := hp
  obtain ⟨n0, n1⟩ := hn
  obtain ⟨ra, rb, rc, rd⟩ := r
  go_enter Tryd.func63, Tryd.ntmps63
  go_wp2
  go_quiet (fail)
  go_wp2
  go_region
  all_goals go_wp2
  all_goals go_region
  all_goals go_wp2
  all_goals refine bodyPost_ret (v := .tuple #[.int .i64 (pc + 1), .agg #[.int .i32 ra, .int .i32 (wrap32 (rb - ra)), .int .i32 rc, .int .i32 rd], .agg #[.int .i64 0, .int .i64 0, .int .i32 0]]) (by simp [results, Tryd.results63, go_sem]) rfl ⟨?_, ?_⟩
  · simp [stepP, R4.get, R4.put, Eff.zero, word32_eq]
  · refine But.below (X := Nob) ?_ (Nat.le_refl _) fun _ _ q => q.elim
    repeat' first
      | with_reducible exact But.refl _ _
      | with_reducible refine But.set ?_ _ _ (.inr ?_)
      | with_reducible refine But.drewN ?_ _
      | with_reducible refine But.drew ?_
      | with_reducible refine But.alloc ?_ _
    all_goals (dsimp only; omega)
set_option maxRecDepth 100000 in
set_option maxHeartbeats 4000000 in
theorem step_3_1_1 (n pc : Int) (r : R4) (w : World) (hp : 0 ≤ pc ∧ pc < 1000000) (hn : In32 n) :
    Calls Tryd.prog 63 #[insV ⟨3, 1, 1, n⟩, .int .i64 pc, regV r] w (StepG (stepP ⟨3, 1, 1, n⟩ pc r) w) := by
  obtain ⟨p0, p1⟩ := hp
  obtain ⟨n0, n1⟩ := hn
  obtain ⟨ra, rb, rc, rd⟩ := r
  go_enter Tryd.func63, Tryd.ntmps63
  go_wp2
  go_quiet (fail)
  go_wp2
  go_region
  all_goals go_wp2
  all_goals go_region
  all_goals go_wp2
  all_goals refine bodyPost_ret (v := .tuple #[.int .i64 (pc + 1), .agg #[.int .i32 ra, .int .i32 0, .int .i32 rc, .int .i32 rd], .agg #[.int .i64 0, .int .i64 0, .int .i32 0]]) (by simp [results, Tryd.results63, go_sem]) rfl ⟨?_, ?_⟩
  · simp [stepP, R4.get, R4.put, Eff.zero, word32]
  · refine But.below (X := Nob) ?_ (Nat.le_refl _) fun _ _ q => q.elim
    repeat' first
      | with_reducible exact But.refl _ _
      | with_reducible refine But.set ?_ _ _ (.inr ?_)
      | with_reducible refine But.drewN ?_ _
      | with_reducible refine But.drew ?_
      | with_reducible refine But.alloc ?_ _
    all_goals (dsimp only; omega)
set_option maxRecDepth 100000 in
set_option maxHeartbeats 4000000 in
theorem step_3_1_2 (n pc : Int) (r : R4) (w : World) (hp : 0 ≤ pc ∧ pc < 1000000) (hn : In32 n) :
    Calls Tryd.prog 63 #[insV ⟨3, 1, 2, n⟩, .int .i64 pc, regV r] w (StepG (stepP ⟨3, 1, 2, n⟩ pc r) w) := by
  obtain ⟨p0, p1⟩ := hp
  obtain ⟨n0, n1⟩ := hn
  obtain ⟨ra, rb, rc, rd⟩ := r
  go_enter Tryd.func63, Tryd.ntmps63
  go_wp2
  go_quiet (fail)
  go_wp2
  go_region
  all_goals go_wp2
  all_goals go_region
  all_goals go_wp2
  all_goals refine bodyPost_ret (v := .tuple #[.int .i64 (pc + 1), .agg #[.int .i32 ra, .int .i32 (wrap32 (rb - rc)), .int .i32 rc, .int .i32 rd], .agg #[.int .i64 0, .int .i64 0, .int .i32 0]]) (by simp [results, Tryd.results63, go_sem]) rfl ⟨?_, ?_⟩
  · simp [stepP, R4.get, R4.put, Eff.zero, word32_eq]
  · refine But.below (X := Nob) ?_ (Nat.le_refl _) fun _ _ q => q.elim
    repeat' first
      | with_reducible exact But.refl _ _
      | with_reducible refine But.set ?_ _ _ (.inr ?_)
      | with_reducible refine But.drewN ?_ _
      | with_reducible refine But.drew ?_
      | with_reducible refine But.alloc ?_ _
    all_goals (dsimp only; omega)
set_option maxRecDepth 100000 in
set_option maxHeartbeats 4000000 in
theorem step_3_1_3 (n pc : Int) (r : R4) (w : World) (hp : 0 ≤ pc ∧ pc < 1000000) (hn : In32 n) :
    Calls Tryd.prog 63 #[insV ⟨3, 1, 3, n⟩, .int .i64 pc, regV r] w (StepG (stepP ⟨3, 1, 3, n⟩ pc r) w) := by
  obtain ⟨p0, p1⟩ := hp
  obtain ⟨n0, n1⟩ := hn
  obtain ⟨ra, rb, rc, rd⟩ := r
  go_enter Tryd.func63, Tryd.ntmps63
  go_wp2
  go_quiet (fail)
  go_wp2
  go_region
  all_goals go_wp2
  all_goals go_region
  all_goals go_wp2
  all_goals refine bodyPost_ret (v := .tuple #[.int .i64 (pc + 1), .agg #[.int .i32 ra, .int .i32 (wrap32 (rb - rd)), .int .i32 rc, .int .i32 rd], .agg #[.int .i64 0, .int .i64 0, .int .i32 0]]) (by simp [results, Tryd.results63, go_sem]) rfl ⟨?_, ?_⟩
  · simp [stepP, R4.get, R4.put, Eff.zero, word32_eq]
  · refine But.below (X := Nob) ?_ (Nat.le_refl _) fun _ _ q => q.elim
    repeat' first
      | with_reducible exact But.refl _ _
      | with_reducible refine But.set ?_ _ _ (.inr ?_)
      | with_reducible refine But.drewN ?_ _
      | with_reducible refine But.drew ?_
      | with_reducible refine But.alloc ?_ _
    all_goals (dsimp only; omega)
set_option maxRecDepth 100000 in
set_option maxHeartbeats 4000000 in
theorem step_3_2_0 (n pc : Int) (r : R4) (w : World) (hp : 0 ≤ pc ∧ pc < 1000000) (hn : In32 n) :
    Calls Tryd.prog 63 #[insV ⟨3, 2, 0, n⟩, .int .i64 pc, regV r] w (StepG (stepP ⟨3, 2, 0, n⟩ pc r) w) := by
  obtain ⟨p0, p1⟩ := hp
  obtain ⟨n0, n1⟩ := hn
  obtain ⟨ra, rb, rc, rd⟩ := r
  go_enter Tryd.func63, Tryd.ntmps63
  go_wp2
  go_quiet (fail)
  go_wp2
  go_region
  all_goals go_wp2
  all_goals go_region
  all_goals go_wp2
  all_goals refine bodyPost_ret (v := .tuple #[.int .i64 (pc + 1), .agg #[.int .i32 ra, .int .i32 rb, .int .i32 (wrap32 (rc - ra)), .int .i32 rd], .agg #[.int .i64 0, .int .i64 0, .int .i32 0]]) (by simp [results, Tryd.results63, go_sem]) rfl ⟨?_, ?_⟩
  · simp [stepP, R4.get, R4.put, Eff.zero, word32_eq]
  · refine But.below (X := Nob) ?_ (Nat.le_refl _) fun _ _ q => q.elim
    repeat' first
      | with_reducible exact But.refl _ _
      | with_reducible refine But.set ?_ _ _ (.inr ?_)
      | with_reducible refine But.drewN ?_ _
      | with_reducible refine But.drew ?_
      | with_reducible refine But.alloc ?_ _
    all_goals (dsimp only; omega)
set_option maxRecDepth 100000 in
set_option maxHeartbeats 4000000 in
theorem step_3_2_1 (n pc : Int) (r : R4) (w : World) (hp : 0 ≤ pc ∧ pc < 1000000) (hn : In32 n) :
    Calls Tryd.prog 63 #[insV ⟨3, 2, 1, n⟩, .int .i64 pc, regV r] w (StepG (stepP ⟨3, 2, 1, n⟩ pc r) w) := by
  obtain ⟨p0, p1⟩ := hp
  obtain ⟨n0, n1⟩ := hn
  obtain ⟨ra, rb, rc, rd⟩ := r
  go_enter Tryd.func63, Tryd.ntmps63
  go_wp2
  go_quiet (fail)
  go_wp2
  go_region
  all_goals go_wp2
  all_goals go_region
  all_goals go_wp2
  all_goals refine bodyPost_ret (v := .tuple #[.int .i64 (pc + 1), .agg #[.int .i32 ra, .int .i32 rb, .int .i32 (wrap32 (rc - rb)), .int .i32 rd], .agg #[.int .i64 0, .int .i64 0, .int .i32 0]]) (by simp [results, Tryd.results63, go_sem]) rfl ⟨?_, ?_⟩
  · simp [stepP, R4.get, R4.put, Eff.zero, word32_eq]
  · refine But.below (X := Nob) ?_ (Nat.le_refl _) fun _ _ q => q.elim
    repeat' first
      | with_reducible exact But.refl _ _
      | with_reducible refine But.set ?_ _ _ (.inr ?_)
      | with_reducible refine But.drewN ?_ _
      | with_reducible refine But.drew ?_
      | with_reducible refine But.alloc ?_ _
    all_goals (dsimp only; omega)
set_option maxRecDepth 100000 in
set_option maxHeartbeats 4000000 in
theorem step_3_2_2 (n pc : Int) (r : R4) (w : World) (hp : 0 ≤ pc ∧ pc < 1000000) (hn : In32 n) :
    Calls Tryd.prog 63 #[insV ⟨3, 2, 2, n⟩, .int .i64 pc, regV r] w (StepG (stepP ⟨3, 2, 2, n⟩ pc r) w) := by
  obtain ⟨p0, p1⟩ := hp
  obtain ⟨n0, n1⟩ := hn
  obtain ⟨ra, rb, rc, rd⟩ := r
  go_enter Tryd.func63, Tryd.ntmps63
  go_wp2
  go_quiet (fail)
  go_wp2
  go_region
  all_goals go_wp2
  all_goals go_region
  all_goals go_wp2
  all_goals refine bodyPost_ret (v := .tuple #[.int .i64 (pc + 1), .agg #[.int .i32 ra, .int .i32 rb, .int .i32 0, .int .i32 rd], .agg #[.int .i64 0, .int .i64 0, .int .i32 0]]) (by simp [results, Tryd.results63, go_sem]) rfl ⟨?_, ?_⟩
  · simp [stepP, R4.get, R4.put, Eff.zero, word32]
  · refine But.below (X := Nob) ?_ (Nat.le_refl _) fun _ _ q => q.elim
    repeat' first
      | with_reducible exact But.refl _ _
      | with_reducible refine But.set ?_ _ _ (.inr ?_)
      | with_reducible refine But.drewN ?_ _
      | with_reducible refine But.drew ?_
      | with_reducible refine But.alloc ?_ _
    all_goals (dsimp only; omega)
set_option maxRecDepth 100000 in
set_option maxHeartbeats 4000000 in
theorem step_3_2_3 (n pc : Int) (r : R4) (w : World) (hp : 0 ≤ pc ∧ pc < 1000000) (hn : In32 n) :
    Calls Tryd.prog 63 #[insV ⟨3, 2, 3, n⟩, .int .i64 pc, regV r] w (StepG (stepP ⟨3, 2, 3, n⟩ pc r) w) := by
  obtain ⟨p0, p1⟩ := hp
  obtain ⟨n0, n1⟩ := hn
  obtain ⟨ra, rb, rc, rd⟩ := r
  go_enter Tryd.func63, Tryd.ntmps63
  go_wp2
  go_quiet (fail)
  go_wp2
  go_region
  all_goals go_wp2
  all_goals go_region
  all_goals go_wp2
  all_goals refine bodyPost_ret (v := .tuple #[.int .i64 (pc + 1), .agg #[.int .i32 ra, .int .i32 rb, .int .i32 (wrap32 (rc - rd)), .int .i32 rd], .agg #[.int .i64 0, .int .i64 0, .int .i32 0]]) (by simp [results, Tryd.results63, go_sem]) rfl ⟨?_, ?_⟩
  · simp [stepP, R4.get, R4.put, Eff.zero, word32_eq]
  · refine But.below (X := Nob) ?_ (Nat.le_refl _) fun _ _ q => q.elim
    repeat' first
      | with_reducible exact But.refl _ _
      | with_reducible refine But.set ?_ _ _ (.inr ?_)
      | with_reducible refine But.drewN ?_ _
      | with_reducible refine But.drew ?_
      | with_reducible refine But.alloc ?_ _
    all_goals (dsimp only; omega)
set_option maxRecDepth 100000 in
set_option maxHeartbeats 4000000 in
theorem step_3_3_0 (n pc : Int) (r : R4) (w : World) (hp : 0 ≤ pc ∧ pc < 1000000) (hn : In32 n) :
    Calls Tryd.prog 63 #[insV ⟨3, 3, 0, n⟩, .int .i64 pc, regV r] w (StepG (stepP ⟨3, 3, 0, n⟩ pc r) w) := by
  obtain ⟨p0, p1⟩ := hp
  obtain ⟨n0, n1⟩ := hn
  obtain ⟨ra, rb, rc, rd⟩ := r
  go_enter Tryd.func63, Tryd.ntmps63
  go_wp2
  go_quiet (fail)
  go_wp2
  go_region
  all_goals go_wp2
  all_goals go_region
  all_goals go_wp2
  all_goals refine bodyPost_ret (v := .tuple #[.int .i64 (pc + 1), .agg #[.int .i32 ra, .int .i32 rb, .int .i32 rc, .int .i32 (wrap32 (rd - ra))], .agg #[.int .i64 0, .int .i64 0, .int .i32 0]]) (by simp [results, Tryd.results63, go_sem]) rfl ⟨?_, ?_⟩
  · simp [stepP, R4.get, R4.put, Eff.zero, word32_eq]
  · refine But.below (X := Nob) ?_ (Nat.le_refl _) fun _ _ q => q.elim
    repeat' first
      | with_reducible exact But.refl _ _
      | with_reducible refine But.set ?_ _ _ (.inr ?_)
      | with_reducible refine But.drewN ?_ _
      | with_reducible refine But.drew ?_
      | with_reducible refine But.alloc ?_ _
    all_goals (dsimp only; omega)
set_option maxRecDepth 100000 in
set_option maxHeartbeats 4000000 in
theorem step_3_3_1 (n pc : Int) (r : R4) (w : World) (hp : 0 ≤ pc ∧ pc < 1000000) (hn : In32 n) :
    Calls Tryd.prog 63 #[insV ⟨3, 3, 1, n⟩, .int .i64 pc, regV r] w (StepG (stepP ⟨3, 3, 1, n⟩ pc r) w) := by
  obtain ⟨p0, p1⟩ := hp
  obtain ⟨n0, n1⟩ := hn
  obtain ⟨ra, rb, rc, rd⟩ := r
  go_enter Tryd.func63, Tryd.ntmps63
  go_wp2
  go_quiet (fail)
  go_wp2
  go_region
  all_goals go_wp2
  all_goals go_region
  all_goals go_wp2
  all_goals refine bodyPost_ret (v := .tuple #[.int .i64 (pc + 1), .agg #[.int .i32 ra, .int .i32 rb, .int .i32 rc, .int .i32 (wrap32 (rd - rb))], .agg #[.int .i64 0, .int .i64 0, .int .i32 0]]) (by simp [results, Tryd.results63, go_sem]) rfl ⟨?_, ?_⟩
  · simp [stepP, R4.get, R4.put, Eff.zero, word32_eq]
  · refine But.below (X := Nob) ?_ (Nat.le_refl _) fun _ _ q => q.elim
    repeat' first
      | with_reducible exact But.refl _ _
      | with_reducible refine But.set ?_ _ _ (.inr ?_)
      | with_reducible refine But.drewN ?_ _
      | with_reducible refine But.drew ?_
      | with_reducible refine But.alloc ?_ _
    all_goals (dsimp only; omega)
set_option maxRecDepth 100000 in
set_option maxHeartbeats 4000000 in
theorem step_3_3_2 (n pc : Int) (r : R4) (w : World) (hp : 0 ≤ pc ∧ pc < 1000000) (hn : In32 n) :
    Calls Tryd.prog 63 #[insV ⟨3, 3, 2, n⟩, .int .i64 pc, regV r] w (StepG (stepP ⟨3, 3, 2, n⟩ pc r) w) := by
  obtain ⟨p0, p1⟩ := hp
  obtain ⟨n0, n1⟩ := hn
  obtain ⟨ra, rb, rc, rd⟩ := r
  go_enter Tryd.func63, Tryd.ntmps63
  go_wp2
  go_quiet (fail)
  go_wp2
  go_region
  all_goals go_wp2
  all_goals go_region
  all_goals go_wp2
  all_goals refine bodyPost_ret (v := .tuple #[.int .i64 (pc + 1), .agg #[.int .i32 ra, .int .i32 rb, .int .i32 rc, .int .i32 (wrap32 (rd - rc))], .agg #[.int .i64 0, .int .i64 0, .int .i32 0]]) (by simp [results, Tryd.results63, go_sem]) rfl ⟨?_, ?_⟩
  · simp [stepP, R4.get, R4.put, Eff.zero, word32_eq]
  · refine But.below (X := Nob) ?_ (Nat.le_refl _) fun _ _ q => q.elim
    repeat' first
      | with_reducible exact But.refl _ _
      | with_reducible refine But.set ?_ _ _ (.inr ?_)
      | with_reducible refine But.drewN ?_ _
      | with_reducible refine But.drew ?_
      | with_reducible refine But.alloc ?_ _
    all_goals (dsimp only; omega)
set_option maxRecDepth 100000 in
set_option maxHeartbeats 4000000 in
theorem step_3_3_3 (n pc : Int) (r : R4) (w : World) (hp : 0 ≤ pc ∧ pc < 1000000) (hn : In32 n) :
    Calls Tryd.prog 63 #[insV ⟨3, 3, 3, n⟩, .int .i64 pc, regV r] w (StepG (stepP ⟨3, 3, 3, n⟩ pc r) w) := by
  obtain ⟨p0, p1⟩ := hp
  obtain ⟨n0, n1⟩ := hn
  obtain ⟨ra, rb, rc, rd⟩ := r
  go_enter Tryd.func63, Tryd.ntmps63
  go_wp2
  go_quiet (fail)
  go_wp2
  go_region
  all_goals go_wp2
  all_goals go_region
  all_goals go_wp2
  all_goals refine bodyPost_ret (v := .tuple #[.int .i64 (pc + 1), .agg #[.int .i32 ra, .int .i32 rb, .int .i32 rc, .int .i32 0], .agg #[.int .i64 0, .int .i64 0, .int .i32 0]]) (by simp [results, Tryd.results63, go_sem]) rfl ⟨?_, ?_⟩
  · simp [stepP, R4.get, R4.put, Eff.zero, word32]
  · refine But.below (X := Nob) ?_ (Nat.le_refl _) fun _ _ q => q.elim
    repeat' first
      | with_reducible exact But.refl _ _
      | with_reducible refine But.set ?_ _ _ (.inr ?_)
      | with_reducible refine But.drewN ?_ _
      | with_reducible refine But.drew ?_
      | with_reducible refine But.alloc ?_ _
    all_goals (dsimp only; omega)
end Go.Proofs.YtilaalleiiakoaaDoor
