/- exec's step, at the instructions 8, 10, 11. -/
import Derived.Test.YtilaalleiiakoaaDoorE0
namespace Go.Proofs.YtilaalleiiakoaaDoor
open Go.RowKit

set_option maxRecDepth 100000 in
set_option maxHeartbeats 4000000 in
theorem step_8_0 (b n pc : Int) (r : R4) (w : World) (hp : 0 ≤ pc ∧ pc < 1000000) (hn : In32 n) :
    Calls Tryd.prog 63 #[insV ⟨8, 0, b, n⟩, .int .i64 pc, regV r] w (StepG (stepP ⟨8, 0, b, n⟩ pc r) w) := by
  obtain ⟨p0, p1⟩ := hp
  obtain ⟨n0, n1⟩ := hn
  obtain ⟨ra, rb, rc, rd⟩ := r
  go_enter Tryd.func63, Tryd.ntmps63
  go_wp2
  go_quiet (fail)
  go_wp2
  go_region
  all_goals go_wp2
  all_goals refine bodyPost_ret (v := .tuple #[.int .i64 (pc + 1), .agg #[.int .i32 ra, .int .i32 rb, .int .i32 rc, .int .i32 rd], .agg #[.int .i64 8, .int .i64 b, .int .i32 ra]]) (by simp [results, Tryd.results63, go_sem]) rfl ⟨?_, ?_⟩
  · simp [stepP, R4.get]
  · refine But.below (X := Nob) ?_ (Nat.le_refl _) fun _ _ q => q.elim
    repeat' first
      | with_reducible exact But.refl _ _
      | with_reducible refine But.set ?_ _ _ (.inr ?_)
      | with_reducible refine But.drewN ?_ _
      | with_reducible refine But.drew ?_
      | with_reducible refine But.alloc ?_ _
    all_goals (dsimp only; omega)
set_option maxRecDepth 100000 in
set_option maxHeartbeats 4000000 in
theorem step_8_1 (b n pc : Int) (r : R4) (w : World) (hp : 0 ≤ pc ∧ pc < 1000000) (hn : In32 n) :
    Calls Tryd.prog 63 #[insV ⟨8, 1, b, n⟩, .int .i64 pc, regV r] w (StepG (stepP ⟨8, 1, b, n⟩ pc r) w) := by
  obtain ⟨p0, p1⟩ := hp
  obtain ⟨n0, n1⟩ := hn
  obtain ⟨ra, rb, rc, rd⟩ := r
  go_enter Tryd.func63, Tryd.ntmps63
  go_wp2
  go_quiet (fail)
  go_wp2
  go_region
  all_goals go_wp2
  all_goals refine bodyPost_ret (v := .tuple #[.int .i64 (pc + 1), .agg #[.int .i32 ra, .int .i32 rb, .int .i32 rc, .int .i32 rd], .agg #[.int .i64 8, .int .i64 b, .int .i32 rb]]) (by simp [results, Tryd.results63, go_sem]) rfl ⟨?_, ?_⟩
  · simp [stepP, R4.get]
  · refine But.below (X := Nob) ?_ (Nat.le_refl _) fun _ _ q => q.elim
    repeat' first
      | with_reducible exact But.refl _ _
      | with_reducible refine But.set ?_ _ _ (.inr ?_)
      | with_reducible refine But.drewN ?_ _
      | with_reducible refine But.drew ?_
      | with_reducible refine But.alloc ?_ _
    all_goals (dsimp only; omega)
set_option maxRecDepth 100000 in
set_option maxHeartbeats 4000000 in
theorem step_8_2 (b n pc : Int) (r : R4) (w : World) (hp : 0 ≤ pc ∧ pc < 1000000) (hn : In32 n) :
    Calls Tryd.prog 63 #[insV ⟨8, 2, b, n⟩, .int .i64 pc, regV r] w (StepG (stepP ⟨8, 2, b, n⟩ pc r) w) := by
  obtain ⟨p0, p1⟩ := hp
  obtain ⟨n0, n1⟩ := hn
  obtain ⟨ra, rb, rc, rd⟩ := r
  go_enter Tryd.func63, Tryd.ntmps63
  go_wp2
  go_quiet (fail)
  go_wp2
  go_region
  all_goals go_wp2
  all_goals refine bodyPost_ret (v := .tuple #[.int .i64 (pc + 1), .agg #[.int .i32 ra, .int .i32 rb, .int .i32 rc, .int .i32 rd], .agg #[.int .i64 8, .int .i64 b, .int .i32 rc]]) (by simp [results, Tryd.results63, go_sem]) rfl ⟨?_, ?_⟩
  · simp [stepP, R4.get]
  · refine But.below (X := Nob) ?_ (Nat.le_refl _) fun _ _ q => q.elim
    repeat' first
      | with_reducible exact But.refl _ _
      | with_reducible refine But.set ?_ _ _ (.inr ?_)
      | with_reducible refine But.drewN ?_ _
      | with_reducible refine But.drew ?_
      | with_reducible refine But.alloc ?_ _
    all_goals (dsimp only; omega)
set_option maxRecDepth 100000 in
set_option maxHeartbeats 4000000 in
theorem step_8_3 (b n pc : Int) (r : R4) (w : World) (hp : 0 ≤ pc ∧ pc < 1000000) (hn : In32 n) :
    Calls Tryd.prog 63 #[insV ⟨8, 3, b, n⟩, .int .i64 pc, regV r] w (StepG (stepP ⟨8, 3, b, n⟩ pc r) w) := by
  obtain ⟨p0, p1⟩ := hp
  obtain ⟨n0, n1⟩ := hn
  obtain ⟨ra, rb, rc, rd⟩ := r
  go_enter Tryd.func63, Tryd.ntmps63
  go_wp2
  go_quiet (fail)
  go_wp2
  go_region
  all_goals go_wp2
  all_goals refine bodyPost_ret (v := .tuple #[.int .i64 (pc + 1), .agg #[.int .i32 ra, .int .i32 rb, .int .i32 rc, .int .i32 rd], .agg #[.int .i64 8, .int .i64 b, .int .i32 rd]]) (by simp [results, Tryd.results63, go_sem]) rfl ⟨?_, ?_⟩
  · simp [stepP, R4.get]
  · refine But.below (X := Nob) ?_ (Nat.le_refl _) fun _ _ q => q.elim
    repeat' first
      | with_reducible exact But.refl _ _
      | with_reducible refine But.set ?_ _ _ (.inr ?_)
      | with_reducible refine But.drewN ?_ _
      | with_reducible refine But.drew ?_
      | with_reducible refine But.alloc ?_ _
    all_goals (dsimp only; omega)
set_option maxRecDepth 100000 in
set_option maxHeartbeats 4000000 in
theorem step_10_0 (b n pc : Int) (r : R4) (w : World) (hp : 0 ≤ pc ∧ pc < 1000000) (hn : In32 n) :
    Calls Tryd.prog 63 #[insV ⟨10, 0, b, n⟩, .int .i64 pc, regV r] w (StepG (stepP ⟨10, 0, b, n⟩ pc r) w) := by
  obtain ⟨p0, p1⟩ := hp
  obtain ⟨n0, n1⟩ := hn
  obtain ⟨ra, rb, rc, rd⟩ := r
  go_enter Tryd.func63, Tryd.ntmps63
  go_wp2
  go_quiet (fail)
  go_wp2
  go_region
  all_goals go_wp2
  all_goals refine bodyPost_ret (v := .tuple #[.int .i64 (pc + 1), .agg #[.int .i32 ra, .int .i32 rb, .int .i32 rc, .int .i32 rd], .agg #[.int .i64 10, .int .i64 0, .int .i32 n]]) (by simp [results, Tryd.results63, go_sem]) rfl ⟨?_, ?_⟩
  · simp [stepP]
  · refine But.below (X := Nob) ?_ (Nat.le_refl _) fun _ _ q => q.elim
    repeat' first
      | with_reducible exact But.refl _ _
      | with_reducible refine But.set ?_ _ _ (.inr ?_)
      | with_reducible refine But.drewN ?_ _
      | with_reducible refine But.drew ?_
      | with_reducible refine But.alloc ?_ _
    all_goals (dsimp only; omega)
set_option maxRecDepth 100000 in
set_option maxHeartbeats 4000000 in
theorem step_10_1 (b n pc : Int) (r : R4) (w : World) (hp : 0 ≤ pc ∧ pc < 1000000) (hn : In32 n) :
    Calls Tryd.prog 63 #[insV ⟨10, 1, b, n⟩, .int .i64 pc, regV r] w (StepG (stepP ⟨10, 1, b, n⟩ pc r) w) := by
  obtain ⟨p0, p1⟩ := hp
  obtain ⟨n0, n1⟩ := hn
  obtain ⟨ra, rb, rc, rd⟩ := r
  go_enter Tryd.func63, Tryd.ntmps63
  go_wp2
  go_quiet (fail)
  go_wp2
  go_region
  all_goals go_wp2
  all_goals refine bodyPost_ret (v := .tuple #[.int .i64 (pc + 1), .agg #[.int .i32 ra, .int .i32 rb, .int .i32 rc, .int .i32 rd], .agg #[.int .i64 10, .int .i64 1, .int .i32 n]]) (by simp [results, Tryd.results63, go_sem]) rfl ⟨?_, ?_⟩
  · simp [stepP]
  · refine But.below (X := Nob) ?_ (Nat.le_refl _) fun _ _ q => q.elim
    repeat' first
      | with_reducible exact But.refl _ _
      | with_reducible refine But.set ?_ _ _ (.inr ?_)
      | with_reducible refine But.drewN ?_ _
      | with_reducible refine But.drew ?_
      | with_reducible refine But.alloc ?_ _
    all_goals (dsimp only; omega)
set_option maxRecDepth 100000 in
set_option maxHeartbeats 4000000 in
theorem step_10_2 (b n pc : Int) (r : R4) (w : World) (hp : 0 ≤ pc ∧ pc < 1000000) (hn : In32 n) :
    Calls Tryd.prog 63 #[insV ⟨10, 2, b, n⟩, .int .i64 pc, regV r] w (StepG (stepP ⟨10, 2, b, n⟩ pc r) w) := by
  obtain ⟨p0, p1⟩ := hp
  obtain ⟨n0, n1⟩ := hn
  obtain ⟨ra, rb, rc, rd⟩ := r
  go_enter Tryd.func63, Tryd.ntmps63
  go_wp2
  go_quiet (fail)
  go_wp2
  go_region
  all_goals go_wp2
  all_goals refine bodyPost_ret (v := .tuple #[.int .i64 (pc + 1), .agg #[.int .i32 ra, .int .i32 rb, .int .i32 rc, .int .i32 rd], .agg #[.int .i64 10, .int .i64 2, .int .i32 n]]) (by simp [results, Tryd.results63, go_sem]) rfl ⟨?_, ?_⟩
  · simp [stepP]
  · refine But.below (X := Nob) ?_ (Nat.le_refl _) fun _ _ q => q.elim
    repeat' first
      | with_reducible exact But.refl _ _
      | with_reducible refine But.set ?_ _ _ (.inr ?_)
      | with_reducible refine But.drewN ?_ _
      | with_reducible refine But.drew ?_
      | with_reducible refine But.alloc ?_ _
    all_goals (dsimp only; omega)
set_option maxRecDepth 100000 in
set_option maxHeartbeats 4000000 in
theorem step_10_3 (b n pc : Int) (r : R4) (w : World) (hp : 0 ≤ pc ∧ pc < 1000000) (hn : In32 n) :
    Calls Tryd.prog 63 #[insV ⟨10, 3, b, n⟩, .int .i64 pc, regV r] w (StepG (stepP ⟨10, 3, b, n⟩ pc r) w) := by
  obtain ⟨p0, p1⟩ := hp
  obtain ⟨n0, n1⟩ := hn
  obtain ⟨ra, rb, rc, rd⟩ := r
  go_enter Tryd.func63, Tryd.ntmps63
  go_wp2
  go_quiet (fail)
  go_wp2
  go_region
  all_goals go_wp2
  all_goals refine bodyPost_ret (v := .tuple #[.int .i64 (pc + 1), .agg #[.int .i32 ra, .int .i32 rb, .int .i32 rc, .int .i32 rd], .agg #[.int .i64 10, .int .i64 3, .int .i32 n]]) (by simp [results, Tryd.results63, go_sem]) rfl ⟨?_, ?_⟩
  · simp [stepP]
  · refine But.below (X := Nob) ?_ (Nat.le_refl _) fun _ _ q => q.elim
    repeat' first
      | with_reducible exact But.refl _ _
      | with_reducible refine But.set ?_ _ _ (.inr ?_)
      | with_reducible refine But.drewN ?_ _
      | with_reducible refine But.drew ?_
      | with_reducible refine But.alloc ?_ _
    all_goals (dsimp only; omega)
set_option maxRecDepth 100000 in
set_option maxHeartbeats 4000000 in
theorem step_11_0 (b n pc : Int) (r : R4) (w : World) (hp : 0 ≤ pc ∧ pc < 1000000) (hn : In32 n) :
    Calls Tryd.prog 63 #[insV ⟨11, 0, b, n⟩, .int .i64 pc, regV r] w (StepG (stepP ⟨11, 0, b, n⟩ pc r) w) := by
  obtain ⟨p0, p1⟩ := hp
  obtain ⟨n0, n1⟩ := hn
  obtain ⟨ra, rb, rc, rd⟩ := r
  go_enter Tryd.func63, Tryd.ntmps63
  go_wp2
  go_quiet (fail)
  go_wp2
  go_region
  all_goals go_wp2
  all_goals refine bodyPost_ret (v := .tuple #[.int .i64 (pc + 1), .agg #[.int .i32 ra, .int .i32 rb, .int .i32 rc, .int .i32 rd], .agg #[.int .i64 11, .int .i64 0, .int .i32 ra]]) (by simp [results, Tryd.results63, go_sem]) rfl ⟨?_, ?_⟩
  · simp [stepP, R4.get]
  · refine But.below (X := Nob) ?_ (Nat.le_refl _) fun _ _ q => q.elim
    repeat' first
      | with_reducible exact But.refl _ _
      | with_reducible refine But.set ?_ _ _ (.inr ?_)
      | with_reducible refine But.drewN ?_ _
      | with_reducible refine But.drew ?_
      | with_reducible refine But.alloc ?_ _
    all_goals (dsimp only; omega)
set_option maxRecDepth 100000 in
set_option maxHeartbeats 4000000 in
theorem step_11_1 (b n pc : Int) (r : R4) (w : World) (hp : 0 ≤ pc ∧ pc < 1000000) (hn : In32 n) :
    Calls Tryd.prog 63 #[insV ⟨11, 1, b, n⟩, .int .i64 pc, regV r] w (StepG (stepP ⟨11, 1, b, n⟩ pc r) w) := by
  obtain ⟨p0, p1⟩ := hp
  obtain ⟨n0, n1⟩ := hn
  obtain ⟨ra, rb, rc, rd⟩ := r
  go_enter Tryd.func63, Tryd.ntmps63
  go_wp2
  go_quiet (fail)
  go_wp2
  go_region
  all_goals go_wp2
  all_goals refine bodyPost_ret (v := .tuple #[.int .i64 (pc + 1), .agg #[.int .i32 ra, .int .i32 rb, .int .i32 rc, .int .i32 rd], .agg #[.int .i64 11, .int .i64 0, .int .i32 rb]]) (by simp [results, Tryd.results63, go_sem]) rfl ⟨?_, ?_⟩
  · simp [stepP, R4.get]
  · refine But.below (X := Nob) ?_ (Nat.le_refl _) fun _ _ q => q.elim
    repeat' first
      | with_reducible exact But.refl _ _
      | with_reducible refine But.set ?_ _ _ (.inr ?_)
      | with_reducible refine But.drewN ?_ _
      | with_reducible refine But.drew ?_
      | with_reducible refine But.alloc ?_ _
    all_goals (dsimp only; omega)
set_option maxRecDepth 100000 in
set_option maxHeartbeats 4000000 in
theorem step_11_2 (b n pc : Int) (r : R4) (w : World) (hp : 0 ≤ pc ∧ pc < 1000000) (hn : In32 n) :
    Calls Tryd.prog 63 #[insV ⟨11, 2, b, n⟩, .int .i64 pc, regV r] w (StepG (stepP ⟨11, 2, b, n⟩ pc r) w) := by
  obtain ⟨p0, p1⟩ := hp
  obtain ⟨n0, n1⟩ := hn
  obtain ⟨ra, rb, rc, rd⟩ := r
  go_enter Tryd.func63, Tryd.ntmps63
  go_wp2
  go_quiet (fail)
  go_wp2
  go_region
  all_goals go_wp2
  all_goals refine bodyPost_ret (v := .tuple #[.int .i64 (pc + 1), .agg #[.int .i32 ra, .int .i32 rb, .int .i32 rc, .int .i32 rd], .agg #[.int .i64 11, .int .i64 0, .int .i32 rc]]) (by simp [results, Tryd.results63, go_sem]) rfl ⟨?_, ?_⟩
  · simp [stepP, R4.get]
  · refine But.below (X := Nob) ?_ (Nat.le_refl _) fun _ _ q => q.elim
    repeat' first
      | with_reducible exact But.refl _ _
      | with_reducible refine But.set ?_ _ _ (.inr ?_)
      | with_reducible refine But.drewN ?_ _
      | with_reducible refine But.drew ?_
      | with_reducible refine But.alloc ?_ _
    all_goals (dsimp only; omega)
set_option maxRecDepth 100000 in
set_option maxHeartbeats 4000000 in
theorem step_11_3 (b n pc : Int) (r : R4) (w : World) (hp : 0 ≤ pc ∧ pc < 1000000) (hn : In32 n) :
    Calls Tryd.prog 63 #[insV ⟨11, 3, b, n⟩, .int .i64 pc, regV r] w (StepG (stepP ⟨11, 3, b, n⟩ pc r) w) := by
  obtain ⟨p0, p1⟩ := hp
  obtain ⟨n0, n1⟩ := hn
  obtain ⟨ra, rb, rc, rd⟩ := r
  go_enter Tryd.func63, Tryd.ntmps63
  go_wp2
  go_quiet (fail)
  go_wp2
  go_region
  all_goals go_wp2
  all_goals refine bodyPost_ret (v := .tuple #[.int .i64 (pc + 1), .agg #[.int .i32 ra, .int .i32 rb, .int .i32 rc, .int .i32 rd], .agg #[.int .i64 11, .int .i64 0, .int .i32 rd]]) (by simp [results, Tryd.results63, go_sem]) rfl ⟨?_, ?_⟩
  · simp [stepP, R4.get]
  · refine But.below (X := Nob) ?_ (Nat.le_refl _) fun _ _ q => q.elim
    repeat' first
      | with_reducible exact But.refl _ _
      | with_reducible refine But.set ?_ _ _ (.inr ?_)
      | with_reducible refine But.drewN ?_ _
      | with_reducible refine But.drew ?_
      | with_reducible refine But.alloc ?_ _
    all_goals (dsimp only; omega)


set_option maxRecDepth 100000 in
set_option maxHeartbeats 4000000 in
theorem step_12_0 (b n pc : Int) (r : R4) (w : World) (hp : 0 ≤ pc ∧ pc < 1000000) (hn : In32 n) :
    Calls Tryd.prog 63 #[insV ⟨12, 0, b, n⟩, .int .i64 pc, regV r] w (StepG (stepP ⟨12, 0, b, n⟩ pc r) w) := by
  obtain ⟨p0, p1⟩ := hp
  obtain ⟨n0, n1⟩ := hn
  obtain ⟨ra, rb, rc, rd⟩ := r
  go_enter Tryd.func63, Tryd.ntmps63
  go_wp2
  go_quiet (fail)
  go_wp2
  go_region
  all_goals go_wp2
  all_goals refine bodyPost_ret (v := .tuple #[.int .i64 (pc + 1), .agg #[.int .i32 ra, .int .i32 rb, .int .i32 rc, .int .i32 rd], .agg #[.int .i64 12, .int .i64 0, .int .i32 n]]) (by simp [results, Tryd.results63, go_sem]) rfl ⟨?_, ?_⟩
  · simp [stepP]
  · refine But.below (X := Nob) ?_ (Nat.le_refl _) fun _ _ q => q.elim
    repeat' first
      | with_reducible exact But.refl _ _
      | with_reducible refine But.set ?_ _ _ (.inr ?_)
      | with_reducible refine But.drewN ?_ _
      | with_reducible refine But.drew ?_
      | with_reducible refine But.alloc ?_ _
    all_goals (dsimp only; omega)
set_option maxRecDepth 100000 in
set_option maxHeartbeats 4000000 in
theorem step_12_1 (b n pc : Int) (r : R4) (w : World) (hp : 0 ≤ pc ∧ pc < 1000000) (hn : In32 n) :
    Calls Tryd.prog 63 #[insV ⟨12, 1, b, n⟩, .int .i64 pc, regV r] w (StepG (stepP ⟨12, 1, b, n⟩ pc r) w) := by
  obtain ⟨p0, p1⟩ := hp
  obtain ⟨n0, n1⟩ := hn
  obtain ⟨ra, rb, rc, rd⟩ := r
  go_enter Tryd.func63, Tryd.ntmps63
  go_wp2
  go_quiet (fail)
  go_wp2
  go_region
  all_goals go_wp2
  all_goals refine bodyPost_ret (v := .tuple #[.int .i64 (pc + 1), .agg #[.int .i32 ra, .int .i32 rb, .int .i32 rc, .int .i32 rd], .agg #[.int .i64 12, .int .i64 1, .int .i32 n]]) (by simp [results, Tryd.results63, go_sem]) rfl ⟨?_, ?_⟩
  · simp [stepP]
  · refine But.below (X := Nob) ?_ (Nat.le_refl _) fun _ _ q => q.elim
    repeat' first
      | with_reducible exact But.refl _ _
      | with_reducible refine But.set ?_ _ _ (.inr ?_)
      | with_reducible refine But.drewN ?_ _
      | with_reducible refine But.drew ?_
      | with_reducible refine But.alloc ?_ _
    all_goals (dsimp only; omega)
set_option maxRecDepth 100000 in
set_option maxHeartbeats 4000000 in
theorem step_12_2 (b n pc : Int) (r : R4) (w : World) (hp : 0 ≤ pc ∧ pc < 1000000) (hn : In32 n) :
    Calls Tryd.prog 63 #[insV ⟨12, 2, b, n⟩, .int .i64 pc, regV r] w (StepG (stepP ⟨12, 2, b, n⟩ pc r) w) := by
  obtain ⟨p0, p1⟩ := hp
  obtain ⟨n0, n1⟩ := hn
  obtain ⟨ra, rb, rc, rd⟩ := r
  go_enter Tryd.func63, Tryd.ntmps63
  go_wp2
  go_quiet (fail)
  go_wp2
  go_region
  all_goals go_wp2
  all_goals refine bodyPost_ret (v := .tuple #[.int .i64 (pc + 1), .agg #[.int .i32 ra, .int .i32 rb, .int .i32 rc, .int .i32 rd], .agg #[.int .i64 12, .int .i64 2, .int .i32 n]]) (by simp [results, Tryd.results63, go_sem]) rfl ⟨?_, ?_⟩
  · simp [stepP]
  · refine But.below (X := Nob) ?_ (Nat.le_refl _) fun _ _ q => q.elim
    repeat' first
      | with_reducible exact But.refl _ _
      | with_reducible refine But.set ?_ _ _ (.inr ?_)
      | with_reducible refine But.drewN ?_ _
      | with_reducible refine But.drew ?_
      | with_reducible refine But.alloc ?_ _
    all_goals (dsimp only; omega)
set_option maxRecDepth 100000 in
set_option maxHeartbeats 4000000 in
theorem step_12_3 (b n pc : Int) (r : R4) (w : World) (hp : 0 ≤ pc ∧ pc < 1000000) (hn : In32 n) :
    Calls Tryd.prog 63 #[insV ⟨12, 3, b, n⟩, .int .i64 pc, regV r] w (StepG (stepP ⟨12, 3, b, n⟩ pc r) w) := by
  obtain ⟨p0, p1⟩ := hp
  obtain ⟨n0, n1⟩ := hn
  obtain ⟨ra, rb, rc, rd⟩ := r
  go_enter Tryd.func63, Tryd.ntmps63
  go_wp2
  go_quiet (fail)
  go_wp2
  go_region
  all_goals go_wp2
  all_goals refine bodyPost_ret (v := .tuple #[.int .i64 (pc + 1), .agg #[.int .i32 ra, .int .i32 rb, .int .i32 rc, .int .i32 rd], .agg #[.int .i64 12, .int .i64 3, .int .i32 n]]) (by simp [results, Tryd.results63, go_sem]) rfl ⟨?_, ?_⟩
  · simp [stepP]
  · refine But.below (X := Nob) ?_ (Nat.le_refl _) fun _ _ q => q.elim
    repeat' first
      | with_reducible exact But.refl _ _
      | with_reducible refine But.set ?_ _ _ (.inr ?_)
      | with_reducible refine But.drewN ?_ _
      | with_reducible refine But.drew ?_
      | with_reducible refine But.alloc ?_ _
    all_goals (dsimp only; omega)
set_option maxRecDepth 100000 in
set_option maxHeartbeats 4000000 in
theorem step_13_0 (b n pc : Int) (r : R4) (w : World) (hp : 0 ≤ pc ∧ pc < 1000000) (hn : In32 n) :
    Calls Tryd.prog 63 #[insV ⟨13, 0, b, n⟩, .int .i64 pc, regV r] w (StepG (stepP ⟨13, 0, b, n⟩ pc r) w) := by
  obtain ⟨p0, p1⟩ := hp
  obtain ⟨n0, n1⟩ := hn
  obtain ⟨ra, rb, rc, rd⟩ := r
  go_enter Tryd.func63, Tryd.ntmps63
  go_wp2
  go_quiet (fail)
  go_wp2
  go_region
  all_goals go_wp2
  all_goals refine bodyPost_ret (v := .tuple #[.int .i64 (pc + 1), .agg #[.int .i32 ra, .int .i32 rb, .int .i32 rc, .int .i32 rd], .agg #[.int .i64 13, .int .i64 0, .int .i32 ra]]) (by simp [results, Tryd.results63, go_sem]) rfl ⟨?_, ?_⟩
  · simp [stepP, R4.get]
  · refine But.below (X := Nob) ?_ (Nat.le_refl _) fun _ _ q => q.elim
    repeat' first
      | with_reducible exact But.refl _ _
      | with_reducible refine But.set ?_ _ _ (.inr ?_)
      | with_reducible refine But.drewN ?_ _
      | with_reducible refine But.drew ?_
      | with_reducible refine But.alloc ?_ _
    all_goals (dsimp only; omega)
set_option maxRecDepth 100000 in
set_option maxHeartbeats 4000000 in
theorem step_13_1 (b n pc : Int) (r : R4) (w : World) (hp : 0 ≤ pc ∧ pc < 1000000) (hn : In32 n) :
    Calls Tryd.prog 63 #[insV ⟨13, 1, b, n⟩, .int .i64 pc, regV r] w (StepG (stepP ⟨13, 1, b, n⟩ pc r) w) := by
  obtain ⟨p0, p1⟩ := hp
  obtain ⟨n0, n1⟩ := hn
  obtain ⟨ra, rb, rc, rd⟩ := r
  go_enter Tryd.func63, Tryd.ntmps63
  go_wp2
  go_quiet (fail)
  go_wp2
  go_region
  all_goals go_wp2
  all_goals refine bodyPost_ret (v := .tuple #[.int .i64 (pc + 1), .agg #[.int .i32 ra, .int .i32 rb, .int .i32 rc, .int .i32 rd], .agg #[.int .i64 13, .int .i64 0, .int .i32 rb]]) (by simp [results, Tryd.results63, go_sem]) rfl ⟨?_, ?_⟩
  · simp [stepP, R4.get]
  · refine But.below (X := Nob) ?_ (Nat.le_refl _) fun _ _ q => q.elim
    repeat' first
      | with_reducible exact But.refl _ _
      | with_reducible refine But.set ?_ _ _ (.inr ?_)
      | with_reducible refine But.drewN ?_ _
      | with_reducible refine But.drew ?_
      | with_reducible refine But.alloc ?_ _
    all_goals (dsimp only; omega)
set_option maxRecDepth 100000 in
set_option maxHeartbeats 4000000 in
theorem step_13_2 (b n pc : Int) (r : R4) (w : World) (hp : 0 ≤ pc ∧ pc < 1000000) (hn : In32 n) :
    Calls Tryd.prog 63 #[insV ⟨13, 2, b, n⟩, .int .i64 pc, regV r] w (StepG (stepP ⟨13, 2, b, n⟩ pc r) w) := by
  obtain ⟨p0, p1⟩ := hp
  obtain ⟨n0, n1⟩ := hn
  obtain ⟨ra, rb, rc, rd⟩ := r
  go_enter Tryd.func63, Tryd.ntmps63
  go_wp2
  go_quiet (fail)
  go_wp2
  go_region
  all_goals go_wp2
  all_goals refine bodyPost_ret (v := .tuple #[.int .i64 (pc + 1), .agg #[.int .i32 ra, .int .i32 rb, .int .i32 rc, .int .i32 rd], .agg #[.int .i64 13, .int .i64 0, .int .i32 rc]]) (by simp [results, Tryd.results63, go_sem]) rfl ⟨?_, ?_⟩
  · simp [stepP, R4.get]
  · refine But.below (X := Nob) ?_ (Nat.le_refl _) fun _ _ q => q.elim
    repeat' first
      | with_reducible exact But.refl _ _
      | with_reducible refine But.set ?_ _ _ (.inr ?_)
      | with_reducible refine But.drewN ?_ _
      | with_reducible refine But.drew ?_
      | with_reducible refine But.alloc ?_ _
    all_goals (dsimp only; omega)
set_option maxRecDepth 100000 in
set_option maxHeartbeats 4000000 in
theorem step_13_3 (b n pc : Int) (r : R4) (w : World) (hp : 0 ≤ pc ∧ pc < 1000000) (hn : In32 n) :
    Calls Tryd.prog 63 #[insV ⟨13, 3, b, n⟩, .int .i64 pc, regV r] w (StepG (stepP ⟨13, 3, b, n⟩ pc r) w) := by
  obtain ⟨p0, p1⟩ := hp
  obtain ⟨n0, n1⟩ := hn
  obtain ⟨ra, rb, rc, rd⟩ := r
  go_enter Tryd.func63, Tryd.ntmps63
  go_wp2
  go_quiet (fail)
  go_wp2
  go_region
  all_goals go_wp2
  all_goals refine bodyPost_ret (v := .tuple #[.int .i64 (pc + 1), .agg #[.int .i32 ra, .int .i32 rb, .int .i32 rc, .int .i32 rd], .agg #[.int .i64 13, .int .i64 0, .int .i32 rd]]) (by simp [results, Tryd.results63, go_sem]) rfl ⟨?_, ?_⟩
  · simp [stepP, R4.get]
  · refine But.below (X := Nob) ?_ (Nat.le_refl _) fun _ _ q => q.elim
    repeat' first
      | with_reducible exact But.refl _ _
      | with_reducible refine But.set ?_ _ _ (.inr ?_)
      | with_reducible refine But.drewN ?_ _
      | with_reducible refine But.drew ?_
      | with_reducible refine But.alloc ?_ _
    all_goals (dsimp only; omega)
set_option maxRecDepth 100000 in
set_option maxHeartbeats 4000000 in
theorem step_14_0 (b n pc : Int) (r : R4) (w : World) (hp : 0 ≤ pc ∧ pc < 1000000) (hn : In32 n) :
    Calls Tryd.prog 63 #[insV ⟨14, 0, b, n⟩, .int .i64 pc, regV r] w (StepG (stepP ⟨14, 0, b, n⟩ pc r) w) := by
  obtain ⟨p0, p1⟩ := hp
  obtain ⟨n0, n1⟩ := hn
  obtain ⟨ra, rb, rc, rd⟩ := r
  go_enter Tryd.func63, Tryd.ntmps63
  go_wp2
  go_quiet (fail)
  go_wp2
  go_region
  all_goals go_wp2
  all_goals refine bodyPost_ret (v := .tuple #[.int .i64 pc, .agg #[.int .i32 ra, .int .i32 rb, .int .i32 rc, .int .i32 rd], .agg #[.int .i64 14, .int .i64 0, .int .i32 ra]]) (by simp [results, Tryd.results63, go_sem]) rfl ⟨?_, ?_⟩
  · simp [stepP, R4.get]
  · refine But.below (X := Nob) ?_ (Nat.le_refl _) fun _ _ q => q.elim
    repeat' first
      | with_reducible exact But.refl _ _
      | with_reducible refine But.set ?_ _ _ (.inr ?_)
      | with_reducible refine But.drewN ?_ _
      | with_reducible refine But.drew ?_
      | with_reducible refine But.alloc ?_ _
    all_goals (dsimp only; omega)
set_option maxRecDepth 100000 in
set_option maxHeartbeats 4000000 in
theorem step_14_1 (b n pc : Int) (r : R4) (w : World) (hp : 0 ≤ pc ∧ pc < 1000000) (hn : In32 n) :
    Calls Tryd.prog 63 #[insV ⟨14, 1, b, n⟩, .int .i64 pc, regV r] w (StepG (stepP ⟨14, 1, b, n⟩ pc r) w) := by
  obtain ⟨p0, p1⟩ := hp
  obtain ⟨n0, n1⟩ := hn
  obtain ⟨ra, rb, rc, rd⟩ := r
  go_enter Tryd.func63, Tryd.ntmps63
  go_wp2
  go_quiet (fail)
  go_wp2
  go_region
  all_goals go_wp2
  all_goals refine bodyPost_ret (v := .tuple #[.int .i64 pc, .agg #[.int .i32 ra, .int .i32 rb, .int .i32 rc, .int .i32 rd], .agg #[.int .i64 14, .int .i64 0, .int .i32 rb]]) (by simp [results, Tryd.results63, go_sem]) rfl ⟨?_, ?_⟩
  · simp [stepP, R4.get]
  · refine But.below (X := Nob) ?_ (Nat.le_refl _) fun _ _ q => q.elim
    repeat' first
      | with_reducible exact But.refl _ _
      | with_reducible refine But.set ?_ _ _ (.inr ?_)
      | with_reducible refine But.drewN ?_ _
      | with_reducible refine But.drew ?_
      | with_reducible refine But.alloc ?_ _
    all_goals (dsimp only; omega)
set_option maxRecDepth 100000 in
set_option maxHeartbeats 4000000 in
theorem step_14_2 (b n pc : Int) (r : R4) (w : World) (hp : 0 ≤ pc ∧ pc < 1000000) (hn : In32 n) :
    Calls Tryd.prog 63 #[insV ⟨14, 2, b, n⟩, .int .i64 pc, regV r] w (StepG (stepP ⟨14, 2, b, n⟩ pc r) w) := by
  obtain ⟨p0, p1⟩ := hp
  obtain ⟨n0, n1⟩ := hn
  obtain ⟨ra, rb, rc, rd⟩ := r
  go_enter Tryd.func63, Tryd.ntmps63
  go_wp2
  go_quiet (fail)
  go_wp2
  go_region
  all_goals go_wp2
  all_goals refine bodyPost_ret (v := .tuple #[.int .i64 pc, .agg #[.int .i32 ra, .int .i32 rb, .int .i32 rc, .int .i32 rd], .agg #[.int .i64 14, .int .i64 0, .int .i32 rc]]) (by simp [results, Tryd.results63, go_sem]) rfl ⟨?_, ?_⟩
  · simp [stepP, R4.get]
  · refine But.below (X := Nob) ?_ (Nat.le_refl _) fun _ _ q => q.elim
    repeat' first
      | with_reducible exact But.refl _ _
      | with_reducible refine But.set ?_ _ _ (.inr ?_)
      | with_reducible refine But.drewN ?_ _
      | with_reducible refine But.drew ?_
      | with_reducible refine But.alloc ?_ _
    all_goals (dsimp only; omega)
set_option maxRecDepth 100000 in
set_option maxHeartbeats 4000000 in
theorem step_14_3 (b n pc : Int) (r : R4) (w : World) (hp : 0 ≤ pc ∧ pc < 1000000) (hn : In32 n) :
    Calls Tryd.prog 63 #[insV ⟨14, 3, b, n⟩, .int .i64 pc, regV r] w (StepG (stepP ⟨14, 3, b, n⟩ pc r) w) := by
  obtain ⟨p0, p1⟩ := hp
  obtain ⟨n0, n1⟩ := hn
  obtain ⟨ra, rb, rc, rd⟩ := r
  go_enter Tryd.func63, Tryd.ntmps63
  go_wp2
  go_quiet (fail)
  go_wp2
  go_region
  all_goals go_wp2
  all_goals refine bodyPost_ret (v := .tuple #[.int .i64 pc, .agg #[.int .i32 ra, .int .i32 rb, .int .i32 rc, .int .i32 rd], .agg #[.int .i64 14, .int .i64 0, .int .i32 rd]]) (by simp [results, Tryd.results63, go_sem]) rfl ⟨?_, ?_⟩
  · simp [stepP, R4.get]
  · refine But.below (X := Nob) ?_ (Nat.le_refl _) fun _ _ q => q.elim
    repeat' first
      | with_reducible exact But.refl _ _
      | with_reducible refine But.set ?_ _ _ (.inr ?_)
      | with_reducible refine But.drewN ?_ _
      | with_reducible refine But.drew ?_
      | with_reducible refine But.alloc ?_ _
    all_goals (dsimp only; omega)
end Go.Proofs.YtilaalleiiakoaaDoor
