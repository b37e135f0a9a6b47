/- The document's step, at the instructions 3. -/
import Derived.Test.YtilaalleiiakoaaDoorF0
import Derived.Deep.DeepCutAuto
import Derived.StillTailTactics
namespace Go.Proofs.YtilaalleiiakoaaDoor
open Go.RowKit

set_option maxRecDepth 100000 in
set_option maxHeartbeats 4000000 in
theorem ref_3_0_0 (n : Int) (prio : Int) (A : Option Addr) (l : List I4) (cap k : Nat) (r : R4) (w : World) (hI : InsIn w A l) (hx : l[k]? = some ⟨3, 0, 0, n⟩) (hf : Fine prio l) (hr : r.Ok) :
    Calls Tryd.prog 21 #[.agg #[.int .i64 prio, .slice A l.length cap], .int .i64 k, regV r] w (StepG (stepP ⟨3, 0, 0, n⟩ k r) w) := by
  have hF := Four.new w prio A l.length cap r
  have HC := refCheck_any prio A l cap _ (hI.below hF.below)
  unfold CheckP at HC
  rw [hf.ok] at HC
  have HC := Lib.hid HC; have HF := Lib.hid hF
  have kl : k < l.length := (List.getElem?_eq_some_iff.1 hx).1
  have kl64 : l.length ≤ 64 := hf.len.2
  have HI := Lib.hid hI; have HX := Lib.hid hx
  clear hF hI hf hx
  generalize l.length = N at *
  obtain ⟨ra, rb, rc, rd⟩ := r
  obtain ⟨⟨a0, a1⟩, ⟨b0, b1⟩, ⟨g0, g1⟩, ⟨d0, d1⟩⟩ := hr
  dsimp only at a0 a1 b0 b1 g0 g1 d0 d1
  go_enter Tryd.func21, Tryd.ntmps21
  go_wp2_with fail
  refine HC.out.mono ?_
  rintro e w2 ⟨rfl, h2⟩
  have HF2 := Lib.hid (HF.out.on h2)
  clear h2 HC HF
  obtain ⟨p0, p1, q0, q1, q2, q3, -⟩ := HF2.out.cells
  obtain ⟨ft, bb, off, rfl, -, c0, c1, c2, c3⟩ := (HI.out.below HF2.out.below) k _ HX.out
  obtain ⟨n0, n1⟩ := ft.n
  have k0 : (0 : Int) ≤ (k : Int) := by omega
  have k1 : (k : Int) < (N : Int) := by omega
  have t0 : decide ((k : Int) < 0) = false := by simp
  have t1 : decide (N ≤ k) = false := by simp; omega
  dsimp only at c0 c1 c2 c3 q0 q1 q2 q3 n0 n1
  clear ft
  go_upto_region 6 with fail
  have HS := Lib.hid (Six.new HF2.out ⟨3, 0, 0, n⟩)
  dsimp only at HS
  generalize (w2.alloc (.cells #[.int .i64 3, .int .i64 0, .int .i64 0, .int .i32 n] 59)).alloc (.cells #[.int .i64 0, .int .i64 0, .int .i32 0] 61) = W3 at *
  clear p0 p1 q0 q1 q2 q3 c0 c1 c2 c3 t0 t1
  obtain ⟨p0, p1, q0, q1, q2, q3, z0, z1, z2, z3, f0, f1, f2, hlt⟩ := HS.out.four.cells
  obtain ⟨uq, uz, uf⟩ := HS.out.four.frees
  obtain ⟨x0, x1, x2, x3, e0, e1, e2, hlt2, ue, hlt3⟩ := HS.out.cells
  dsimp only at q0 q1 q2 q3 x0 x1 x2 x3
  generalize w2.heap.size = B at *
  go_wp2_with fail
  refine wp_region_still_tail 15 (by kernel_rfl) (by kernel_rfl) ?_
  simp only [List.take_succ_cons, List.take_zero, List.drop_succ_cons, List.drop_zero]
  repeat still_step
  still_call (flipW (round_any _) _)
  repeat still_step
  refine wpStill_nil ?_
  change wpList _ _ _ _ _ W3.drew
  have HS4 := Lib.hid HS.out.drew
  clear p0 p1 q0 q1 q2 q3 z0 z1 z2 z3 f0 f1 f2 hlt uq uz uf x0 x1 x2 x3 e0 e1 e2 hlt2 ue hlt3 HS
  generalize W3.drew = W4 at *
  have HS := HS4; clear HS4
  obtain ⟨p0, p1, q0, q1, q2, q3, z0, z1, z2, z3, f0, f1, f2, hlt⟩ := HS.out.four.cells
  obtain ⟨uq, uz, uf⟩ := HS.out.four.frees
  obtain ⟨x0, x1, x2, x3, e0, e1, e2, hlt2, ue, hlt3⟩ := HS.out.cells
  dsimp only at q0 q1 q2 q3 x0 x1 x2 x3
  go_wp2_with fail
  go_region
  all_goals go_wp2
  all_goals refine bodyPost_ret (v := .tuple #[.int .i64 (k + 1), .agg #[.int .i32 (word32 (ra - ra)), .int .i32 rb, .int .i32 rc, .int .i32 rd], .agg #[.int .i64 0, .int .i64 0, .int .i32 0]]) (by simp [results, Tryd.results21, go_sem, *]) rfl ⟨?_, ?_⟩
  · simp [stepP, R4.get, R4.put, Eff.zero]
  · refine HS.out.four.below.trans (But.below (X := fun k => w.heap.size ≤ k) ?_ HS.out.four.below.size fun _ _ q => q)
    repeat' first
      | with_reducible exact But.refl _ _
      | with_reducible refine But.set ?_ _ _ (.inl ?_)
      | with_reducible refine But.drewN ?_ _
      | with_reducible refine But.drew ?_
      | with_reducible refine But.alloc ?_ _
    all_goals (dsimp only; omega)
set_option maxRecDepth 100000 in
set_option maxHeartbeats 4000000 in
theorem ref_3_0_1 (n : Int) (prio : Int) (A : Option Addr) (l : List I4) (cap k : Nat) (r : R4) (w : World) (hI : InsIn w A l) (hx : l[k]? = some ⟨3, 0, 1, n⟩) (hf : Fine prio l) (hr : r.Ok) :
    Calls Tryd.prog 21 #[.agg #[.int .i64 prio, .slice A l.length cap], .int .i64 k, regV r] w (StepG (stepP ⟨3, 0, 1, n⟩ k r) w) := by
  have hF := Four.new w prio A l.length cap r
  have HC := refCheck_any prio A l cap _ (hI.below hF.below)
  unfold CheckP at HC
  rw [hf.ok] at HC
  have HC := Lib.hid HC; have HF := Lib.hid hF
  have kl : k < l.length := (List.getElem?_eq_some_iff.1 hx).1
  have kl64 : l.length ≤ 64 := hf.len.2
  have HI := Lib.hid hI; have HX := Lib.hid hx
  clear hF hI hf hx
  generalize l.length = N at *
  obtain ⟨ra, rb, rc, rd⟩ := r
  obtain ⟨⟨a0, a1⟩, ⟨b0, b1⟩, ⟨g0, g1⟩, ⟨d0, d1⟩⟩ := hr
  dsimp only at a0 a1 b0 b1 g0 g1 d0 d1
  go_enter Tryd.func21, Tryd.ntmps21
  go_wp2_with fail
  refine HC.out.mono ?_
  rintro e w2 ⟨rfl, h2⟩
  have HF2 := Lib.hid (HF.out.on h2)
  clear h2 HC HF
  obtain ⟨p0, p1, q0, q1, q2, q3, -⟩ := HF2.out.cells
  obtain ⟨ft, bb, off, rfl, -, c0, c1, c2, c3⟩ := (HI.out.below HF2.out.below) k _ HX.out
  obtain ⟨n0, n1⟩ := ft.n
  have k0 : (0 : Int) ≤ (k : Int) := by omega
  have k1 : (k : Int) < (N : Int) := by omega
  have t0 : decide ((k : Int) < 0) = false := by simp
  have t1 : decide (N ≤ k) = false := by simp; omega
  dsimp only at c0 c1 c2 c3 q0 q1 q2 q3 n0 n1
  clear ft
  go_upto_region 6 with fail
  have HS := Lib.hid (Six.new HF2.out ⟨3, 0, 1, n⟩)
  dsimp only at HS
  generalize (w2.alloc (.cells #[.int .i64 3, .int .i64 0, .int .i64 1, .int .i32 n] 59)).alloc (.cells #[.int .i64 0, .int .i64 0, .int .i32 0] 61) = W3 at *
  clear p0 p1 q0 q1 q2 q3 c0 c1 c2 c3 t0 t1
  obtain ⟨p0, p1, q0, q1, q2, q3, z0, z1, z2, z3, f0, f1, f2, hlt⟩ := HS.out.four.cells
  obtain ⟨uq, uz, uf⟩ := HS.out.four.frees
  obtain ⟨x0, x1, x2, x3, e0, e1, e2, hlt2, ue, hlt3⟩ := HS.out.cells
  dsimp only at q0 q1 q2 q3 x0 x1 x2 x3
  generalize w2.heap.size = B at *
  go_wp2_with fail
  refine wp_region_still_tail 15 (by kernel_rfl) (by kernel_rfl) ?_
  simp only [List.take_succ_cons, List.take_zero, List.drop_succ_cons, List.drop_zero]
  repeat still_step
  still_call (flipW (round_any _) _)
  repeat still_step
  refine wpStill_nil ?_
  change wpList _ _ _ _ _ W3.drew
  have HS4 := Lib.hid HS.out.drew
  clear p0 p1 q0 q1 q2 q3 z0 z1 z2 z3 f0 f1 f2 hlt uq uz uf x0 x1 x2 x3 e0 e1 e2 hlt2 ue hlt3 HS
  generalize W3.drew = W4 at *
  have HS := HS4; clear HS4
  obtain ⟨p0, p1, q0, q1, q2, q3, z0, z1, z2, z3, f0, f1, f2, hlt⟩ := HS.out.four.cells
  obtain ⟨uq, uz, uf⟩ := HS.out.four.frees
  obtain ⟨x0, x1, x2, x3, e0, e1, e2, hlt2, ue, hlt3⟩ := HS.out.cells
  dsimp only at q0 q1 q2 q3 x0 x1 x2 x3
  go_wp2_with fail
  go_region
  all_goals go_wp2
  all_goals refine bodyPost_ret (v := .tuple #[.int .i64 (k + 1), .agg #[.int .i32 (word32 (ra - rb)), .int .i32 rb, .int .i32 rc, .int .i32 rd], .agg #[.int .i64 0, .int .i64 0, .int .i32 0]]) (by simp [results, Tryd.results21, go_sem, *]) rfl ⟨?_, ?_⟩
  · simp [stepP, R4.get, R4.put, Eff.zero]
  · refine HS.out.four.below.trans (But.below (X := fun k => w.heap.size ≤ k) ?_ HS.out.four.below.size fun _ _ q => q)
    repeat' first
      | with_reducible exact But.refl _ _
      | with_reducible refine But.set ?_ _ _ (.inl ?_)
      | with_reducible refine But.drewN ?_ _
      | with_reducible refine But.drew ?_
      | with_reducible refine But.alloc ?_ _
    all_goals (dsimp only; omega)
set_option maxRecDepth 100000 in
set_option maxHeartbeats 4000000 in
theorem ref_3_0_2 (n : Int) (prio : Int) (A : Option Addr) (l : List I4) (cap k : Nat) (r : R4) (w : World) (hI : InsIn w A l) (hx : l[k]? = some ⟨3, 0, 2, n⟩) (hf : Fine prio l) (hr : r.Ok) :
    Calls Tryd.prog 21 #[.agg #[.int .i64 prio, .slice A l.length cap], .int .i64 k, regV r] w (StepG (stepP ⟨3, 0, 2, n⟩ k r) w) := by
  have hF := Four.new w prio A l.length cap r
  have HC := refCheck_any prio A l cap _ (hI.below hF.below)
  unfold CheckP at HC
  rw [hf.ok] at HC
  have HC := Lib.hid HC; have HF := Lib.hid hF
  have kl : k < l.length := (List.getElem?_eq_some_iff.1 hx).1
  have kl64 : l.length ≤ 64 := hf.len.2
  have HI := Lib.hid hI; have HX := Lib.hid hx
  clear hF hI hf hx
  generalize l.length = N at *
  obtain ⟨ra, rb, rc, rd⟩ := r
  obtain ⟨⟨a0, a1⟩, ⟨b0, b1⟩, ⟨g0, g1⟩, ⟨d0, d1⟩⟩ := hr
  dsimp only at a0 a1 b0 b1 g0 g1 d0 d1
  go_enter Tryd.func21, Tryd.ntmps21
  go_wp2_with fail
  refine HC.out.mono ?_
  rintro e w2 ⟨rfl, h2⟩
  have HF2 := Lib.hid (HF.out.on h2)
  clear h2 HC HF
  obtain ⟨p0, p1, q0, q1, q2, q3, -⟩ := HF2.out.cells
  obtain ⟨ft, bb, off, rfl, -, c0, c1, c2, c3⟩ := (HI.out.below HF2.out.below) k _ HX.out
  obtain ⟨n0, n1⟩ := ft.n
  have k0 : (0 : Int) ≤ (k : Int) := by omega
  have k1 : (k : Int) < (N : Int) := by omega
  have t0 : decide ((k : Int) < 0) = false := by simp
  have t1 : decide (N ≤ k) = false := by simp; omega
  dsimp only at c0 c1 c2 c3 q0 q1 q2 q3 n0 n1
  clear ft
  go_upto_region 6 with fail
  have HS := Lib.hid (Six.new HF2.out ⟨3, 0, 2, n⟩)
  dsimp only at HS
  generalize (w2.alloc (.cells #[.int .i64 3, .int .i64 0, .int .i64 2, .int .i32 n] 59)).alloc (.cells #[.int .i64 0, .int .i64 0, .int .i32 0] 61) = W3 at *
  clear p0 p1 q0 q1 q2 q3 c0 c1 c2 c3 t0 t1
  obtain ⟨p0, p1, q0, q1, q2, q3, z0, z1, z2, z3, f0, f1, f2, hlt⟩ := HS.out.four.cells
  obtain ⟨uq, uz, uf⟩ := HS.out.four.frees
  obtain ⟨x0, x1, x2, x3, e0, e1, e2, hlt2, ue, hlt3⟩ := HS.out.cells
  dsimp only at q0 q1 q2 q3 x0 x1 x2 x3
  generalize w2.heap.size = B at *
  go_wp2_with fail
  refine wp_region_still_tail 15 (by kernel_rfl) (by kernel_rfl) ?_
  simp only [List.take_succ_cons, List.take_zero, List.drop_succ_cons, List.drop_zero]
  repeat still_step
  still_call (flipW (round_any _) _)
  repeat still_step
  refine wpStill_nil ?_
  change wpList _ _ _ _ _ W3.drew
  have HS4 := Lib.hid HS.out.drew
  clear p0 p1 q0 q1 q2 q3 z0 z1 z2 z3 f0 f1 f2 hlt uq uz uf x0 x1 x2 x3 e0 e1 e2 hlt2 ue hlt3 HS
  generalize W3.drew = W4 at *
  have HS := HS4; clear HS4
  obtain ⟨p0, p1, q0, q1, q2, q3, z0, z1, z2, z3, f0, f1, f2, hlt⟩ := HS.out.four.cells
  obtain ⟨uq, uz, uf⟩ := HS.out.four.frees
  obtain ⟨x0, x1, x2, x3, e0, e1, e2, hlt2, ue, hlt3⟩ := HS.out.cells
  dsimp only at q0 q1 q2 q3 x0 x1 x2 x3
  go_wp2_with fail
  go_region
  all_goals go_wp2
  all_goals refine bodyPost_ret (v := .tuple #[.int .i64 (k + 1), .agg #[.int .i32 (word32 (ra - rc)), .int .i32 rb, .int .i32 rc, .int .i32 rd], .agg #[.int .i64 0, .int .i64 0, .int .i32 0]]) (by simp [results, Tryd.results21, go_sem, *]) rfl ⟨?_, ?_⟩
  · simp [stepP, R4.get, R4.put, Eff.zero]
  · refine HS.out.four.below.trans (But.below (X := fun k => w.heap.size ≤ k) ?_ HS.out.four.below.size fun _ _ q => q)
    repeat' first
      | with_reducible exact But.refl _ _
      | with_reducible refine But.set ?_ _ _ (.inl ?_)
      | with_reducible refine But.drewN ?_ _
      | with_reducible refine But.drew ?_
      | with_reducible refine But.alloc ?_ _
    all_goals (dsimp only; omega)
set_option maxRecDepth 100000 in
set_option maxHeartbeats 4000000 in
theorem ref_3_0_3 (n : Int) (prio : Int) (A : Option Addr) (l : List I4) (cap k : Nat) (r : R4) (w : World) (hI : InsIn w A l) (hx : l[k]? = some ⟨3, 0, 3, n⟩) (hf : Fine prio l) (hr : r.Ok) :
    Calls Tryd.prog 21 #[.agg #[.int .i64 prio, .slice A l.length cap], .int .i64 k, regV r] w (StepG (stepP ⟨3, 0, 3, n⟩ k r) w) := by
  have hF := Four.new w prio A l.length cap r
  have HC := refCheck_any prio A l cap _ (hI.below hF.below)
  unfold CheckP at HC
  rw [hf.ok] at HC
  have HC := Lib.hid HC; have HF := Lib.hid hF
  have kl : k < l.length := (List.getElem?_eq_some_iff.1 hx).1
  have kl64 : l.length ≤ 64 := hf.len.2
  have HI := Lib.hid hI; have HX := Lib.hid hx
  clear hF hI hf hx
  generalize l.length = N at *
  obtain ⟨ra, rb, rc, rd⟩ := r
  obtain ⟨⟨a0, a1⟩, ⟨b0, b1⟩, ⟨g0, g1⟩, ⟨d0, d1⟩⟩ := hr
  dsimp only at a0 a1 b0 b1 g0 g1 d0 d1
  go_enter Tryd.func21, Tryd.ntmps21
  go_wp2_with fail
  refine HC.out.mono ?_
  rintro e w2 ⟨rfl, h2⟩
  have HF2 := Lib.hid (HF.out.on h2)
  clear h2 HC HF
  obtain ⟨p0, p1, q0, q1, q2, q3, -⟩ := HF2.out.cells
  obtain ⟨ft, bb, off, rfl, -, c0, c1, c2, c3⟩ := (HI.out.below HF2.out.below) k _ HX.out
  obtain ⟨n0, n1⟩ := ft.n
  have k0 : (0 : Int) ≤ (k : Int) := by omega
  have k1 : (k : Int) < (N : Int) := by omega
  have t0 : decide ((k : Int) < 0) = false := by simp
  have t1 : decide (N ≤ k) = false := by simp; omega
  dsimp only at c0 c1 c2 c3 q0 q1 q2 q3 n0 n1
  clear ft
  go_upto_region 6 with fail
  have HS := Lib.hid (Six.new HF2.out ⟨3, 0, 3, n⟩)
  dsimp only at HS
  generalize (w2.alloc (.cells #[.int .i64 3, .int .i64 0, .int .i64 3, .int .i32 n] 59)).alloc (.cells #[.int .i64 0, .int .i64 0, .int .i32 0] 61) = W3 at *
  clear p0 p1 q0 q1 q2 q3 c0 c1 c2 c3 t0 t1
  obtain ⟨p0, p1, q0, q1, q2, q3, z0, z1, z2, z3, f0, f1, f2, hlt⟩ := HS.out.four.cells
  obtain ⟨uq, uz, uf⟩ := HS.out.four.frees
  obtain ⟨x0, x1, x2, x3, e0, e1, e2, hlt2, ue, hlt3⟩ := HS.out.cells
  dsimp only at q0 q1 q2 q3 x0 x1 x2 x3
  generalize w2.heap.size = B at *
  go_wp2_with fail
  refine wp_region_still_tail 15 (by kernel_rfl) (by kernel_rfl) ?_
  simp only [List.take_succ_cons, List.take_zero, List.drop_succ_cons, List.drop_zero]
  repeat still_step
  still_call (flipW (round_any _) _)
  repeat still_step
  refine wpStill_nil ?_
  change wpList _ _ _ _ _ W3.drew
  have HS4 := Lib.hid HS.out.drew
  clear p0 p1 q0 q1 q2 q3 z0 z1 z2 z3 f0 f1 f2 hlt uq uz uf x0 x1 x2 x3 e0 e1 e2 hlt2 ue hlt3 HS
  generalize W3.drew = W4 at *
  have HS := HS4; clear HS4
  obtain ⟨p0, p1, q0, q1, q2, q3, z0, z1, z2, z3, f0, f1, f2, hlt⟩ := HS.out.four.cells
  obtain ⟨uq, uz, uf⟩ := HS.out.four.frees
  obtain ⟨x0, x1, x2, x3, e0, e1, e2, hlt2, ue, hlt3⟩ := HS.out.cells
  dsimp only at q0 q1 q2 q3 x0 x1 x2 x3
  go_wp2_with fail
  go_region
  all_goals go_wp2
  all_goals refine bodyPost_ret (v := .tuple #[.int .i64 (k + 1), .agg #[.int .i32 (word32 (ra - rd)), .int .i32 rb, .int .i32 rc, .int .i32 rd], .agg #[.int .i64 0, .int .i64 0, .int .i32 0]]) (by simp [results, Tryd.results21, go_sem, *]) rfl ⟨?_, ?_⟩
  · simp [stepP, R4.get, R4.put, Eff.zero]
  · refine HS.out.four.below.trans (But.below (X := fun k => w.heap.size ≤ k) ?_ HS.out.four.below.size fun _ _ q => q)
    repeat' first
      | with_reducible exact But.refl _ _
      | with_reducible refine But.set ?_ _ _ (.inl ?_)
      | with_reducible refine But.drewN ?_ _
      | with_reducible refine But.drew ?_
      | with_reducible refine But.alloc ?_ _
    all_goals (dsimp only; omega)
set_option maxRecDepth 100000 in
set_option maxHeartbeats 4000000 in
theorem ref_3_1_0 (n : Int) (prio : Int) (A : Option Addr) (l : List I4) (cap k : Nat) (r : R4) (w : World) (hI : InsIn w A l) (hx : l[k]? = some ⟨3, 1, 0, n⟩) (hf : Fine prio l) (hr : r.Ok) :
    Calls Tryd.prog 21 #[.agg #[.int .i64 prio, .slice A l.length cap], .int .i64 k, regV r] w (StepG (stepP ⟨3, 1, 0, n⟩ k r) w) := by
  have hF := Four.new w prio A l.length cap r
  have HC := refCheck_any prio A l cap _ (hI.below hF.below)
  unfold CheckP at HC
  rw [hf.ok] at HC
  have HC := Lib.hid HC; have HF := Lib.hid hF
  have kl : k < l.length := (List.getElem?_eq_some_iff.1 hx).1
  have kl64 : l.length ≤ 64 := hf.len.2
  have HI := Lib.hid hI; have HX := Lib.hid hx
  clear hF hI hf hx
  generalize l.length = N at *
  obtain ⟨ra, rb, rc, rd⟩ := r
  obtain ⟨⟨a0, a1⟩, ⟨b0, b1⟩, ⟨g0, g1⟩, ⟨d0, d1⟩⟩ := hr
  dsimp only at a0 a1 b0 b1 g0 g1 d0 d1
  go_enter Tryd.func21, Tryd.ntmps21
  go_wp2_with fail
  refine HC.out.mono ?_
  rintro e w2 ⟨rfl, h2⟩
  have HF2 := Lib.hid (HF.out.on h2)
  clear h2 HC HF
  obtain ⟨p0, p1, q0, q1, q2, q3, -⟩ := HF2.out.cells
  obtain ⟨ft, bb, off, rfl, -, c0, c1, c2, c3⟩ := (HI.out.below HF2.out.below) k _ HX.out
  obtain ⟨n0, n1⟩ := ft.n
  have k0 : (0 : Int) ≤ (k : Int) := by omega
  have k1 : (k : Int) < (N : Int) := by omega
  have t0 : decide ((k : Int) < 0) = false := by simp
  have t1 : decide (N ≤ k) = false := by simp; omega
  dsimp only at c0 c1 c2 c3 q0 q1 q2 q3 n0 n1
  clear ft
  go_upto_region 6 with fail
  have HS := Lib.hid (Six.new HF2.out ⟨3, 1, 0, n⟩)
  dsimp only at HS
  generalize (w2.alloc (.cells #[.int .i64 3, .int .i64 1, .int .i64 0, .int .i32 n] 59)).alloc (.cells #[.int .i64 0, .int .i64 0, .int .i32 0] 61) = W3 at *
  clear p0 p1 q0 q1 q2 q3 c0 c1 c2 c3 t0 t1
  obtain ⟨p0, p1, q0, q1, q2, q3, z0, z1, z2, z3, f0, f1, f2, hlt⟩ := HS.out.four.cells
  obtain ⟨uq, uz, uf⟩ := HS.out.four.frees
  obtain ⟨x0, x1, x2, x3, e0, e1, e2, hlt2, ue, hlt3⟩ := HS.out.cells
  dsimp only at q0 q1 q2 q3 x0 x1 x2 x3
  generalize w2.heap.size = B at *
  go_wp2_with fail
  refine wp_region_still_tail 15 (by kernel_rfl) (by kernel_rfl) ?_
  simp only [List.take_succ_cons, List.take_zero, List.drop_succ_cons, List.drop_zero]
  repeat still_step
  still_call (flipW (round_any _) _)
  repeat still_step
  refine wpStill_nil ?_
  change wpList _ _ _ _ _ W3.drew
  have HS4 := Lib.hid HS.out.drew
  clear p0 p1 q0 q1 q2 q3 z0 z1 z2 z3 f0 f1 f2 hlt uq uz uf x0 x1 x2 x3 e0 e1 e2 hlt2 ue hlt3 HS
  generalize W3.drew = W4 at *
  have HS := HS4; clear HS4
  obtain ⟨p0, p1, q0, q1, q2, q3, z0, z1, z2, z3, f0, f1, f2, hlt⟩ := HS.out.four.cells
  obtain ⟨uq, uz, uf⟩ := HS.out.four.frees
  obtain ⟨x0, x1, x2, x3, e0, e1, e2, hlt2, ue, hlt3⟩ := HS.out.cells
  dsimp only at q0 q1 q2 q3 x0 x1 x2 x3
  go_wp2_with fail
  go_region
  all_goals go_wp2
  all_goals refine bodyPost_ret (v := .tuple #[.int .i64 (k + 1), .agg #[.int .i32 ra, .int .i32 (word32 (rb - ra)), .int .i32 rc, .int .i32 rd], .agg #[.int .i64 0, .int .i64 0, .int .i32 0]]) (by simp [results, Tryd.results21, go_sem, *]) rfl ⟨?_, ?_⟩
  · simp [stepP, R4.get, R4.put, Eff.zero]
  · refine HS.out.four.below.trans (But.below (X := fun k => w.heap.size ≤ k) ?_ HS.out.four.below.size fun _ _ q => q)
    repeat' first
      | with_reducible exact But.refl _ _
      | with_reducible refine But.set ?_ _ _ (.inl ?_)
      | with_reducible refine But.drewN ?_ _
      | with_reducible refine But.drew ?_
      | with_reducible refine But.alloc ?_ _
    all_goals (dsimp only; omega)
set_option maxRecDepth 100000 in
set_option maxHeartbeats 4000000 in
theorem ref_3_1_1 (n : Int) (prio : Int) (A : Option Addr) (l : List I4) (cap k : Nat) (r : R4) (w : World) (hI : InsIn w A l) (hx : l[k]? = some ⟨3, 1, 1, n⟩) (hf : Fine prio l) (hr : r.Ok) :
    Calls Tryd.prog 21 #[.agg #[.int .i64 prio, .slice A l.length cap], .int .i64 k, regV r] w (StepG (stepP ⟨3, 1, 1, n⟩ k r) w) := by
  have hF := Four.new w prio A l.length cap r
  have HC := refCheck_any prio A l cap _ (hI.below hF.below)
  unfold CheckP at HC
  rw [hf.ok] at HC
  have HC := Lib.hid HC; have HF := Lib.hid hF
  have kl : k < l.length := (List.getElem?_eq_some_iff.1 hx).1
  have kl64 : l.length ≤ 64 := hf.len.2
  have HI := Lib.hid hI; have HX := Lib.hid hx
  clear hF hI hf hx
  generalize l.length = N at *
  obtain ⟨ra, rb, rc, rd⟩ := r
  obtain ⟨⟨a0, a1⟩, ⟨b0, b1⟩, ⟨g0, g1⟩, ⟨d0, d1⟩⟩ := hr
  dsimp only at a0 a1 b0 b1 g0 g1 d0 d1
  go_enter Tryd.func21, Tryd.ntmps21
  go_wp2_with fail
  refine HC.out.mono ?_
  rintro e w2 ⟨rfl, h2⟩
  have HF2 := Lib.hid (HF.out.on h2)
  clear h2 HC HF
  obtain ⟨p0, p1, q0, q1, q2, q3, -⟩ := HF2.out.cells
  obtain ⟨ft, bb, off, rfl, -, c0, c1, c2, c3⟩ := (HI.out.below HF2.out.below) k _ HX.out
  obtain ⟨n0, n1⟩ := ft.n
  have k0 : (0 : Int) ≤ (k : Int) := by omega
  have k1 : (k : Int) < (N : Int) := by omega
  have t0 : decide ((k : Int) < 0) = false := by simp
  have t1 : decide (N ≤ k) = false := by simp; omega
  dsimp only at c0 c1 c2 c3 q0 q1 q2 q3 n0 n1
  clear ft
  go_upto_region 6 with fail
  have HS := Lib.hid (Six.new HF2.out ⟨3, 1, 1, n⟩)
  dsimp only at HS
  generalize (w2.alloc (.cells #[.int .i64 3, .int .i64 1, .int .i64 1, .int .i32 n] 59)).alloc (.cells #[.int .i64 0, .int .i64 0, .int .i32 0] 61) = W3 at *
  clear p0 p1 q0 q1 q2 q3 c0 c1 c2 c3 t0 t1
  obtain ⟨p0, p1, q0, q1, q2, q3, z0, z1, z2, z3, f0, f1, f2, hlt⟩ := HS.out.four.cells
  obtain ⟨uq, uz, uf⟩ := HS.out.four.frees
  obtain ⟨x0, x1, x2, x3, e0, e1, e2, hlt2, ue, hlt3⟩ := HS.out.cells
  dsimp only at q0 q1 q2 q3 x0 x1 x2 x3
  generalize w2.heap.size = B at *
  go_wp2_with fail
  refine wp_region_still_tail 15 (by kernel_rfl) (by kernel_rfl) ?_
  simp only [List.take_succ_cons, List.take_zero, List.drop_succ_cons, List.drop_zero]
  repeat still_step
  still_call (flipW (round_any _) _)
  repeat still_step
  refine wpStill_nil ?_
  change wpList _ _ _ _ _ W3.drew
  have HS4 := Lib.hid HS.out.drew
  clear p0 p1 q0 q1 q2 q3 z0 z1 z2 z3 f0 f1 f2 hlt uq uz uf x0 x1 x2 x3 e0 e1 e2 hlt2 ue hlt3 HS
  generalize W3.drew = W4 at *
  have HS := HS4; clear HS4
  obtain ⟨p0, p1, q0, q1, q2, q3, z0, z1, z2, z3, f0, f1, f2, hlt⟩ := HS.out.four.cells
  obtain ⟨uq, uz, uf⟩ := HS.out.four.frees
  obtain ⟨x0, x1, x2, x3, e0, e1, e2, hlt2, ue, hlt3⟩ := HS.out.cells
  dsimp only at q0 q1 q2 q3 x0 x1 x2 x3
  go_wp2_with fail
  go_region
  all_goals go_wp2
  all_goals refine bodyPost_ret (v := .tuple #[.int .i64 (k + 1), .agg #[.int .i32 ra, .int .i32 (word32 (rb - rb)), .int .i32 rc, .int .i32 rd], .agg #[.int .i64 0, .int .i64 0, .int .i32 0]]) (by simp [results, Tryd.results21, go_sem, *]) rfl ⟨?_, ?_⟩
  · simp [stepP, R4.get, R4.put, Eff.zero]
  · refine HS.out.four.below.trans (But.below (X := fun k => w.heap.size ≤ k) ?_ HS.out.four.below.size fun _ _ q => q)
    repeat' first
      | with_reducible exact But.refl _ _
      | with_reducible refine But.set ?_ _ _ (.inl ?_)
      | with_reducible refine But.drewN ?_ _
      | with_reducible refine But.drew ?_
      | with_reducible refine But.alloc ?_ _
    all_goals (dsimp only; omega)
set_option maxRecDepth 100000 in
set_option maxHeartbeats 4000000 in
theorem ref_3_1_2 (n : Int) (prio : Int) (A : Option Addr) (l : List I4) (cap k : Nat) (r : R4) (w : World) (hI : InsIn w A l) (hx : l[k]? = some ⟨3, 1, 2, n⟩) (hf : Fine prio l) (hr : r.Ok) :
    Calls Tryd.prog 21 #[.agg #[.int .i64 prio, .slice A l.length cap], .int .i64 k, regV r] w (StepG (stepP ⟨3, 1, 2, n⟩ k r) w) := by
  have hF := Four.new w prio A l.length cap r
  have HC := refCheck_any prio A l cap _ (hI.below hF.below)
  unfold CheckP at HC
  rw [hf.ok] at HC
  have HC := Lib.hid HC; have HF := Lib.hid hF
  have kl : k < l.length := (List.getElem?_eq_some_iff.1 hx).1
  have kl64 : l.length ≤ 64 := hf.len.2
  have HI := Lib.hid hI; have HX := Lib.hid hx
  clear hF hI hf hx
  generalize l.length = N at *
  obtain ⟨ra, rb, rc, rd⟩ := r
  obtain ⟨⟨a0, a1⟩, ⟨b0, b1⟩, ⟨g0, g1⟩, ⟨d0, d1⟩⟩ := hr
  dsimp only at a0 a1 b0 b1 g0 g1 d0 d1
  go_enter Tryd.func21, Tryd.ntmps21
  go_wp2_with fail
  refine HC.out.mono ?_
  rintro e w2 ⟨rfl, h2⟩
  have HF2 := Lib.hid (HF.out.on h2)
  clear h2 HC HF
  obtain ⟨p0, p1, q0, q1, q2, q3, -⟩ := HF2.out.cells
  obtain ⟨ft, bb, off, rfl, -, c0, c1, c2, c3⟩ := (HI.out.below HF2.out.below) k _ HX.out
  obtain ⟨n0, n1⟩ := ft.n
  have k0 : (0 : Int) ≤ (k : Int) := by omega
  have k1 : (k : Int) < (N : Int) := by omega
  have t0 : decide ((k : Int) < 0) = false := by simp
  have t1 : decide (N ≤ k) = false := by simp; omega
  dsimp only at c0 c1 c2 c3 q0 q1 q2 q3 n0 n1
  clear ft
  go_upto_region 6 with fail
  have HS := Lib.hid (Six.new HF2.out ⟨3, 1, 2, n⟩)
  dsimp only at HS
  generalize (w2.alloc (.cells #[.int .i64 3, .int .i64 1, .int .i64 2, .int .i32 n] 59)).alloc (.cells #[.int .i64 0, .int .i64 0, .int .i32 0] 61) = W3 at *
  clear p0 p1 q0 q1 q2 q3 c0 c1 c2 c3 t0 t1
  obtain ⟨p0, p1, q0, q1, q2, q3, z0, z1, z2, z3, f0, f1, f2, hlt⟩ := HS.out.four.cells
  obtain ⟨uq, uz, uf⟩ := HS.out.four.frees
  obtain ⟨x0, x1, x2, x3, e0, e1, e2, hlt2, ue, hlt3⟩ := HS.out.cells
  dsimp only at q0 q1 q2 q3 x0 x1 x2 x3
  generalize w2.heap.size = B at *
  go_wp2_with fail
  refine wp_region_still_tail 15 (by kernel_rfl) (by kernel_rfl) ?_
  simp only [List.take_succ_cons, List.take_zero, List.drop_succ_cons, List.drop_zero]
  repeat still_step
  still_call (flipW (round_any _) _)
  repeat still_step
  refine wpStill_nil ?_
  change wpList _ _ _ _ _ W3.drew
  have HS4 := Lib.hid HS.out.drew
  clear p0 p1 q0 q1 q2 q3 z0 z1 z2 z3 f0 f1 f2 hlt uq uz uf x0 x1 x2 x3 e0 e1 e2 hlt2 ue hlt3 HS
  generalize W3.drew = W4 at *
  have HS := HS4; clear HS4
  obtain ⟨p0, p1, q0, q1, q2, q3, z0, z1, z2, z3, f0, f1, f2, hlt⟩ := HS.out.four.cells
  obtain ⟨uq, uz, uf⟩ := HS.out.four.frees
  obtain ⟨x0, x1, x2, x3, e0, e1, e2, hlt2, ue, hlt3⟩ := HS.out.cells
  dsimp only at q0 q1 q2 q3 x0 x1 x2 x3
  go_wp2_with fail
  go_region
  all_goals go_wp2
  all_goals refine bodyPost_ret (v := .tuple #[.int .i64 (k + 1), .agg #[.int .i32 ra, .int .i32 (word32 (rb - rc)), .int .i32 rc, .int .i32 rd], .agg #[.int .i64 0, .int .i64 0, .int .i32 0]]) (by simp [results, Tryd.results21, go_sem, *]) rfl ⟨?_, ?_⟩
  · simp [stepP, R4.get, R4.put, Eff.zero]
  · refine HS.out.four.below.trans (But.below (X := fun k => w.heap.size ≤ k) ?_ HS.out.four.below.size fun _ _ q => q)
    repeat' first
      | with_reducible exact But.refl _ _
      | with_reducible refine But.set ?_ _ _ (.inl ?_)
      | with_reducible refine But.drewN ?_ _
      | with_reducible refine But.drew ?_
      | with_reducible refine But.alloc ?_ _
    all_goals (dsimp only; omega)
set_option maxRecDepth 100000 in
set_option maxHeartbeats 4000000 in
theorem ref_3_1_3 (n : Int) (prio : Int) (A : Option Addr) (l : List I4) (cap k : Nat) (r : R4) (w : World) (hI : InsIn w A l) (hx : l[k]? = some ⟨3, 1, 3, n⟩) (hf : Fine prio l) (hr : r.Ok) :
    Calls Tryd.prog 21 #[.agg #[.int .i64 prio, .slice A l.length cap], .int .i64 k, regV r] w (StepG (stepP ⟨3, 1, 3, n⟩ k r) w) := by
  have hF := Four.new w prio A l.length cap r
  have HC := refCheck_any prio A l cap _ (hI.below hF.below)
  unfold CheckP at HC
  rw [hf.ok] at HC
  have HC := Lib.hid HC; have HF := Lib.hid hF
  have kl : k < l.length := (List.getElem?_eq_some_iff.1 hx).1
  have kl64 : l.length ≤ 64 := hf.len.2
  have HI := Lib.hid hI; have HX := Lib.hid hx
  clear hF hI hf hx
  generalize l.length = N at *
  obtain ⟨ra, rb, rc, rd⟩ := r
  obtain ⟨⟨a0, a1⟩, ⟨b0, b1⟩, ⟨g0, g1⟩, ⟨d0, d1⟩⟩ := hr
  dsimp only at a0 a1 b0 b1 g0 g1 d0 d1
  go_enter Tryd.func21, Tryd.ntmps21
  go_wp2_with fail
  refine HC.out.mono ?_
  rintro e w2 ⟨rfl, h2⟩
  have HF2 := Lib.hid (HF.out.on h2)
  clear h2 HC HF
  obtain ⟨p0, p1, q0, q1, q2, q3, -⟩ := HF2.out.cells
  obtain ⟨ft, bb, off, rfl, -, c0, c1, c2, c3⟩ := (HI.out.below HF2.out.below) k _ HX.out
  obtain ⟨n0, n1⟩ := ft.n
  have k0 : (0 : Int) ≤ (k : Int) := by omega
  have k1 : (k : Int) < (N : Int) := by omega
  have t0 : decide ((k : Int) < 0) = false := by simp
  have t1 : decide (N ≤ k) = false := by simp; omega
  dsimp only at c0 c1 c2 c3 q0 q1 q2 q3 n0 n1
  clear ft
  go_upto_region 6 with fail
  have HS := Lib.hid (Six.new HF2.out ⟨3, 1, 3, n⟩)
  dsimp only at HS
  generalize (w2.alloc (.cells #[.int .i64 3, .int .i64 1, .int .i64 3, .int .i32 n] 59)).alloc (.cells #[.int .i64 0, .int .i64 0, .int .i32 0] 61) = W3 at *
  clear p0 p1 q0 q1 q2 q3 c0 c1 c2 c3 t0 t1
  obtain ⟨p0, p1, q0, q1, q2, q3, z0, z1, z2, z3, f0, f1, f2, hlt⟩ := HS.out.four.cells
  obtain ⟨uq, uz, uf⟩ := HS.out.four.frees
  obtain ⟨x0, x1, x2, x3, e0, e1, e2, hlt2, ue, hlt3⟩ := HS.out.cells
  dsimp only at q0 q1 q2 q3 x0 x1 x2 x3
  generalize w2.heap.size = B at *
  go_wp2_with fail
  refine wp_region_still_tail 15 (by kernel_rfl) (by kernel_rfl) ?_
  simp only [List.take_succ_cons, List.take_zero, List.drop_succ_cons, List.drop_zero]
  repeat still_step
  still_call (flipW (round_any _) _)
  repeat still_step
  refine wpStill_nil ?_
  change wpList _ _ _ _ _ W3.drew
  have HS4 := Lib.hid HS.out.drew
  clear p0 p1 q0 q1 q2 q3 z0 z1 z2 z3 f0 f1 f2 hlt uq uz uf x0 x1 x2 x3 e0 e1 e2 hlt2 ue hlt3 HS
  generalize W3.drew = W4 at *
  have HS := HS4; clear HS4
  obtain ⟨p0, p1, q0, q1, q2, q3, z0, z1, z2, z3, f0, f1, f2, hlt⟩ := HS.out.four.cells
  obtain ⟨uq, uz, uf⟩ := HS.out.four.frees
  obtain ⟨x0, x1, x2, x3, e0, e1, e2, hlt2, ue, hlt3⟩ := HS.out.cells
  dsimp only at q0 q1 q2 q3 x0 x1 x2 x3
  go_wp2_with fail
  go_region
  all_goals go_wp2
  all_goals refine bodyPost_ret (v := .tuple #[.int .i64 (k + 1), .agg #[.int .i32 ra, .int .i32 (word32 (rb - rd)), .int .i32 rc, .int .i32 rd], .agg #[.int .i64 0, .int .i64 0, .int .i32 0]]) (by simp [results, Tryd.results21, go_sem, *]) rfl ⟨?_, ?_⟩
  · simp [stepP, R4.get, R4.put, Eff.zero]
  · refine HS.out.four.below.trans (But.below (X := fun k => w.heap.size ≤ k) ?_ HS.out.four.below.size fun _ _ q => q)
    repeat' first
      | with_reducible exact But.refl _ _
      | with_reducible refine But.set ?_ _ _ (.inl ?_)
      | with_reducible refine But.drewN ?_ _
      | with_reducible refine But.drew ?_
      | with_reducible refine But.alloc ?_ _
    all_goals (dsimp only; omega)
set_option maxRecDepth 100000 in
set_option maxHeartbeats 4000000 in
theorem ref_3_2_0 (n : Int) (prio : Int) (A : Option Addr) (l : List I4) (cap k : Nat) (r : R4) (w : World) (hI : InsIn w A l) (hx : l[k]? = some ⟨3, 2, 0, n⟩) (hf : Fine prio l) (hr : r.Ok) :
    Calls Tryd.prog 21 #[.agg #[.int .i64 prio, .slice A l.length cap], .int .i64 k, regV r] w (StepG (stepP ⟨3, 2, 0, n⟩ k r) w) := by
  have hF := Four.new w prio A l.length cap r
  have HC := refCheck_any prio A l cap _ (hI.below hF.below)
  unfold CheckP at HC
  rw [hf.ok] at HC
  have HC := Lib.hid HC; have HF := Lib.hid hF
  have kl : k < l.length := (List.getElem?_eq_some_iff.1 hx).1
  have kl64 : l.length ≤ 64 := hf.len.2
  have HI := Lib.hid hI; have HX := Lib.hid hx
  clear hF hI hf hx
  generalize l.length = N at *
  obtain ⟨ra, rb, rc, rd⟩ := r
  obtain ⟨⟨a0, a1⟩, ⟨b0, b1⟩, ⟨g0, g1⟩, ⟨d0, d1⟩⟩ := hr
  dsimp only at a0 a1 b0 b1 g0 g1 d0 d1
  go_enter Tryd.func21, Tryd.ntmps21
  go_wp2_with fail
  refine HC.out.mono ?_
  rintro e w2 ⟨rfl, h2⟩
  have HF2 := Lib.hid (HF.out.on h2)
  clear h2 HC HF
  obtain ⟨p0, p1, q0, q1, q2, q3, -⟩ := HF2.out.cells
  obtain ⟨ft, bb, off, rfl, -, c0, c1, c2, c3⟩ := (HI.out.below HF2.out.below) k _ HX.out
  obtain ⟨n0, n1⟩ := ft.n
  have k0 : (0 : Int) ≤ (k : Int) := by omega
  have k1 : (k : Int) < (N : Int) := by omega
  have t0 : decide ((k : Int) < 0) = false := by simp
  have t1 : decide (N ≤ k) = false := by simp; omega
  dsimp only at c0 c1 c2 c3 q0 q1 q2 q3 n0 n1
  clear ft
  go_upto_region 6 with fail
  have HS := Lib.hid (Six.new HF2.out ⟨3, 2, 0, n⟩)
  dsimp only at HS
  generalize (w2.alloc (.cells #[.int .i64 3, .int .i64 2, .int .i64 0, .int .i32 n] 59)).alloc (.cells #[.int .i64 0, .int .i64 0, .int .i32 0] 61) = W3 at *
  clear p0 p1 q0 q1 q2 q3 c0 c1 c2 c3 t0 t1
  obtain ⟨p0, p1, q0, q1, q2, q3, z0, z1, z2, z3, f0, f1, f2, hlt⟩ := HS.out.four.cells
  obtain ⟨uq, uz, uf⟩ := HS.out.four.frees
  obtain ⟨x0, x1, x2, x3, e0, e1, e2, hlt2, ue, hlt3⟩ := HS.out.cells
  dsimp only at q0 q1 q2 q3 x0 x1 x2 x3
  generalize w2.heap.size = B at *
  go_wp2_with fail
  refine wp_region_still_tail 15 (by kernel_rfl) (by kernel_rfl) ?_
  simp only [List.take_succ_cons, List.take_zero, List.drop_succ_cons, List.drop_zero]
  repeat still_step
  still_call (flipW (round_any _) _)
  repeat still_step
  refine wpStill_nil ?_
  change wpList _ _ _ _ _ W3.drew
  have HS4 := Lib.hid HS.out.drew
  clear p0 p1 q0 q1 q2 q3 z0 z1 z2 z3 f0 f1 f2 hlt uq uz uf x0 x1 x2 x3 e0 e1 e2 hlt2 ue hlt3 HS
  generalize W3.drew = W4 at *
  have HS := HS4; clear HS4
  obtain ⟨p0, p1, q0, q1, q2, q3, z0, z1, z2, z3, f0, f1, f2, hlt⟩ := HS.out.four.cells
  obtain ⟨uq, uz, uf⟩ := HS.out.four.frees
  obtain ⟨x0, x1, x2, x3, e0, e1, e2, hlt2, ue, hlt3⟩ := HS.out.cells
  dsimp only at q0 q1 q2 q3 x0 x1 x2 x3
  go_wp2_with fail
  go_region
  all_goals go_wp2
  all_goals refine bodyPost_ret (v := .tuple #[.int .i64 (k + 1), .agg #[.int .i32 ra, .int .i32 rb, .int .i32 (word32 (rc - ra)), .int .i32 rd], .agg #[.int .i64 0, .int .i64 0, .int .i32 0]]) (by simp [results, Tryd.results21, go_sem, *]) rfl ⟨?_, ?_⟩
  · simp [stepP, R4.get, R4.put, Eff.zero]
  · refine HS.out.four.below.trans (But.below (X := fun k => w.heap.size ≤ k) ?_ HS.out.four.below.size fun _ _ q => q)
    repeat' first
      | with_reducible exact But.refl _ _
      | with_reducible refine But.set ?_ _ _ (.inl ?_)
      | with_reducible refine But.drewN ?_ _
      | with_reducible refine But.drew ?_
      | with_reducible refine But.alloc ?_ _
    all_goals (dsimp only; omega)
set_option maxRecDepth 100000 in
set_option maxHeartbeats 4000000 in
theorem ref_3_2_1 (n : Int) (prio : Int) (A : Option Addr) (l : List I4) (cap k : Nat) (r : R4) (w : World) (hI : InsIn w A l) (hx : l[k]? = some ⟨3, 2, 1, n⟩) (hf : Fine prio l) (hr : r.Ok) :
    Calls Tryd.prog 21 #[.agg #[.int .i64 prio, .slice A l.length cap], .int .i64 k, regV r] w (StepG (stepP ⟨3, 2, 1, n⟩ k r) w) := by
  have hF := Four.new w prio A l.length cap r
  have HC := refCheck_any prio A l cap _ (hI.below hF.below)
  unfold CheckP at HC
  rw [hf.ok] at HC
  have HC := Lib.hid HC; have HF := Lib.hid hF
  have kl : k < l.length := (List.getElem?_eq_some_iff.1 hx).1
  have kl64 : l.length ≤ 64 := hf.len.2
  have HI := Lib.hid hI; have HX := Lib.hid hx
  clear hF hI hf hx
  generalize l.length = N at *
  obtain ⟨ra, rb, rc, rd⟩ := r
  obtain ⟨⟨a0, a1⟩, ⟨b0, b1⟩, ⟨g0, g1⟩, ⟨d0, d1⟩⟩ := hr
  dsimp only at a0 a1 b0 b1 g0 g1 d0 d1
  go_enter Tryd.func21, Tryd.ntmps21
  go_wp2_with fail
  refine HC.out.mono ?_
  rintro e w2 ⟨rfl, h2⟩
  have HF2 := Lib.hid (HF.out.on h2)
  clear h2 HC HF
  obtain ⟨p0, p1, q0, q1, q2, q3, -⟩ := HF2.out.cells
  obtain ⟨ft, bb, off, rfl, -, c0, c1, c2, c3⟩ := (HI.out.below HF2.out.below) k _ HX.out
  obtain ⟨n0, n1⟩ := ft.n
  have k0 : (0 : Int) ≤ (k : Int) := by omega
  have k1 : (k : Int) < (N : Int) := by omega
  have t0 : decide ((k : Int) < 0) = false := by simp
  have t1 : decide (N ≤ k) = false := by simp; omega
  dsimp only at c0 c1 c2 c3 q0 q1 q2 q3 n0 n1
  clear ft
  go_upto_region 6 with fail
  have HS := Lib.hid (Six.new HF2.out ⟨3, 2, 1, n⟩)
  dsimp only at HS
  generalize (w2.alloc (.cells #[.int .i64 3, .int .i64 2, .int .i64 1, .int .i32 n] 59)).alloc (.cells #[.int .i64 0, .int .i64 0, .int .i32 0] 61) = W3 at *
  clear p0 p1 q0 q1 q2 q3 c0 c1 c2 c3 t0 t1
  obtain ⟨p0, p1, q0, q1, q2, q3, z0, z1, z2, z3, f0, f1, f2, hlt⟩ := HS.out.four.cells
  obtain ⟨uq, uz, uf⟩ := HS.out.four.frees
  obtain ⟨x0, x1, x2, x3, e0, e1, e2, hlt2, ue, hlt3⟩ := HS.out.cells
  dsimp only at q0 q1 q2 q3 x0 x1 x2 x3
  generalize w2.heap.size = B at *
  go_wp2_with fail
  refine wp_region_still_tail 15 (by kernel_rfl) (by kernel_rfl) ?_
  simp only [List.take_succ_cons, List.take_zero, List.drop_succ_cons, List.drop_zero]
  repeat still_step
  still_call (flipW (round_any _) _)
  repeat still_step
  refine wpStill_nil ?_
  change wpList _ _ _ _ _ W3.drew
  have HS4 := Lib.hid HS.out.drew
  clear p0 p1 q0 q1 q2 q3 z0 z1 z2 z3 f0 f1 f2 hlt uq uz uf x0 x1 x2 x3 e0 e1 e2 hlt2 ue hlt3 HS
  generalize W3.drew = W4 at *
  have HS := HS4; clear HS4
  obtain ⟨p0, p1, q0, q1, q2, q3, z0, z1, z2, z3, f0, f1, f2, hlt⟩ := HS.out.four.cells
  obtain ⟨uq, uz, uf⟩ := HS.out.four.frees
  obtain ⟨x0, x1, x2, x3, e0, e1, e2, hlt2, ue, hlt3⟩ := HS.out.cells
  dsimp only at q0 q1 q2 q3 x0 x1 x2 x3
  go_wp2_with fail
  go_region
  all_goals go_wp2
  all_goals refine bodyPost_ret (v := .tuple #[.int .i64 (k + 1), .agg #[.int .i32 ra, .int .i32 rb, .int .i32 (word32 (rc - rb)), .int .i32 rd], .agg #[.int .i64 0, .int .i64 0, .int .i32 0]]) (by simp [results, Tryd.results21, go_sem, *]) rfl ⟨?_, ?_⟩
  · simp [stepP, R4.get, R4.put, Eff.zero]
  · refine HS.out.four.below.trans (But.below (X := fun k => w.heap.size ≤ k) ?_ HS.out.four.below.size fun _ _ q => q)
    repeat' first
      | with_reducible exact But.refl _ _
      | with_reducible refine But.set ?_ _ _ (.inl ?_)
      | with_reducible refine But.drewN ?_ _
      | with_reducible refine But.drew ?_
      | with_reducible refine But.alloc ?_ _
    all_goals (dsimp only; omega)
set_option maxRecDepth 100000 in
set_option maxHeartbeats 4000000 in
theorem ref_3_2_2 (n : Int) (prio : Int) (A : Option Addr) (l : List I4) (cap k : Nat) (r : R4) (w : World) (hI : InsIn w A l) (hx : l[k]? = some ⟨3, 2, 2, n⟩) (hf : Fine prio l) (hr : r.Ok) :
    Calls Tryd.prog 21 #[.agg #[.int .i64 prio, .slice A l.length cap], .int .i64 k, regV r] w (StepG (stepP ⟨3, 2, 2, n⟩ k r) w) := by
  have hF := Four.new w prio A l.length cap r
  have HC := refCheck_any prio A l cap _ (hI.below hF.below)
  unfold CheckP at HC
  rw [hf.ok] at HC
  have HC := Lib.hid HC; have HF := Lib.hid hF
  have kl : k < l.length := (List.getElem?_eq_some_iff.1 hx).1
  have kl64 : l.length ≤ 64 := hf.len.2
  have HI := Lib.hid hI; have HX := Lib.hid hx
  clear hF hI hf hx
  generalize l.length = N at *
  obtain ⟨ra, rb, rc, rd⟩ := r
  obtain ⟨⟨a0, a1⟩, ⟨b0, b1⟩, ⟨g0, g1⟩, ⟨d0, d1⟩⟩ := hr
  dsimp only at a0 a1 b0 b1 g0 g1 d0 d1
  go_enter Tryd.func21, Tryd.ntmps21
  go_wp2_with fail
  refine HC.out.mono ?_
  rintro e w2 ⟨rfl, h2⟩
  have HF2 := Lib.hid (HF.out.on h2)
  clear h2 HC HF
  obtain ⟨p0, p1, q0, q1, q2, q3, -⟩ := HF2.out.cells
  obtain ⟨ft, bb, off, rfl, -, c0, c1, c2, c3⟩ := (HI.out.below HF2.out.below) k _ HX.out
  obtain ⟨n0, n1⟩ := ft.n
  have k0 : (0 : Int) ≤ (k : Int) := by omega
  have k1 : (k : Int) < (N : Int) := by omega
  have t0 : decide ((k : Int) < 0) = false := by simp
  have t1 : decide (N ≤ k) = false := by simp; omega
  dsimp only at c0 c1 c2 c3 q0 q1 q2 q3 n0 n1
  clear ft
  go_upto_region 6 with fail
  have HS := Lib.hid (Six.new HF2.out ⟨3, 2, 2, n⟩)
  dsimp only at HS
  generalize (w2.alloc (.cells #[.int .i64 3, .int .i64 2, .int .i64 2, .int .i32 n] 59)).alloc (.cells #[.int .i64 0, .int .i64 0, .int .i32 0] 61) = W3 at *
  clear p0 p1 q0 q1 q2 q3 c0 c1 c2 c3 t0 t1
  obtain ⟨p0, p1, q0, q1, q2, q3, z0, z1, z2, z3, f0, f1, f2, hlt⟩ := HS.out.four.cells
  obtain ⟨uq, uz, uf⟩ := HS.out.four.frees
  obtain ⟨x0, x1, x2, x3, e0, e1, e2, hlt2, ue, hlt3⟩ := HS.out.cells
  dsimp only at q0 q1 q2 q3 x0 x1 x2 x3
  generalize w2.heap.size = B at *
  go_wp2_with fail
  refine wp_region_still_tail 15 (by kernel_rfl) (by kernel_rfl) ?_
  simp only [List.take_succ_cons, List.take_zero, List.drop_succ_cons, List.drop_zero]
  repeat still_step
  still_call (flipW (round_any _) _)
  repeat still_step
  refine wpStill_nil ?_
  change wpList _ _ _ _ _ W3.drew
  have HS4 := Lib.hid HS.out.drew
  clear p0 p1 q0 q1 q2 q3 z0 z1 z2 z3 f0 f1 f2 hlt uq uz uf x0 x1 x2 x3 e0 e1 e2 hlt2 ue hlt3 HS
  generalize W3.drew = W4 at *
  have HS := HS4; clear HS4
  obtain ⟨p0, p1, q0, q1, q2, q3, z0, z1, z2, z3, f0, f1, f2, hlt⟩ := HS.out.four.cells
  obtain ⟨uq, uz, uf⟩ := HS.out.four.frees
  obtain ⟨x0, x1, x2, x3, e0, e1, e2, hlt2, ue, hlt3⟩ := HS.out.cells
  dsimp only at q0 q1 q2 q3 x0 x1 x2 x3
  go_wp2_with fail
  go_region
  all_goals go_wp2
  all_goals refine bodyPost_ret (v := .tuple #[.int .i64 (k + 1), .agg #[.int .i32 ra, .int .i32 rb, .int .i32 (word32 (rc - rc)), .int .i32 rd], .agg #[.int .i64 0, .int .i64 0, .int .i32 0]]) (by simp [results, Tryd.results21, go_sem, *]) rfl ⟨?_, ?_⟩
  · simp [stepP, R4.get, R4.put, Eff.zero]
  · refine HS.out.four.below.trans (But.below (X := fun k => w.heap.size ≤ k) ?_ HS.out.four.below.size fun _ _ q => q)
    repeat' first
      | with_reducible exact But.refl _ _
      | with_reducible refine But.set ?_ _ _ (.inl ?_)
      | with_reducible refine But.drewN ?_ _
      | with_reducible refine But.drew ?_
      | with_reducible refine But.alloc ?_ _
    all_goals (dsimp only; omega)
set_option maxRecDepth 100000 in
set_option maxHeartbeats 4000000 in
theorem ref_3_2_3 (n : Int) (prio : Int) (A : Option Addr) (l : List I4) (cap k : Nat) (r : R4) (w : World) (hI : InsIn w A l) (hx : l[k]? = some ⟨3, 2, 3, n⟩) (hf : Fine prio l) (hr : r.Ok) :
    Calls Tryd.prog 21 #[.agg #[.int .i64 prio, .slice A l.length cap], .int .i64 k, regV r] w (StepG (stepP ⟨3, 2, 3, n⟩ k r) w) := by
  have hF := Four.new w prio A l.length cap r
  have HC := refCheck_any prio A l cap _ (hI.below hF.below)
  unfold CheckP at HC
  rw [hf.ok] at HC
  have HC := Lib.hid HC; have HF := Lib.hid hF
  have kl : k < l.length := (List.getElem?_eq_some_iff.1 hx).1
  have kl64 : l.length ≤ 64 := hf.len.2
  have HI := Lib.hid hI; have HX := Lib.hid hx
  clear hF hI hf hx
  generalize l.length = N at *
  obtain ⟨ra, rb, rc, rd⟩ := r
  obtain ⟨⟨a0, a1⟩, ⟨b0, b1⟩, ⟨g0, g1⟩, ⟨d0, d1⟩⟩ := hr
  dsimp only at a0 a1 b0 b1 g0 g1 d0 d1
  go_enter Tryd.func21, Tryd.ntmps21
  go_wp2_with fail
  refine HC.out.mono ?_
  rintro e w2 ⟨rfl, h2⟩
  have HF2 := Lib.hid (HF.out.on h2)
  clear h2 HC HF
  obtain ⟨p0, p1, q0, q1, q2, q3, -⟩ := HF2.out.cells
  obtain ⟨ft, bb, off, rfl, -, c0, c1, c2, c3⟩ := (HI.out.below HF2.out.below) k _ HX.out
  obtain ⟨n0, n1⟩ := ft.n
  have k0 : (0 : Int) ≤ (k : Int) := by omega
  have k1 : (k : Int) < (N : Int) := by omega
  have t0 : decide ((k : Int) < 0) = false := by simp
  have t1 : decide (N ≤ k) = false := by simp; omega
  dsimp only at c0 c1 c2 c3 q0 q1 q2 q3 n0 n1
  clear ft
  go_upto_region 6 with fail
  have HS := Lib.hid (Six.new HF2.out ⟨3, 2, 3, n⟩)
  dsimp only at HS
  generalize (w2.alloc (.cells #[.int .i64 3, .int .i64 2, .int .i64 3, .int .i32 n] 59)).alloc (.cells #[.int .i64 0, .int .i64 0, .int .i32 0] 61) = W3 at *
  clear p0 p1 q0 q1 q2 q3 c0 c1 c2 c3 t0 t1
  obtain ⟨p0, p1, q0, q1, q2, q3, z0, z1, z2, z3, f0, f1, f2, hlt⟩ := HS.out.four.cells
  obtain ⟨uq, uz, uf⟩ := HS.out.four.frees
  obtain ⟨x0, x1, x2, x3, e0, e1, e2, hlt2, ue, hlt3⟩ := HS.out.cells
  dsimp only at q0 q1 q2 q3 x0 x1 x2 x3
  generalize w2.heap.size = B at *
  go_wp2_with fail
  refine wp_region_still_tail 15 (by kernel_rfl) (by kernel_rfl) ?_
  simp only [List.take_succ_cons, List.take_zero, List.drop_succ_cons, List.drop_zero]
  repeat still_step
  still_call (flipW (round_any _) _)
  repeat still_step
  refine wpStill_nil ?_
  change wpList _ _ _ _ _ W3.drew
  have HS4 := Lib.hid HS.out.drew
  clear p0 p1 q0 q1 q2 q3 z0 z1 z2 z3 f0 f1 f2 hlt uq uz uf x0 x1 x2 x3 e0 e1 e2 hlt2 ue hlt3 HS
  generalize W3.drew = W4 at *
  have HS := HS4; clear HS4
  obtain ⟨p0, p1, q0, q1, q2, q3, z0, z1, z2, z3, f0, f1, f2, hlt⟩ := HS.out.four.cells
  obtain ⟨uq, uz, uf⟩ := HS.out.four.frees
  obtain ⟨x0, x1, x2, x3, e0, e1, e2, hlt2, ue, hlt3⟩ := HS.out.cells
  dsimp only at q0 q1 q2 q3 x0 x1 x2 x3
  go_wp2_with fail
  go_region
  all_goals go_wp2
  all_goals refine bodyPost_ret (v := .tuple #[.int .i64 (k + 1), .agg #[.int .i32 ra, .int .i32 rb, .int .i32 (word32 (rc - rd)), .int .i32 rd], .agg #[.int .i64 0, .int .i64 0, .int .i32 0]]) (by simp [results, Tryd.results21, go_sem, *]) rfl ⟨?_, ?_⟩
  · simp [stepP, R4.get, R4.put, Eff.zero]
  · refine HS.out.four.below.trans (But.below (X := fun k => w.heap.size ≤ k) ?_ HS.out.four.below.size fun _ _ q => q)
    repeat' first
      | with_reducible exact But.refl _ _
      | with_reducible refine But.set ?_ _ _ (.inl ?_)
      | with_reducible refine But.drewN ?_ _
      | with_reducible refine But.drew ?_
      | with_reducible refine But.alloc ?_ _
    all_goals (dsimp only; omega)
set_option maxRecDepth 100000 in
set_option maxHeartbeats 4000000 in
theorem ref_3_3_0 (n : Int) (prio : Int) (A : Option Addr) (l : List I4) (cap k : Nat) (r : R4) (w : World) (hI : InsIn w A l) (hx : l[k]? = some ⟨3, 3, 0, n⟩) (hf : Fine prio l) (hr : r.Ok) :
    Calls Tryd.prog 21 #[.agg #[.int .i64 prio, .slice A l.length cap], .int .i64 k, regV r] w (StepG (stepP ⟨3, 3, 0, n⟩ k r) w) := by
  have hF := Four.new w prio A l.length cap r
  have HC := refCheck_any prio A l cap _ (hI.below hF.below)
  unfold CheckP at HC
  rw [hf.ok] at HC
  have HC := Lib.hid HC; have HF := Lib.hid hF
  have kl : k < l.length := (List.getElem?_eq_some_iff.1 hx).1
  have kl64 : l.length ≤ 64 := hf.len.2
  have HI := Lib.hid hI; have HX := Lib.hid hx
  clear hF hI hf hx
  generalize l.length = N at *
  obtain ⟨ra, rb, rc, rd⟩ := r
  obtain ⟨⟨a0, a1⟩, ⟨b0, b1⟩, ⟨g0, g1⟩, ⟨d0, d1⟩⟩ := hr
  dsimp only at a0 a1 b0 b1 g0 g1 d0 d1
  go_enter Tryd.func21, Tryd.ntmps21
  go_wp2_with fail
  refine HC.out.mono ?_
  rintro e w2 ⟨rfl, h2⟩
  have HF2 := Lib.hid (HF.out.on h2)
  clear h2 HC HF
  obtain ⟨p0, p1, q0, q1, q2, q3, -⟩ := HF2.out.cells
  obtain ⟨ft, bb, off, rfl, -, c0, c1, c2, c3⟩ := (HI.out.below HF2.out.below) k _ HX.out
  obtain ⟨n0, n1⟩ := ft.n
  have k0 : (0 : Int) ≤ (k : Int) := by omega
  have k1 : (k : Int) < (N : Int) := by omega
  have t0 : decide ((k : Int) < 0) = false := by simp
  have t1 : decide (N ≤ k) = false := by simp; omega
  dsimp only at c0 c1 c2 c3 q0 q1 q2 q3 n0 n1
  clear ft
  go_upto_region 6 with fail
  have HS := Lib.hid (Six.new HF2.out ⟨3, 3, 0, n⟩)
  dsimp only at HS
  generalize (w2.alloc (.cells #[.int .i64 3, .int .i64 3, .int .i64 0, .int .i32 n] 59)).alloc (.cells #[.int .i64 0, .int .i64 0, .int .i32 0] 61) = W3 at *
  clear p0 p1 q0 q1 q2 q3 c0 c1 c2 c3 t0 t1
  obtain ⟨p0, p1, q0, q1, q2, q3, z0, z1, z2, z3, f0, f1, f2, hlt⟩ := HS.out.four.cells
  obtain ⟨uq, uz, uf⟩ := HS.out.four.frees
  obtain ⟨x0, x1, x2, x3, e0, e1, e2, hlt2, ue, hlt3⟩ := HS.out.cells
  dsimp only at q0 q1 q2 q3 x0 x1 x2 x3
  generalize w2.heap.size = B at *
  go_wp2_with fail
  refine wp_region_still_tail 15 (by kernel_rfl) (by kernel_rfl) ?_
  simp only [List.take_succ_cons, List.take_zero, List.drop_succ_cons, List.drop_zero]
  repeat still_step
  still_call (flipW (round_any _) _)
  repeat still_step
  refine wpStill_nil ?_
  change wpList _ _ _ _ _ W3.drew
  have HS4 := Lib.hid HS.out.drew
  clear p0 p1 q0 q1 q2 q3 z0 z1 z2 z3 f0 f1 f2 hlt uq uz uf x0 x1 x2 x3 e0 e1 e2 hlt2 ue hlt3 HS
  generalize W3.drew = W4 at *
  have HS := HS4; clear HS4
  obtain ⟨p0, p1, q0, q1, q2, q3, z0, z1, z2, z3, f0, f1, f2, hlt⟩ := HS.out.four.cells
  obtain ⟨uq, uz, uf⟩ := HS.out.four.frees
  obtain ⟨x0, x1, x2, x3, e0, e1, e2, hlt2, ue, hlt3⟩ := HS.out.cells
  dsimp only at q0 q1 q2 q3 x0 x1 x2 x3
  go_wp2_with fail
  go_region
  all_goals go_wp2
  all_goals refine bodyPost_ret (v := .tuple #[.int .i64 (k + 1), .agg #[.int .i32 ra, .int .i32 rb, .int .i32 rc, .int .i32 (word32 (rd - ra))], .agg #[.int .i64 0, .int .i64 0, .int .i32 0]]) (by simp [results, Tryd.results21, go_sem, *]) rfl ⟨?_, ?_⟩
  · simp [stepP, R4.get, R4.put, Eff.zero]
  · refine HS.out.four.below.trans (But.below (X := fun k => w.heap.size ≤ k) ?_ HS.out.four.below.size fun _ _ q => q)
    repeat' first
      | with_reducible exact But.refl _ _
      | with_reducible refine But.set ?_ _ _ (.inl ?_)
      | with_reducible refine But.drewN ?_ _
      | with_reducible refine But.drew ?_
      | with_reducible refine But.alloc ?_ _
    all_goals (dsimp only; omega)
set_option maxRecDepth 100000 in
set_option maxHeartbeats 4000000 in
theorem ref_3_3_1 (n : Int) (prio : Int) (A : Option Addr) (l : List I4) (cap k : Nat) (r : R4) (w : World) (hI : InsIn w A l) (hx : l[k]? = some ⟨3, 3, 1, n⟩) (hf : Fine prio l) (hr : r.Ok) :
    Calls Tryd.prog 21 #[.agg #[.int .i64 prio, .slice A l.length cap], .int .i64 k, regV r] w (StepG (stepP ⟨3, 3, 1, n⟩ k r) w) := by
  have hF := Four.new w prio A l.length cap r
  have HC := refCheck_any prio A l cap _ (hI.below hF.below)
  unfold CheckP at HC
  rw [hf.ok] at HC
  have HC := Lib.hid HC; have HF := Lib.hid hF
  have kl : k < l.length := (List.getElem?_eq_some_iff.1 hx).1
  have kl64 : l.length ≤ 64 := hf.len.2
  have HI := Lib.hid hI; have HX := Lib.hid hx
  clear hF hI hf hx
  generalize l.length = N at *
  obtain ⟨ra, rb, rc, rd⟩ := r
  obtain ⟨⟨a0, a1⟩, ⟨b0, b1⟩, ⟨g0, g1⟩, ⟨d0, d1⟩⟩ := hr
  dsimp only at a0 a1 b0 b1 g0 g1 d0 d1
  go_enter Tryd.func21, Tryd.ntmps21
  go_wp2_with fail
  refine HC.out.mono ?_
  rintro e w2 ⟨rfl, h2⟩
  have HF2 := Lib.hid (HF.out.on h2)
  clear h2 HC HF
  obtain ⟨p0, p1, q0, q1, q2, q3, -⟩ := HF2.out.cells
  obtain ⟨ft, bb, off, rfl, -, c0, c1, c2, c3⟩ := (HI.out.below HF2.out.below) k _ HX.out
  obtain ⟨n0, n1⟩ := ft.n
  have k0 : (0 : Int) ≤ (k : Int) := by omega
  have k1 : (k : Int) < (N : Int) := by omega
  have t0 : decide ((k : Int) < 0) = false := by simp
  have t1 : decide (N ≤ k) = false := by simp; omega
  dsimp only at c0 c1 c2 c3 q0 q1 q2 q3 n0 n1
  clear ft
  go_upto_region 6 with fail
  have HS := Lib.hid (Six.new HF2.out ⟨3, 3, 1, n⟩)
  dsimp only at HS
  generalize (w2.alloc (.cells #[.int .i64 3, .int .i64 3, .int .i64 1, .int .i32 n] 59)).alloc (.cells #[.int .i64 0, .int .i64 0, .int .i32 0] 61) = W3 at *
  clear p0 p1 q0 q1 q2 q3 c0 c1 c2 c3 t0 t1
  obtain ⟨p0, p1, q0, q1, q2, q3, z0, z1, z2, z3, f0, f1, f2, hlt⟩ := HS.out.four.cells
  obtain ⟨uq, uz, uf⟩ := HS.out.four.frees
  obtain ⟨x0, x1, x2, x3, e0, e1, e2, hlt2, ue, hlt3⟩ := HS.out.cells
  dsimp only at q0 q1 q2 q3 x0 x1 x2 x3
  generalize w2.heap.size = B at *
  go_wp2_with fail
  refine wp_region_still_tail 15 (by kernel_rfl) (by kernel_rfl) ?_
  simp only [List.take_succ_cons, List.take_zero, List.drop_succ_cons, List.drop_zero]
  repeat still_step
  still_call (flipW (round_any _) _)
  repeat still_step
  refine wpStill_nil ?_
  change wpList _ _ _ _ _ W3.drew
  have HS4 := Lib.hid HS.out.drew
  clear p0 p1 q0 q1 q2 q3 z0 z1 z2 z3 f0 f1 f2 hlt uq uz uf x0 x1 x2 x3 e0 e1 e2 hlt2 ue hlt3 HS
  generalize W3.drew = W4 at *
  have HS := HS4; clear HS4
  obtain ⟨p0, p1, q0, q1, q2, q3, z0, z1, z2, z3, f0, f1, f2, hlt⟩ := HS.out.four.cells
  obtain ⟨uq, uz, uf⟩ := HS.out.four.frees
  obtain ⟨x0, x1, x2, x3, e0, e1, e2, hlt2, ue, hlt3⟩ := HS.out.cells
  dsimp only at q0 q1 q2 q3 x0 x1 x2 x3
  go_wp2_with fail
  go_region
  all_goals go_wp2
  all_goals refine bodyPost_ret (v := .tuple #[.int .i64 (k + 1), .agg #[.int .i32 ra, .int .i32 rb, .int .i32 rc, .int .i32 (word32 (rd - rb))], .agg #[.int .i64 0, .int .i64 0, .int .i32 0]]) (by simp [results, Tryd.results21, go_sem, *]) rfl ⟨?_, ?_⟩
  · simp [stepP, R4.get, R4.put, Eff.zero]
  · refine HS.out.four.below.trans (But.below (X := fun k => w.heap.size ≤ k) ?_ HS.out.four.below.size fun _ _ q => q)
    repeat' first
      | with_reducible exact But.refl _ _
      | with_reducible refine But.set ?_ _ _ (.inl ?_)
      | with_reducible refine But.drewN ?_ _
      | with_reducible refine But.drew ?_
      | with_reducible refine But.alloc ?_ _
    all_goals (dsimp only; omega)
set_option maxRecDepth 100000 in
set_option maxHeartbeats 4000000 in
theorem ref_3_3_2 (n : Int) (prio : Int) (A : Option Addr) (l : List I4) (cap k : Nat) (r : R4) (w : World) (hI : InsIn w A l) (hx : l[k]? = some ⟨3, 3, 2, n⟩) (hf : Fine prio l) (hr : r.Ok) :
    Calls Tryd.prog 21 #[.agg #[.int .i64 prio, .slice A l.length cap], .int .i64 k, regV r] w (StepG (stepP ⟨3, 3, 2, n⟩ k r) w) := by
  have hF := Four.new w prio A l.length cap r
  have HC := refCheck_any prio A l cap _ (hI.below hF.below)
  unfold CheckP at HC
  rw [hf.ok] at HC
  have HC := Lib.hid HC; have HF := Lib.hid hF
  have kl : k < l.length := (List.getElem?_eq_some_iff.1 hx).1
  have kl64 : l.length ≤ 64 := hf.len.2
  have HI := Lib.hid hI; have HX := Lib.hid hx
  clear hF hI hf hx
  generalize l.length = N at *
  obtain ⟨ra, rb, rc, rd⟩ := r
  obtain ⟨⟨a0, a1⟩, ⟨b0, b1⟩, ⟨g0, g1⟩, ⟨d0, d1⟩⟩ := hr
  dsimp only at a0 a1 b0 b1 g0 g1 d0 d1
  go_enter Tryd.func21, Tryd.ntmps21
  go_wp2_with fail
  refine HC.out.mono ?_
  rintro e w2 ⟨rfl, h2⟩
  have HF2 := Lib.hid (HF.out.on h2)
  clear h2 HC HF
  obtain ⟨p0, p1, q0, q1, q2, q3, -⟩ := HF2.out.cells
  obtain ⟨ft, bb, off, rfl, -, c0, c1, c2, c3⟩ := (HI.out.below HF2.out.below) k _ HX.out
  obtain ⟨n0, n1⟩ := ft.n
  have k0 : (0 : Int) ≤ (k : Int) := by omega
  have k1 : (k : Int) < (N : Int) := by omega
  have t0 : decide ((k : Int) < 0) = false := by simp
  have t1 : decide (N ≤ k) = false := by simp; omega
  dsimp only at c0 c1 c2 c3 q0 q1 q2 q3 n0 n1
  clear ft
  go_upto_region 6 with fail
  have HS := Lib.hid (Six.new HF2.out ⟨3, 3, 2, n⟩)
  dsimp only at HS
  generalize (w2.alloc (.cells #[.int .i64 3, .int .i64 3, .int .i64 2, .int .i32 n] 59)).alloc (.cells #[.int .i64 0, .int .i64 0, .int .i32 0] 61) = W3 at *
  clear p0 p1 q0 q1 q2 q3 c0 c1 c2 c3 t0 t1
  obtain ⟨p0, p1, q0, q1, q2, q3, z0, z1, z2, z3, f0, f1, f2, hlt⟩ := HS.out.four.cells
  obtain ⟨uq, uz, uf⟩ := HS.out.four.frees
  obtain ⟨x0, x1, x2, x3, e0, e1, e2, hlt2, ue, hlt3⟩ := HS.out.cells
  dsimp only at q0 q1 q2 q3 x0 x1 x2 x3
  generalize w2.heap.size = B at *
  go_wp2_with fail
  refine wp_region_still_tail 15 (by kernel_rfl) (by kernel_rfl) ?_
  simp only [List.take_succ_cons, List.take_zero, List.drop_succ_cons, List.drop_zero]
  repeat still_step
  still_call (flipW (round_any _) _)
  repeat still_step
  refine wpStill_nil ?_
  change wpList _ _ _ _ _ W3.drew
  have HS4 := Lib.hid HS.out.drew
  clear p0 p1 q0 q1 q2 q3 z0 z1 z2 z3 f0 f1 f2 hlt uq uz uf x0 x1 x2 x3 e0 e1 e2 hlt2 ue hlt3 HS
  generalize W3.drew = W4 at *
  have HS := HS4; clear HS4
  obtain ⟨p0, p1, q0, q1, q2, q3, z0, z1, z2, z3, f0, f1, f2, hlt⟩ := HS.out.four.cells
  obtain ⟨uq, uz, uf⟩ := HS.out.four.frees
  obtain ⟨x0, x1, x2, x3, e0, e1, e2, hlt2, ue, hlt3⟩ := HS.out.cells
  dsimp only at q0 q1 q2 q3 x0 x1 x2 x3
  go_wp2_with fail
  go_region
  all_goals go_wp2
  all_goals refine bodyPost_ret (v := .tuple #[.int .i64 (k + 1), .agg #[.int .i32 ra, .int .i32 rb, .int .i32 rc, .int .i32 (word32 (rd - rc))], .agg #[.int .i64 0, .int .i64 0, .int .i32 0]]) (by simp [results, Tryd.results21, go_sem, *]) rfl ⟨?_, ?_⟩
  · simp [stepP, R4.get, R4.put, Eff.zero]
  · refine HS.out.four.below.trans (But.below (X := fun k => w.heap.size ≤ k) ?_ HS.out.four.below.size fun _ _ q => q)
    repeat' first
      | with_reducible exact But.refl _ _
      | with_reducible refine But.set ?_ _ _ (.inl ?_)
      | with_reducible refine But.drewN ?_ _
      | with_reducible refine But.drew ?_
      | with_reducible refine But.alloc ?_ _
    all_goals (dsimp only; omega)
set_option maxRecDepth 100000 in
set_option maxHeartbeats 4000000 in
theorem ref_3_3_3 (n : Int) (prio : Int) (A : Option Addr) (l : List I4) (cap k : Nat) (r : R4) (w : World) (hI : InsIn w A l) (hx : l[k]? = some ⟨3, 3, 3, n⟩) (hf : Fine prio l) (hr : r.Ok) :
    Calls Tryd.prog 21 #[.agg #[.int .i64 prio, .slice A l.length cap], .int .i64 k, regV r] w (StepG (stepP ⟨3, 3, 3, n⟩ k r) w) := by
  have hF := Four.new w prio A l.length cap r
  have HC := refCheck_any prio A l cap _ (hI.below hF.below)
  unfold CheckP at HC
  rw [hf.ok] at HC
  have HC := Lib.hid HC; have HF := Lib.hid hF
  have kl : k < l.length := (List.getElem?_eq_some_iff.1 hx).1
  have kl64 : l.length ≤ 64 := hf.len.2
  have HI := Lib.hid hI; have HX := Lib.hid hx
  clear hF hI hf hx
  generalize l.length = N at *
  obtain ⟨ra, rb, rc, rd⟩ := r
  obtain ⟨⟨a0, a1⟩, ⟨b0, b1⟩, ⟨g0, g1⟩, ⟨d0, d1⟩⟩ := hr
  dsimp only at a0 a1 b0 b1 g0 g1 d0 d1
  go_enter Tryd.func21, Tryd.ntmps21
  go_wp2_with fail
  refine HC.out.mono ?_
  rintro e w2 ⟨rfl, h2⟩
  have HF2 := Lib.hid (HF.out.on h2)
  clear h2 HC HF
  obtain ⟨p0, p1, q0, q1, q2, q3, -⟩ := HF2.out.cells
  obtain ⟨ft, bb, off, rfl, -, c0, c1, c2, c3⟩ := (HI.out.below HF2.out.below) k _ HX.out
  obtain ⟨n0, n1⟩ := ft.n
  have k0 : (0 : Int) ≤ (k : Int) := by omega
  have k1 : (k : Int) < (N : Int) := by omega
  have t0 : decide ((k : Int) < 0) = false := by simp
  have t1 : decide (N ≤ k) = false := by simp; omega
  dsimp only at c0 c1 c2 c3 q0 q1 q2 q3 n0 n1
  clear ft
  go_upto_region 6 with fail
  have HS := Lib.hid (Six.new HF2.out ⟨3, 3, 3, n⟩)
  dsimp only at HS
  generalize (w2.alloc (.cells #[.int .i64 3, .int .i64 3, .int .i64 3, .int .i32 n] 59)).alloc (.cells #[.int .i64 0, .int .i64 0, .int .i32 0] 61) = W3 at *
  clear p0 p1 q0 q1 q2 q3 c0 c1 c2 c3 t0 t1
  obtain ⟨p0, p1, q0, q1, q2, q3, z0, z1, z2, z3, f0, f1, f2, hlt⟩ := HS.out.four.cells
  obtain ⟨uq, uz, uf⟩ := HS.out.four.frees
  obtain ⟨x0, x1, x2, x3, e0, e1, e2, hlt2, ue, hlt3⟩ := HS.out.cells
  dsimp only at q0 q1 q2 q3 x0 x1 x2 x3
  generalize w2.heap.size = B at *
  go_wp2_with fail
  refine wp_region_still_tail 15 (by kernel_rfl) (by kernel_rfl) ?_
  simp only [List.take_succ_cons, List.take_zero, List.drop_succ_cons, List.drop_zero]
  repeat still_step
  still_call (flipW (round_any _) _)
  repeat still_step
  refine wpStill_nil ?_
  change wpList _ _ _ _ _ W3.drew
  have HS4 := Lib.hid HS.out.drew
  clear p0 p1 q0 q1 q2 q3 z0 z1 z2 z3 f0 f1 f2 hlt uq uz uf x0 x1 x2 x3 e0 e1 e2 hlt2 ue hlt3 HS
  generalize W3.drew = W4 at *
  have HS := HS4; clear HS4
  obtain ⟨p0, p1, q0, q1, q2, q3, z0, z1, z2, z3, f0, f1, f2, hlt⟩ := HS.out.four.cells
  obtain ⟨uq, uz, uf⟩ := HS.out.four.frees
  obtain ⟨x0, x1, x2, x3, e0, e1, e2, hlt2, ue, hlt3⟩ := HS.out.cells
  dsimp only at q0 q1 q2 q3 x0 x1 x2 x3
  go_wp2_with fail
  go_region
  all_goals go_wp2
  all_goals refine bodyPost_ret (v := .tuple #[.int .i64 (k + 1), .agg #[.int .i32 ra, .int .i32 rb, .int .i32 rc, .int .i32 (word32 (rd - rd))], .agg #[.int .i64 0, .int .i64 0, .int .i32 0]]) (by simp [results, Tryd.results21, go_sem, *]) rfl ⟨?_, ?_⟩
  · simp [stepP, R4.get, R4.put, Eff.zero]
  · refine HS.out.four.below.trans (But.below (X := fun k => w.heap.size ≤ k) ?_ HS.out.four.below.size fun _ _ q => q)
    repeat' first
      | with_reducible exact But.refl _ _
      | with_reducible refine But.set ?_ _ _ (.inl ?_)
      | with_reducible refine But.drewN ?_ _
      | with_reducible refine But.drew ?_
      | with_reducible refine But.alloc ?_ _
    all_goals (dsimp only; omega)
end Go.Proofs.YtilaalleiiakoaaDoor
