/- The document's step, at the instructions 8, 10, 11. -/
import Derived.Test.YtilaalleiiakoaaDoorF0
import Derived.Deep.DeepCutAuto
namespace Go.Proofs.YtilaalleiiakoaaDoor
open Go.RowKit

set_option maxRecDepth 100000 in
set_option maxHeartbeats 4000000 in
theorem ref_8_0 (b n : Int) (prio : Int) (A : Option Addr) (l : List I4) (cap k : Nat) (r : R4) (w : World) (hI : InsIn w A l) (hx : l[k]? = some ⟨8, 0, b, n⟩) (hf : Fine prio l) :
    Calls Tryd.prog 21 #[.agg #[.int .i64 prio, .slice A l.length cap], .int .i64 k, regV r] w (StepG (stepP ⟨8, 0, b, n⟩ k r) w) := by
  have hF := Four.new w prio A l.length cap r
  have HC := refCheck_any prio A l cap _ (hI.below hF.below)
  unfold CheckP at HC
  rw [hf.ok] at HC
  have HC := Lib.hid HC; have HF := Lib.hid hF
  have kl : k < l.length := (List.getElem?_eq_some_iff.1 hx).1
  have kl64 : l.length ≤ 64 := hf.len.2
  have HI := Lib.hid hI; have HX := Lib.hid hx
  clear hF hI hf hx
  generalize l.length = N at *
  obtain ⟨ra, rb, rc, rd⟩ := r
  go_enter Tryd.func21, Tryd.ntmps21
  go_wp2_with fail
  refine HC.out.mono ?_
  rintro e w2 ⟨rfl, h2⟩
  have HF2 := Lib.hid (HF.out.on h2)
  clear h2 HC HF
  obtain ⟨p0, p1, q0, q1, q2, q3, -⟩ := HF2.out.cells
  obtain ⟨ft, bb, off, rfl, -, c0, c1, c2, c3⟩ := (HI.out.below HF2.out.below) k _ HX.out
  obtain ⟨n0, n1⟩ := ft.n
  have k0 : (0 : Int) ≤ (k : Int) := by omega
  have k1 : (k : Int) < (N : Int) := by omega
  have t0 : decide ((k : Int) < 0) = false := by simp
  have t1 : decide (N ≤ k) = false := by simp; omega
  dsimp only at c0 c1 c2 c3 q0 q1 q2 q3 n0 n1
  clear ft
  go_upto_region 6 with fail
  have HS := Lib.hid (Six.new HF2.out ⟨8, 0, b, n⟩)
  dsimp only at HS
  generalize (w2.alloc (.cells #[.int .i64 8, .int .i64 0, .int .i64 b, .int .i32 n] 59)).alloc (.cells #[.int .i64 0, .int .i64 0, .int .i32 0] 61) = W3 at *
  clear p0 p1 q0 q1 q2 q3 c0 c1 c2 c3 t0 t1
  obtain ⟨p0, p1, q0, q1, q2, q3, z0, z1, z2, z3, f0, f1, f2, hlt⟩ := HS.out.four.cells
  obtain ⟨uq, uz, uf⟩ := HS.out.four.frees
  obtain ⟨x0, x1, x2, x3, e0, e1, e2, hlt2, ue, hlt3⟩ := HS.out.cells
  dsimp only at q0 q1 q2 q3 x0 x1 x2 x3
  generalize w2.heap.size = B at *
  go_wp2_with fail
  go_region
  all_goals go_wp2
  all_goals refine bodyPost_ret (v := .tuple #[.int .i64 (k + 1), .agg #[.int .i32 ra, .int .i32 rb, .int .i32 rc, .int .i32 rd], .agg #[.int .i64 8, .int .i64 b, .int .i32 ra]]) (by simp [results, Tryd.results21, go_sem, *]) rfl ⟨?_, ?_⟩
  · simp [stepP, R4.get]
  · refine HS.out.four.below.trans (But.below (X := fun k => w.heap.size ≤ k) ?_ HS.out.four.below.size fun _ _ q => q)
    repeat' first
      | with_reducible exact But.refl _ _
      | with_reducible refine But.set ?_ _ _ (.inl ?_)
      | with_reducible refine But.drewN ?_ _
      | with_reducible refine But.drew ?_
      | with_reducible refine But.alloc ?_ _
    all_goals (dsimp only; omega)
set_option maxRecDepth 100000 in
set_option maxHeartbeats 4000000 in
theorem ref_8_1 (b n : Int) (prio : Int) (A : Option Addr) (l : List I4) (cap k : Nat) (r : R4) (w : World) (hI : InsIn w A l) (hx : l[k]? = some ⟨8, 1, b, n⟩) (hf : Fine prio l) :
    Calls Tryd.prog 21 #[.agg #[.int .i64 prio, .slice A l.length cap], .int .i64 k, regV r] w (StepG (stepP ⟨8, 1, b, n⟩ k r) w) := by
  have hF := Four.new w prio A l.length cap r
  have HC := refCheck_any prio A l cap _ (hI.below hF.below)
  unfold CheckP at HC
  rw [hf.ok] at HC
  have HC := Lib.hid HC; have HF := Lib.hid hF
  have kl : k < l.length := (List.getElem?_eq_some_iff.1 hx).1
  have kl64 : l.length ≤ 64 := hf.len.2
  have HI := Lib.hid hI; have HX := Lib.hid hx
  clear hF hI hf hx
  generalize l.length = N at *
  obtain ⟨ra, rb, rc, rd⟩ := r
  go_enter Tryd.func21, Tryd.ntmps21
  go_wp2_with fail
  refine HC.out.mono ?_
  rintro e w2 ⟨rfl, h2⟩
  have HF2 := Lib.hid (HF.out.on h2)
  clear h2 HC HF
  obtain ⟨p0, p1, q0, q1, q2, q3, -⟩ := HF2.out.cells
  obtain ⟨ft, bb, off, rfl, -, c0, c1, c2, c3⟩ := (HI.out.below HF2.out.below) k _ HX.out
  obtain ⟨n0, n1⟩ := ft.n
  have k0 : (0 : Int) ≤ (k : Int) := by omega
  have k1 : (k : Int) < (N : Int) := by omega
  have t0 : decide ((k : Int) < 0) = false := by simp
  have t1 : decide (N ≤ k) = false := by simp; omega
  dsimp only at c0 c1 c2 c3 q0 q1 q2 q3 n0 n1
  clear ft
  go_upto_region 6 with fail
  have HS := Lib.hid (Six.new HF2.out ⟨8, 1, b, n⟩)
  dsimp only at HS
  generalize (w2.alloc (.cells #[.int .i64 8, .int .i64 1, .int .i64 b, .int .i32 n] 59)).alloc (.cells #[.int .i64 0, .int .i64 0, .int .i32 0] 61) = W3 at *
  clear p0 p1 q0 q1 q2 q3 c0 c1 c2 c3 t0 t1
  obtain ⟨p0, p1, q0, q1, q2, q3, z0, z1, z2, z3, f0, f1, f2, hlt⟩ := HS.out.four.cells
  obtain ⟨uq, uz, uf⟩ := HS.out.four.frees
  obtain ⟨x0, x1, x2, x3, e0, e1, e2, hlt2, ue, hlt3⟩ := HS.out.cells
  dsimp only at q0 q1 q2 q3 x0 x1 x2 x3
  generalize w2.heap.size = B at *
  go_wp2_with fail
  go_region
  all_goals go_wp2
  all_goals refine bodyPost_ret (v := .tuple #[.int .i64 (k + 1), .agg #[.int .i32 ra, .int .i32 rb, .int .i32 rc, .int .i32 rd], .agg #[.int .i64 8, .int .i64 b, .int .i32 rb]]) (by simp [results, Tryd.results21, go_sem, *]) rfl ⟨?_, ?_⟩
  · simp [stepP, R4.get]
  · refine HS.out.four.below.trans (But.below (X := fun k => w.heap.size ≤ k) ?_ HS.out.four.below.size fun _ _ q => q)
    repeat' first
      | with_reducible exact But.refl _ _
      | with_reducible refine But.set ?_ _ _ (.inl ?_)
      | with_reducible refine But.drewN ?_ _
      | with_reducible refine But.drew ?_
      | with_reducible refine But.alloc ?_ _
    all_goals (dsimp only; omega)
set_option maxRecDepth 100000 in
set_option maxHeartbeats 4000000 in
theorem ref_8_2 (b n : Int) (prio : Int) (A : Option Addr) (l : List I4) (cap k : Nat) (r : R4) (w : World) (hI : InsIn w A l) (hx : l[k]? = some ⟨8, 2, b, n⟩) (hf : Fine prio l) :
    Calls Tryd.prog 21 #[.agg #[.int .i64 prio, .slice A l.length cap], .int .i64 k, regV r] w (StepG (stepP ⟨8, 2, b, n⟩ k r) w) := by
  have hF := Four.new w prio A l.length cap r
  have HC := refCheck_any prio A l cap _ (hI.below hF.below)
  unfold CheckP at HC
  rw [hf.ok] at HC
  have HC := Lib.hid HC; have HF := Lib.hid hF
  have kl : k < l.length := (List.getElem?_eq_some_iff.1 hx).1
  have kl64 : l.length ≤ 64 := hf.len.2
  have HI := Lib.hid hI; have HX := Lib.hid hx
  clear hF hI hf hx
  generalize l.length = N at *
  obtain ⟨ra, rb, rc, rd⟩ := r
  go_enter Tryd.func21, Tryd.ntmps21
  go_wp2_with fail
  refine HC.out.mono ?_
  rintro e w2 ⟨rfl, h2⟩
  have HF2 := Lib.hid (HF.out.on h2)
  clear h2 HC HF
  obtain ⟨p0, p1, q0, q1, q2, q3, -⟩ := HF2.out.cells
  obtain ⟨ft, bb, off, rfl, -, c0, c1, c2, c3⟩ := (HI.out.below HF2.out.below) k _ HX.out
  obtain ⟨n0, n1⟩ := ft.n
  have k0 : (0 : Int) ≤ (k : Int) := by omega
  have k1 : (k : Int) < (N : Int) := by omega
  have t0 : decide ((k : Int) < 0) = false := by simp
  have t1 : decide (N ≤ k) = false := by simp; omega
  dsimp only at c0 c1 c2 c3 q0 q1 q2 q3 n0 n1
  clear ft
  go_upto_region 6 with fail
  have HS := Lib.hid (Six.new HF2.out ⟨8, 2, b, n⟩)
  dsimp only at HS
  generalize (w2.alloc (.cells #[.int .i64 8, .int .i64 2, .int .i64 b, .int .i32 n] 59)).alloc (.cells #[.int .i64 0, .int .i64 0, .int .i32 0] 61) = W3 at *
  clear p0 p1 q0 q1 q2 q3 c0 c1 c2 c3 t0 t1
  obtain ⟨p0, p1, q0, q1, q2, q3, z0, z1, z2, z3, f0, f1, f2, hlt⟩ := HS.out.four.cells
  obtain ⟨uq, uz, uf⟩ := HS.out.four.frees
  obtain ⟨x0, x1, x2, x3, e0, e1, e2, hlt2, ue, hlt3⟩ := HS.out.cells
  dsimp only at q0 q1 q2 q3 x0 x1 x2 x3
  generalize w2.heap.size = B at *
  go_wp2_with fail
  go_region
  all_goals go_wp2
  all_goals refine bodyPost_ret (v := .tuple #[.int .i64 (k + 1), .agg #[.int .i32 ra, .int .i32 rb, .int .i32 rc, .int .i32 rd], .agg #[.int .i64 8, .int .i64 b, .int .i32 rc]]) (by simp [results, Tryd.results21, go_sem, *]) rfl ⟨?_, ?_⟩
  · simp [stepP, R4.get]
  · refine HS.out.four.below.trans (But.below (X := fun k => w.heap.size ≤ k) ?_ HS.out.four.below.size fun _ _ q => q)
    repeat' first
      | with_reducible exact But.refl _ _
      | with_reducible refine But.set ?_ _ _ (.inl ?_)
      | with_reducible refine But.drewN ?_ _
      | with_reducible refine But.drew ?_
      | with_reducible refine But.alloc ?_ _
    all_goals (dsimp only; omega)
set_option maxRecDepth 100000 in
set_option maxHeartbeats 4000000 in
theorem ref_8_3 (b n : Int) (prio : Int) (A : Option Addr) (l : List I4) (cap k : Nat) (r : R4) (w : World) (hI : InsIn w A l) (hx : l[k]? = some ⟨8, 3, b, n⟩) (hf : Fine prio l) :
    Calls Tryd.prog 21 #[.agg #[.int .i64 prio, .slice A l.length cap], .int .i64 k, regV r] w (StepG (stepP ⟨8, 3, b, n⟩ k r) w) := by
  have hF := Four.new w prio A l.length cap r
  have HC := refCheck_any prio A l cap _ (hI.below hF.below)
  unfold CheckP at HC
  rw [hf.ok] at HC
  have HC := Lib.hid HC; have HF := Lib.hid hF
  have kl : k < l.length := (List.getElem?_eq_some_iff.1 hx).1
  have kl64 : l.length ≤ 64 := hf.len.2
  have HI := Lib.hid hI; have HX := Lib.hid hx
  clear hF hI hf hx
  generalize l.length = N at *
  obtain ⟨ra, rb, rc, rd⟩ := r
  go_enter Tryd.func21, Tryd.ntmps21
  go_wp2_with fail
  refine HC.out.mono ?_
  rintro e w2 ⟨rfl, h2⟩
  have HF2 := Lib.hid (HF.out.on h2)
  clear h2 HC HF
  obtain ⟨p0, p1, q0, q1, q2, q3, -⟩ := HF2.out.cells
  obtain ⟨ft, bb, off, rfl, -, c0, c1, c2, c3⟩ := (HI.out.below HF2.out.below) k _ HX.out
  obtain ⟨n0, n1⟩ := ft.n
  have k0 : (0 : Int) ≤ (k : Int) := by omega
  have k1 : (k : Int) < (N : Int) := by omega
  have t0 : decide ((k : Int) < 0) = false := by simp
  have t1 : decide (N ≤ k) = false := by simp; omega
  dsimp only at c0 c1 c2 c3 q0 q1 q2 q3 n0 n1
  clear ft
  go_upto_region 6 with fail
  have HS := Lib.hid (Six.new HF2.out ⟨8, 3, b, n⟩)
  dsimp only at HS
  generalize (w2.alloc (.cells #[.int .i64 8, .int .i64 3, .int .i64 b, .int .i32 n] 59)).alloc (.cells #[.int .i64 0, .int .i64 0, .int .i32 0] 61) = W3 at *
  clear p0 p1 q0 q1 q2 q3 c0 c1 c2 c3 t0 t1
  obtain ⟨p0, p1, q0, q1, q2, q3, z0, z1, z2, z3, f0, f1, f2, hlt⟩ := HS.out.four.cells
  obtain ⟨uq, uz, uf⟩ := HS.out.four.frees
  obtain ⟨x0, x1, x2, x3, e0, e1, e2, hlt2, ue, hlt3⟩ := HS.out.cells
  dsimp only at q0 q1 q2 q3 x0 x1 x2 x3
  generalize w2.heap.size = B at *
  go_wp2_with fail
  go_region
  all_goals go_wp2
  all_goals refine bodyPost_ret (v := .tuple #[.int .i64 (k + 1), .agg #[.int .i32 ra, .int .i32 rb, .int .i32 rc, .int .i32 rd], .agg #[.int .i64 8, .int .i64 b, .int .i32 rd]]) (by simp [results, Tryd.results21, go_sem, *]) rfl ⟨?_, ?_⟩
  · simp [stepP, R4.get]
  · refine HS.out.four.below.trans (But.below (X := fun k => w.heap.size ≤ k) ?_ HS.out.four.below.size fun _ _ q => q)
    repeat' first
      | with_reducible exact But.refl _ _
      | with_reducible refine But.set ?_ _ _ (.inl ?_)
      | with_reducible refine But.drewN ?_ _
      | with_reducible refine But.drew ?_
      | with_reducible refine But.alloc ?_ _
    all_goals (dsimp only; omega)
set_option maxRecDepth 100000 in
set_option maxHeartbeats 4000000 in
theorem ref_10_0 (b n : Int) (prio : Int) (A : Option Addr) (l : List I4) (cap k : Nat) (r : R4) (w : World) (hI : InsIn w A l) (hx : l[k]? = some ⟨10, 0, b, n⟩) (hf : Fine prio l) :
    Calls Tryd.prog 21 #[.agg #[.int .i64 prio, .slice A l.length cap], .int .i64 k, regV r] w (StepG (stepP ⟨10, 0, b, n⟩ k r) w) := by
  have hF := Four.new w prio A l.length cap r
  have HC := refCheck_any prio A l cap _ (hI.below hF.below)
  unfold CheckP at HC
  rw [hf.ok] at HC
  have HC := Lib.hid HC; have HF := Lib.hid hF
  have kl : k < l.length := (List.getElem?_eq_some_iff.1 hx).1
  have kl64 : l.length ≤ 64 := hf.len.2
  have HI := Lib.hid hI; have HX := Lib.hid hx
  clear hF hI hf hx
  generalize l.length = N at *
  obtain ⟨ra, rb, rc, rd⟩ := r
  go_enter Tryd.func21, Tryd.ntmps21
  go_wp2_with fail
  refine HC.out.mono ?_
  rintro e w2 ⟨rfl, h2⟩
  have HF2 := Lib.hid (HF.out.on h2)
  clear h2 HC HF
  obtain ⟨p0, p1, q0, q1, q2, q3, -⟩ := HF2.out.cells
  obtain ⟨ft, bb, off, rfl, -, c0, c1, c2, c3⟩ := (HI.out.below HF2.out.below) k _ HX.out
  obtain ⟨n0, n1⟩ := ft.n
  have k0 : (0 : Int) ≤ (k : Int) := by omega
  have k1 : (k : Int) < (N : Int) := by omega
  have t0 : decide ((k : Int) < 0) = false := by simp
  have t1 : decide (N ≤ k) = false := by simp; omega
  dsimp only at c0 c1 c2 c3 q0 q1 q2 q3 n0 n1
  clear ft
  go_upto_region 6 with fail
  have HS := Lib.hid (Six.new HF2.out ⟨10, 0, b, n⟩)
  dsimp only at HS
  generalize (w2.alloc (.cells #[.int .i64 10, .int .i64 0, .int .i64 b, .int .i32 n] 59)).alloc (.cells #[.int .i64 0, .int .i64 0, .int .i32 0] 61) = W3 at *
  clear p0 p1 q0 q1 q2 q3 c0 c1 c2 c3 t0 t1
  obtain ⟨p0, p1, q0, q1, q2, q3, z0, z1, z2, z3, f0, f1, f2, hlt⟩ := HS.out.four.cells
  obtain ⟨uq, uz, uf⟩ := HS.out.four.frees
  obtain ⟨x0, x1, x2, x3, e0, e1, e2, hlt2, ue, hlt3⟩ := HS.out.cells
  dsimp only at q0 q1 q2 q3 x0 x1 x2 x3
  generalize w2.heap.size = B at *
  go_wp2_with fail
  go_region
  all_goals go_wp2
  all_goals refine bodyPost_ret (v := .tuple #[.int .i64 (k + 1), .agg #[.int .i32 ra, .int .i32 rb, .int .i32 rc, .int .i32 rd], .agg #[.int .i64 10, .int .i64 0, .int .i32 n]]) (by simp [results, Tryd.results21, go_sem, *]) rfl ⟨?_, ?_⟩
  · simp [stepP]
  · refine HS.out.four.below.trans (But.below (X := fun k => w.heap.size ≤ k) ?_ HS.out.four.below.size fun _ _ q => q)
    repeat' first
      | with_reducible exact But.refl _ _
      | with_reducible refine But.set ?_ _ _ (.inl ?_)
      | with_reducible refine But.drewN ?_ _
      | with_reducible refine But.drew ?_
      | with_reducible refine But.alloc ?_ _
    all_goals (dsimp only; omega)
set_option maxRecDepth 100000 in
set_option maxHeartbeats 4000000 in
theorem ref_10_1 (b n : Int) (prio : Int) (A : Option Addr) (l : List I4) (cap k : Nat) (r : R4) (w : World) (hI : InsIn w A l) (hx : l[k]? = some ⟨10, 1, b, n⟩) (hf : Fine prio l) :
    Calls Tryd.prog 21 #[.agg #[.int .i64 prio, .slice A l.length cap], .int .i64 k, regV r] w (StepG (stepP ⟨10, 1, b, n⟩ k r) w) := by
  have hF := Four.new w prio A l.length cap r
  have HC := refCheck_any prio A l cap _ (hI.below hF.below)
  unfold CheckP at HC
  rw [hf.ok] at HC
  have HC := Lib.hid HC; have HF := Lib.hid hF
  have kl : k < l.length := (List.getElem?_eq_some_iff.1 hx).1
  have kl64 : l.length ≤ 64 := hf.len.2
  have HI := Lib.hid hI; have HX := Lib.hid hx
  clear hF hI hf hx
  generalize l.length = N at *
  obtain ⟨ra, rb, rc, rd⟩ := r
  go_enter Tryd.func21, Tryd.ntmps21
  go_wp2_with fail
  refine HC.out.mono ?_
  rintro e w2 ⟨rfl, h2⟩
  have HF2 := Lib.hid (HF.out.on h2)
  clear h2 HC HF
  obtain ⟨p0, p1, q0, q1, q2, q3, -⟩ := HF2.out.cells
  obtain ⟨ft, bb, off, rfl, -, c0, c1, c2, c3⟩ := (HI.out.below HF2.out.below) k _ HX.out
  obtain ⟨n0, n1⟩ := ft.n
  have k0 : (0 : Int) ≤ (k : Int) := by omega
  have k1 : (k : Int) < (N : Int) := by omega
  have t0 : decide ((k : Int) < 0) = false := by simp
  have t1 : decide (N ≤ k) = false := by simp; omega
  dsimp only at c0 c1 c2 c3 q0 q1 q2 q3 n0 n1
  clear ft
  go_upto_region 6 with fail
  have HS := Lib.hid (Six.new HF2.out ⟨10, 1, b, n⟩)
  dsimp only at HS
  generalize (w2.alloc (.cells #[.int .i64 10, .int .i64 1, .int .i64 b, .int .i32 n] 59)).alloc (.cells #[.int .i64 0, .int .i64 0, .int .i32 0] 61) = W3 at *
  clear p0 p1 q0 q1 q2 q3 c0 c1 c2 c3 t0 t1
  obtain ⟨p0, p1, q0, q1, q2, q3, z0, z1, z2, z3, f0, f1, f2, hlt⟩ := HS.out.four.cells
  obtain ⟨uq, uz, uf⟩ := HS.out.four.frees
  obtain ⟨x0, x1, x2, x3, e0, e1, e2, hlt2, ue, hlt3⟩ := HS.out.cells
  dsimp only at q0 q1 q2 q3 x0 x1 x2 x3
  generalize w2.heap.size = B at *
  go_wp2_with fail
  go_region
  all_goals go_wp2
  all_goals refine bodyPost_ret (v := .tuple #[.int .i64 (k + 1), .agg #[.int .i32 ra, .int .i32 rb, .int .i32 rc, .int .i32 rd], .agg #[.int .i64 10, .int .i64 1, .int .i32 n]]) (by simp [results, Tryd.results21, go_sem, *]) rfl ⟨?_, ?_⟩
  · simp [stepP]
  · refine HS.out.four.below.trans (But.below (X := fun k => w.heap.size ≤ k) ?_ HS.out.four.below.size fun _ _ q => q)
    repeat' first
      | with_reducible exact But.refl _ _
      | with_reducible refine But.set ?_ _ _ (.inl ?_)
      | with_reducible refine But.drewN ?_ _
      | with_reducible refine But.drew ?_
      | with_reducible refine But.alloc ?_ _
    all_goals (dsimp only; omega)
set_option maxRecDepth 100000 in
set_option maxHeartbeats 4000000 in
theorem ref_10_2 (b n : Int) (prio : Int) (A : Option Addr) (l : List I4) (cap k : Nat) (r : R4) (w : World) (hI : InsIn w A l) (hx : l[k]? = some ⟨10, 2, b, n⟩) (hf : Fine prio l) :
    Calls Tryd.prog 21 #[.agg #[.int .i64 prio, .slice A l.length cap], .int .i64 k, regV r] w (StepG (stepP ⟨10, 2, b, n⟩ k r) w) := by
  have hF := Four.new w prio A l.length cap r
  have HC := refCheck_any prio A l cap _ (hI.below hF.below)
  unfold CheckP at HC
  rw [hf.ok] at HC
  have HC := Lib.hid HC; have HF := Lib.hid hF
  have kl : k < l.length := (List.getElem?_eq_some_iff.1 hx).1
  have kl64 : l.length ≤ 64 := hf.len.2
  have HI := Lib.hid hI; have HX := Lib.hid hx
  clear hF hI hf hx
  generalize l.length = N at *
  obtain ⟨ra, rb, rc, rd⟩ := r
  go_enter Tryd.func21, Tryd.ntmps21
  go_wp2_with fail
  refine HC.out.mono ?_
  rintro e w2 ⟨rfl, h2⟩
  have HF2 := Lib.hid (HF.out.on h2)
  clear h2 HC HF
  obtain ⟨p0, p1, q0, q1, q2, q3, -⟩ := HF2.out.cells
  obtain ⟨ft, bb, off, rfl, -, c0, c1, c2, c3⟩ := (HI.out.below HF2.out.below) k _ HX.out
  obtain ⟨n0, n1⟩ := ft.n
  have k0 : (0 : Int) ≤ (k : Int) := by omega
  have k1 : (k : Int) < (N : Int) := by omega
  have t0 : decide ((k : Int) < 0) = false := by simp
  have t1 : decide (N ≤ k) = false := by simp; omega
  dsimp only at c0 c1 c2 c3 q0 q1 q2 q3 n0 n1
  clear ft
  go_upto_region 6 with fail
  have HS := Lib.hid (Six.new HF2.out ⟨10, 2, b, n⟩)
  dsimp only at HS
  generalize (w2.alloc (.cells #[.int .i64 10, .int .i64 2, .int .i64 b, .int .i32 n] 59)).alloc (.cells #[.int .i64 0, .int .i64 0, .int .i32 0] 61) = W3 at *
  clear p0 p1 q0 q1 q2 q3 c0 c1 c2 c3 t0 t1
  obtain ⟨p0, p1, q0, q1, q2, q3, z0, z1, z2, z3, f0, f1, f2, hlt⟩ := HS.out.four.cells
  obtain ⟨uq, uz, uf⟩ := HS.out.four.frees
  obtain ⟨x0, x1, x2, x3, e0, e1, e2, hlt2, ue, hlt3⟩ := HS.out.cells
  dsimp only at q0 q1 q2 q3 x0 x1 x2 x3
  generalize w2.heap.size = B at *
  go_wp2_with fail
  go_region
  all_goals go_wp2
  all_goals refine bodyPost_ret (v := .tuple #[.int .i64 (k + 1), .agg #[.int .i32 ra, .int .i32 rb, .int .i32 rc, .int .i32 rd], .agg #[.int .i64 10, .int .i64 2, .int .i32 n]]) (by simp [results, Tryd.results21, go_sem, *]) rfl ⟨?_, ?_⟩
  · simp [stepP]
  · refine HS.out.four.below.trans (But.below (X := fun k => w.heap.size ≤ k) ?_ HS.out.four.below.size fun _ _ q => q)
    repeat' first
      | with_reducible exact But.refl _ _
      | with_reducible refine But.set ?_ _ _ (.inl ?_)
      | with_reducible refine But.drewN ?_ _
      | with_reducible refine But.drew ?_
      | with_reducible refine But.alloc ?_ _
    all_goals (dsimp only; omega)
set_option maxRecDepth 100000 in
set_option maxHeartbeats 4000000 in
theorem ref_10_3 (b n : Int) (prio : Int) (A : Option Addr) (l : List I4) (cap k : Nat) (r : R4) (w : World) (hI : InsIn w A l) (hx : l[k]? = some ⟨10, 3, b, n⟩) (hf : Fine prio l) :
    Calls Tryd.prog 21 #[.agg #[.int .i64 prio, .slice A l.length cap], .int .i64 k, regV r] w (StepG (stepP ⟨10, 3, b, n⟩ k r) w) := by
  have hF := Four.new w prio A l.length cap r
  have HC := refCheck_any prio A l cap _ (hI.below hF.below)
  unfold CheckP at HC
  rw [hf.ok] at HC
  have HC := Lib.hid HC; have HF := Lib.hid hF
  have kl : k < l.length := (List.getElem?_eq_some_iff.1 hx).1
  have kl64 : l.length ≤ 64 := hf.len.2
  have HI := Lib.hid hI; have HX := Lib.hid hx
  clear hF hI hf hx
  generalize l.length = N at *
  obtain ⟨ra, rb, rc, rd⟩ := r
  go_enter Tryd.func21, Tryd.ntmps21
  go_wp2_with fail
  refine HC.out.mono ?_
  rintro e w2 ⟨rfl, h2⟩
  have HF2 := Lib.hid (HF.out.on h2)
  clear h2 HC HF
  obtain ⟨p0, p1, q0, q1, q2, q3, -⟩ := HF2.out.cells
  obtain ⟨ft, bb, off, rfl, -, c0, c1, c2, c3⟩ := (HI.out.below HF2.out.below) k _ HX.out
  obtain ⟨n0, n1⟩ := ft.n
  have k0 : (0 : Int) ≤ (k : Int) := by omega
  have k1 : (k : Int) < (N : Int) := by omega
  have t0 : decide ((k : Int) < 0) = false := by simp
  have t1 : decide (N ≤ k) = false := by simp; omega
  dsimp only at c0 c1 c2 c3 q0 q1 q2 q3 n0 n1
  clear ft
  go_upto_region 6 with fail
  have HS := Lib.hid (Six.new HF2.out ⟨10, 3, b, n⟩)
  dsimp only at HS
  generalize (w2.alloc (.cells #[.int .i64 10, .int .i64 3, .int .i64 b, .int .i32 n] 59)).alloc (.cells #[.int .i64 0, .int .i64 0, .int .i32 0] 61) = W3 at *
  clear p0 p1 q0 q1 q2 q3 c0 c1 c2 c3 t0 t1
  obtain ⟨p0, p1, q0, q1, q2, q3, z0, z1, z2, z3, f0, f1, f2, hlt⟩ := HS.out.four.cells
  obtain ⟨uq, uz, uf⟩ := HS.out.four.frees
  obtain ⟨x0, x1, x2, x3, e0, e1, e2, hlt2, ue, hlt3⟩ := HS.out.cells
  dsimp only at q0 q1 q2 q3 x0 x1 x2 x3
  generalize w2.heap.size = B at *
  go_wp2_with fail
  go_region
  all_goals go_wp2
  all_goals refine bodyPost_ret (v := .tuple #[.int .i64 (k + 1), .agg #[.int .i32 ra, .int .i32 rb, .int .i32 rc, .int .i32 rd], .agg #[.int .i64 10, .int .i64 3, .int .i32 n]]) (by simp [results, Tryd.results21, go_sem, *]) rfl ⟨?_, ?_⟩
  · simp [stepP]
  · refine HS.out.four.below.trans (But.below (X := fun k => w.heap.size ≤ k) ?_ HS.out.four.below.size fun _ _ q => q)
    repeat' first
      | with_reducible exact But.refl _ _
      | with_reducible refine But.set ?_ _ _ (.inl ?_)
      | with_reducible refine But.drewN ?_ _
      | with_reducible refine But.drew ?_
      | with_reducible refine But.alloc ?_ _
    all_goals (dsimp only; omega)
set_option maxRecDepth 100000 in
set_option maxHeartbeats 4000000 in
theorem ref_11_0 (b n : Int) (prio : Int) (A : Option Addr) (l : List I4) (cap k : Nat) (r : R4) (w : World) (hI : InsIn w A l) (hx : l[k]? = some ⟨11, 0, b, n⟩) (hf : Fine prio l) :
    Calls Tryd.prog 21 #[.agg #[.int .i64 prio, .slice A l.length cap], .int .i64 k, regV r] w (StepG (stepP ⟨11, 0, b, n⟩ k r) w) := by
  have hF := Four.new w prio A l.length cap r
  have HC := refCheck_any prio A l cap _ (hI.below hF.below)
  unfold CheckP at HC
  rw [hf.ok] at HC
  have HC := Lib.hid HC; have HF := Lib.hid hF
  have kl : k < l.length := (List.getElem?_eq_some_iff.1 hx).1
  have kl64 : l.length ≤ 64 := hf.len.2
  have HI := Lib.hid hI; have HX := Lib.hid hx
  clear hF hI hf hx
  generalize l.length = N at *
  obtain ⟨ra, rb, rc, rd⟩ := r
  go_enter Tryd.func21, Tryd.ntmps21
  go_wp2_with fail
  refine HC.out.mono ?_
  rintro e w2 ⟨rfl, h2⟩
  have HF2 := Lib.hid (HF.out.on h2)
  clear h2 HC HF
  obtain ⟨p0, p1, q0, q1, q2, q3, -⟩ := HF2.out.cells
  obtain ⟨ft, bb, off, rfl, -, c0, c1, c2, c3⟩ := (HI.out.below HF2.out.below) k _ HX.out
  obtain ⟨n0, n1⟩ := ft.n
  have k0 : (0 : Int) ≤ (k : Int) := by omega
  have k1 : (k : Int) < (N : Int) := by omega
  have t0 : decide ((k : Int) < 0) = false := by simp
  have t1 : decide (N ≤ k) = false := by simp; omega
  dsimp only at c0 c1 c2 c3 q0 q1 q2 q3 n0 n1
  clear ft
  go_upto_region 6 with fail
  have HS := Lib.hid (Six.new HF2.out ⟨11, 0, b, n⟩)
  dsimp only at HS
  generalize (w2.alloc (.cells #[.int .i64 11, .int .i64 0, .int .i64 b, .int .i32 n] 59)).alloc (.cells #[.int .i64 0, .int .i64 0, .int .i32 0] 61) = W3 at *
  clear p0 p1 q0 q1 q2 q3 c0 c1 c2 c3 t0 t1
  obtain ⟨p0, p1, q0, q1, q2, q3, z0, z1, z2, z3, f0, f1, f2, hlt⟩ := HS.out.four.cells
  obtain ⟨uq, uz, uf⟩ := HS.out.four.frees
  obtain ⟨x0, x1, x2, x3, e0, e1, e2, hlt2, ue, hlt3⟩ := HS.out.cells
  dsimp only at q0 q1 q2 q3 x0 x1 x2 x3
  generalize w2.heap.size = B at *
  go_wp2_with fail
  go_region
  all_goals go_wp2
  all_goals refine bodyPost_ret (v := .tuple #[.int .i64 (k + 1), .agg #[.int .i32 ra, .int .i32 rb, .int .i32 rc, .int .i32 rd], .agg #[.int .i64 11, .int .i64 0, .int .i32 ra]]) (by simp [results, Tryd.results21, go_sem, *]) rfl ⟨?_, ?_⟩
  · simp [stepP, R4.get]
  · refine HS.out.four.below.trans (But.below (X := fun k => w.heap.size ≤ k) ?_ HS.out.four.below.size fun _ _ q => q)
    repeat' first
      | with_reducible exact But.refl _ _
      | with_reducible refine But.set ?_ _ _ (.inl ?_)
      | with_reducible refine But.drewN ?_ _
      | with_reducible refine But.drew ?_
      | with_reducible refine But.alloc ?_ _
    all_goals (dsimp only; omega)
set_option maxRecDepth 100000 in
set_option maxHeartbeats 4000000 in
theorem ref_11_1 (b n : Int) (prio : Int) (A : Option Addr) (l : List I4) (cap k : Nat) (r : R4) (w : World) (hI : InsIn w A l) (hx : l[k]? = some ⟨11, 1, b, n⟩) (hf : Fine prio l) :
    Calls Tryd.prog 21 #[.agg #[.int .i64 prio, .slice A l.length cap], .int .i64 k, regV r] w (StepG (stepP ⟨11, 1, b, n⟩ k r) w) := by
  have hF := Four.new w prio A l.length cap r
  have HC := refCheck_any prio A l cap _ (hI.below hF.below)
  unfold CheckP at HC
  rw [hf.ok] at HC
  have HC := Lib.hid HC; have HF := Lib.hid hF
  have kl : k < l.length := (List.getElem?_eq_some_iff.1 hx).1
  have kl64 : l.length ≤ 64 := hf.len.2
  have HI := Lib.hid hI; have HX := Lib.hid hx
  clear hF hI hf hx
  generalize l.length = N at *
  obtain ⟨ra, rb, rc, rd⟩ := r
  go_enter Tryd.func21, Tryd.ntmps21
  go_wp2_with fail
  refine HC.out.mono ?_
  rintro e w2 ⟨rfl, h2⟩
  have HF2 := Lib.hid (HF.out.on h2)
  clear h2 HC HF
  obtain ⟨p0, p1, q0, q1, q2, q3, -⟩ := HF2.out.cells
  obtain ⟨ft, bb, off, rfl, -, c0, c1, c2, c3⟩ := (HI.out.below HF2.out.below) k _ HX.out
  obtain ⟨n0, n1⟩ := ft.n
  have k0 : (0 : Int) ≤ (k : Int) := by omega
  have k1 : (k : Int) < (N : Int) := by omega
  have t0 : decide ((k : Int) < 0) = false := by simp
  have t1 : decide (N ≤ k) = false := by simp; omega
  dsimp only at c0 c1 c2 c3 q0 q1 q2 q3 n0 n1
  clear ft
  go_upto_region 6 with fail
  have HS := Lib.hid (Six.new HF2.out ⟨11, 1, b, n⟩)
  dsimp only at HS
  generalize (w2.alloc (.cells #[.int .i64 11, .int .i64 1, .int .i64 b, .int .i32 n] 59)).alloc (.cells #[.int .i64 0, .int .i64 0, .int .i32 0] 61) = W3 at *
  clear p0 p1 q0 q1 q2 q3 c0 c1 c2 c3 t0 t1
  obtain ⟨p0, p1, q0, q1, q2, q3, z0, z1, z2, z3, f0, f1, f2, hlt⟩ := HS.out.four.cells
  obtain ⟨uq, uz, uf⟩ := HS.out.four.frees
  obtain ⟨x0, x1, x2, x3, e0, e1, e2, hlt2, ue, hlt3⟩ := HS.out.cells
  dsimp only at q0 q1 q2 q3 x0 x1 x2 x3
  generalize w2.heap.size = B at *
  go_wp2_with fail
  go_region
  all_goals go_wp2
  all_goals refine bodyPost_ret (v := .tuple #[.int .i64 (k + 1), .agg #[.int .i32 ra, .int .i32 rb, .int .i32 rc, .int .i32 rd], .agg #[.int .i64 11, .int .i64 0, .int .i32 rb]]) (by simp [results, Tryd.results21, go_sem, *]) rfl ⟨?_, ?_⟩
  · simp [stepP, R4.get]
  · refine HS.out.four.below.trans (But.below (X := fun k => w.heap.size ≤ k) ?_ HS.out.four.below.size fun _ _ q => q)
    repeat' first
      | with_reducible exact But.refl _ _
      | with_reducible refine But.set ?_ _ _ (.inl ?_)
      | with_reducible refine But.drewN ?_ _
      | with_reducible refine But.drew ?_
      | with_reducible refine But.alloc ?_ _
    all_goals (dsimp only; omega)
set_option maxRecDepth 100000 in
set_option maxHeartbeats 4000000 in
theorem ref_11_2 (b n : Int) (prio : Int) (A : Option Addr) (l : List I4) (cap k : Nat) (r : R4) (w : World) (hI : InsIn w A l) (hx : l[k]? = some ⟨11, 2, b, n⟩) (hf : Fine prio l) :
    Calls Tryd.prog 21 #[.agg #[.int .i64 prio, .slice A l.length cap], .int .i64 k, regV r] w (StepG (stepP ⟨11, 2, b, n⟩ k r) w) := by
  have hF := Four.new w prio A l.length cap r
  have HC := refCheck_any prio A l cap _ (hI.below hF.below)
  unfold CheckP at HC
  rw [hf.ok] at HC
  have HC := Lib.hid HC; have HF := Lib.hid hF
  have kl : k < l.length := (List.getElem?_eq_some_iff.1 hx).1
  have kl64 : l.length ≤ 64 := hf.len.2
  have HI := Lib.hid hI; have HX := Lib.hid hx
  clear hF hI hf hx
  generalize l.length = N at *
  obtain ⟨ra, rb, rc, rd⟩ := r
  go_enter Tryd.func21, Tryd.ntmps21
  go_wp2_with fail
  refine HC.out.mono ?_
  rintro e w2 ⟨rfl, h2⟩
  have HF2 := Lib.hid (HF.out.on h2)
  clear h2 HC HF
  obtain ⟨p0, p1, q0, q1, q2, q3, -⟩ := HF2.out.cells
  obtain ⟨ft, bb, off, rfl, -, c0, c1, c2, c3⟩ := (HI.out.below HF2.out.below) k _ HX.out
  obtain ⟨n0, n1⟩ := ft.n
  have k0 : (0 : Int) ≤ (k : Int) := by omega
  have k1 : (k : Int) < (N : Int) := by omega
  have t0 : decide ((k : Int) < 0) = false := by simp
  have t1 : decide (N ≤ k) = false := by simp; omega
  dsimp only at c0 c1 c2 c3 q0 q1 q2 q3 n0 n1
  clear ft
  go_upto_region 6 with fail
  have HS := Lib.hid (Six.new HF2.out ⟨11, 2, b, n⟩)
  dsimp only at HS
  generalize (w2.alloc (.cells #[.int .i64 11, .int .i64 2, .int .i64 b, .int .i32 n] 59)).alloc (.cells #[.int .i64 0, .int .i64 0, .int .i32 0] 61) = W3 at *
  clear p0 p1 q0 q1 q2 q3 c0 c1 c2 c3 t0 t1
  obtain ⟨p0, p1, q0, q1, q2, q3, z0, z1, z2, z3, f0, f1, f2, hlt⟩ := HS.out.four.cells
  obtain ⟨uq, uz, uf⟩ := HS.out.four.frees
  obtain ⟨x0, x1, x2, x3, e0, e1, e2, hlt2, ue, hlt3⟩ := HS.out.cells
  dsimp only at q0 q1 q2 q3 x0 x1 x2 x3
  generalize w2.heap.size = B at *
  go_wp2_with fail
  go_region
  all_goals go_wp2
  all_goals refine bodyPost_ret (v := .tuple #[.int .i64 (k + 1), .agg #[.int .i32 ra, .int .i32 rb, .int .i32 rc, .int .i32 rd], .agg #[.int .i64 11, .int .i64 0, .int .i32 rc]]) (by simp [results, Tryd.results21, go_sem, *]) rfl ⟨?_, ?_⟩
  · simp [stepP, R4.get]
  · refine HS.out.four.below.trans (But.below (X := fun k => w.heap.size ≤ k) ?_ HS.out.four.below.size fun _ _ q => q)
    repeat' first
      | with_reducible exact But.refl _ _
      | with_reducible refine But.set ?_ _ _ (.inl ?_)
      | with_reducible refine But.drewN ?_ _
      | with_reducible refine But.drew ?_
      | with_reducible refine But.alloc ?_ _
    all_goals (dsimp only; omega)
set_option maxRecDepth 100000 in
set_option maxHeartbeats 4000000 in
theorem ref_11_3 (b n : Int) (prio : Int) (A : Option Addr) (l : List I4) (cap k : Nat) (r : R4) (w : World) (hI : InsIn w A l) (hx : l[k]? = some ⟨11, 3, b, n⟩) (hf : Fine prio l) :
    Calls Tryd.prog 21 #[.agg #[.int .i64 prio, .slice A l.length cap], .int .i64 k, regV r] w (StepG (stepP ⟨11, 3, b, n⟩ k r) w) := by
  have hF := Four.new w prio A l.length cap r
  have HC := refCheck_any prio A l cap _ (hI.below hF.below)
  unfold CheckP at HC
  rw [hf.ok] at HC
  have HC := Lib.hid HC; have HF := Lib.hid hF
  have kl : k < l.length := (List.getElem?_eq_some_iff.1 hx).1
  have kl64 : l.length ≤ 64 := hf.len.2
  have HI := Lib.hid hI; have HX := Lib.hid hx
  clear hF hI hf hx
  generalize l.length = N at *
  obtain ⟨ra, rb, rc, rd⟩ := r
  go_enter Tryd.func21, Tryd.ntmps21
  go_wp2_with fail
  refine HC.out.mono ?_
  rintro e w2 ⟨rfl, h2⟩
  have HF2 := Lib.hid (HF.out.on h2)
  clear h2 HC HF
  obtain ⟨p0, p1, q0, q1, q2, q3, -⟩ := HF2.out.cells
  obtain ⟨ft, bb, off, rfl, -, c0, c1, c2, c3⟩ := (HI.out.below HF2.out.below) k _ HX.out
  obtain ⟨n0, n1⟩ := ft.n
  have k0 : (0 : Int) ≤ (k : Int) := by omega
  have k1 : (k : Int) < (N : Int) := by omega
  have t0 : decide ((k : Int) < 0) = false := by simp
  have t1 : decide (N ≤ k) = false := by simp; omega
  dsimp only at c0 c1 c2 c3 q0 q1 q2 q3 n0 n1
  clear ft
  go_upto_region 6 with fail
  have HS := Lib.hid (Six.new HF2.out ⟨11, 3, b, n⟩)
  dsimp only at HS
  generalize (w2.alloc (.cells #[.int .i64 11, .int .i64 3, .int .i64 b, .int .i32 n] 59)).alloc (.cells #[.int .i64 0, .int .i64 0, .int .i32 0] 61) = W3 at *
  clear p0 p1 q0 q1 q2 q3 c0 c1 c2 c3 t0 t1
  obtain ⟨p0, p1, q0, q1, q2, q3, z0, z1, z2, z3, f0, f1, f2, hlt⟩ := HS.out.four.cells
  obtain ⟨uq, uz, uf⟩ := HS.out.four.frees
  obtain ⟨x0, x1, x2, x3, e0, e1, e2, hlt2, ue, hlt3⟩ := HS.out.cells
  dsimp only at q0 q1 q2 q3 x0 x1 x2 x3
  generalize w2.heap.size = B at *
  go_wp2_with fail
  go_region
  all_goals go_wp2
  all_goals refine bodyPost_ret (v := .tuple #[.int .i64 (k + 1), .agg #[.int .i32 ra, .int .i32 rb, .int .i32 rc, .int .i32 rd], .agg #[.int .i64 11, .int .i64 0, .int .i32 rd]]) (by simp [results, Tryd.results21, go_sem, *]) rfl ⟨?_, ?_⟩
  · simp [stepP, R4.get]
  · refine HS.out.four.below.trans (But.below (X := fun k => w.heap.size ≤ k) ?_ HS.out.four.below.size fun _ _ q => q)
    repeat' first
      | with_reducible exact But.refl _ _
      | with_reducible refine But.set ?_ _ _ (.inl ?_)
      | with_reducible refine But.drewN ?_ _
      | with_reducible refine But.drew ?_
      | with_reducible refine But.alloc ?_ _
    all_goals (dsimp only; omega)
end Go.Proofs.YtilaalleiiakoaaDoor
