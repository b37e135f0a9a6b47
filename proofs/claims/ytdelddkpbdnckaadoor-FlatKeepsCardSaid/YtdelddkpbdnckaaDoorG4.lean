/- Steps that are refused. -/
import Derived.Test.YtdelddkpbdnckaaDoorG3
namespace Go.Proofs.YtdelddkpbdnckaaDoor
open Go.RowKit

set_option maxRecDepth 100000 in
set_option maxHeartbeats 4000000 in
theorem Step_low (prio : Int) (A : Option Addr) (l : List I4) (cap : Nat) (pc : Int) (r : R4) (w : World) (hT : Tabs w) (h : pc < 0) :
    Calls Tryd.prog 60 #[.agg #[.int .i64 prio, .slice A l.length cap], .int .i64 pc, regV r] w (StepG ⟨pc, r, Eff.refused⟩ w) := by
  have hF := Four.new w prio A l.length cap r
  have HT2 := Lib.hid (hT.on hF.below)
  have HF := Lib.hid hF
  have t0 : decide (pc < 0) = true := by simpa using h
  clear hF hT
  generalize l.length = N at *
  obtain ⟨ra, rb, rc, rd⟩ := r
  obtain ⟨p0, p1, q0, q1, q2, q3, -⟩ := HF.out.cells
  dsimp only at HF q0 q1 q2 q3 HT2
  go_enter Tryd.func60, Tryd.ntmps60
  go_upto_region 2 with fail
  clear p0 p1 q0 q1 q2 q3
  generalize ((((w.alloc (.cells #[.int .i64 prio, .slice A N cap] 53)).alloc (.cells #[.int .i32 ra, .int .i32 rb, .int .i32 rc, .int .i32 rd] 43)).alloc (.cells #[.int .i32 0, .int .i32 0, .int .i32 0, .int .i32 0] 43)).alloc (.cells #[.int .i64 0, .int .i64 0, .int .i32 0] 61)) = w2 at *
  have HF2 := HF
  have HF3 := Lib.hid HF2.out
  obtain ⟨p0, p1, q0, q1, q2, q3, z0, z1, z2, z3, f0, f1, f2, hlt⟩ := HF3.out.cells
  obtain ⟨uq, uz, uf⟩ := HF3.out.frees
  dsimp only at q0 q1 q2 q3
  have r0 := HT2.out.r0; have r1 := HT2.out.r1; have r2 := HT2.out.r2; have rs := HT2.out.size.2
  go_region
  all_goals go_wp2
  all_goals refine bodyPost_ret (v := .tuple #[.int .i64 pc, .agg #[.int .i32 ra, .int .i32 rb, .int .i32 rc, .int .i32 rd], .agg #[.int .i64 14, .int .i64 0, .int .i32 (-1)]]) (by simp [results, Tryd.results60, go_sem, *]) rfl ⟨rfl, ?_⟩
  all_goals
    refine HF3.out.below.trans (But.below (X := fun k => w.heap.size ≤ k) ?_ HF3.out.below.size fun _ _ q => q)
    repeat' first
      | with_reducible exact But.refl _ _
      | with_reducible refine But.set ?_ _ _ (.inl ?_)
      | with_reducible refine But.drewN ?_ _
      | with_reducible refine But.drew ?_
      | with_reducible refine But.alloc ?_ _
    all_goals (dsimp only; omega)
set_option maxRecDepth 100000 in
set_option maxHeartbeats 4000000 in
theorem Step_high (prio : Int) (A : Option Addr) (l : List I4) (cap : Nat) (pc : Int) (r : R4) (w : World) (hT : Tabs w) (h0 : 0 ≤ pc) (h : (l.length : Int) ≤ pc) :
    Calls Tryd.prog 60 #[.agg #[.int .i64 prio, .slice A l.length cap], .int .i64 pc, regV r] w (StepG ⟨pc, r, Eff.refused⟩ w) := by
  have hF := Four.new w prio A l.length cap r
  have HT2 := Lib.hid (hT.on hF.below)
  have HF := Lib.hid hF
  have t0 : decide (pc < 0) = false := by simp; omega
  have t1 : decide ((l.length : Int) ≤ pc) = true := by simpa using h
  clear hF hT
  generalize l.length = N at *
  obtain ⟨ra, rb, rc, rd⟩ := r
  obtain ⟨p0, p1, q0, q1, q2, q3, -⟩ := HF.out.cells
  dsimp only at HF q0 q1 q2 q3 HT2
  go_enter Tryd.func60, Tryd.ntmps60
  go_upto_region 2 with fail
  clear p0 p1 q0 q1 q2 q3
  generalize ((((w.alloc (.cells #[.int .i64 prio, .slice A N cap] 53)).alloc (.cells #[.int .i32 ra, .int .i32 rb, .int .i32 rc, .int .i32 rd] 43)).alloc (.cells #[.int .i32 0, .int .i32 0, .int .i32 0, .int .i32 0] 43)).alloc (.cells #[.int .i64 0, .int .i64 0, .int .i32 0] 61)) = w2 at *
  have HF2 := HF
  have HF3 := Lib.hid HF2.out
  obtain ⟨p0, p1, q0, q1, q2, q3, z0, z1, z2, z3, f0, f1, f2, hlt⟩ := HF3.out.cells
  obtain ⟨uq, uz, uf⟩ := HF3.out.frees
  dsimp only at q0 q1 q2 q3
  have r0 := HT2.out.r0; have r1 := HT2.out.r1; have r2 := HT2.out.r2; have rs := HT2.out.size.2
  go_region
  all_goals go_wp2
  all_goals refine bodyPost_ret (v := .tuple #[.int .i64 pc, .agg #[.int .i32 ra, .int .i32 rb, .int .i32 rc, .int .i32 rd], .agg #[.int .i64 14, .int .i64 0, .int .i32 (-1)]]) (by simp [results, Tryd.results60, go_sem, *]) rfl ⟨rfl, ?_⟩
  all_goals
    refine HF3.out.below.trans (But.below (X := fun k => w.heap.size ≤ k) ?_ HF3.out.below.size fun _ _ q => q)
    repeat' first
      | with_reducible exact But.refl _ _
      | with_reducible refine But.set ?_ _ _ (.inl ?_)
      | with_reducible refine But.drewN ?_ _
      | with_reducible refine But.drew ?_
      | with_reducible refine But.alloc ?_ _
    all_goals (dsimp only; omega)
set_option maxRecDepth 100000 in
set_option maxHeartbeats 4000000 in
theorem Step_not (prio : Int) (A : Option Addr) (l : List I4) (cap : Nat) (pc : Int) (r : R4) (w : World) (hT : Tabs w) (hI : InsIn w A l) (h0 : 0 ≤ pc) (h : pc < l.length) (he : (progE prio l).1 ≠ 0) :
    Calls Tryd.prog 60 #[.agg #[.int .i64 prio, .slice A l.length cap], .int .i64 pc, regV r] w (StepG ⟨pc, r, Eff.refused⟩ w) := by
  have hF := Four.new w prio A l.length cap r
  have HT2 := Lib.hid (hT.on hF.below)
  have HM := Lib.hid (may_any prio A l cap _ (hT.on hF.below) (hI.below hF.below))
  rw [show decide ((progE prio l).1 = 0) = false by simpa using he] at HM
  have HF := Lib.hid hF
  have t0 : decide (pc < 0) = false := by simp; omega
  have t1 : decide ((l.length : Int) ≤ pc) = false := by simp; omega
  clear hF hT hI he
  generalize l.length = N at *
  obtain ⟨ra, rb, rc, rd⟩ := r
  obtain ⟨p0, p1, q0, q1, q2, q3, -⟩ := HF.out.cells
  dsimp only at HF q0 q1 q2 q3 HM HT2
  go_enter Tryd.func60, Tryd.ntmps60
  go_upto_region 2 with (go_at_call 62; (with_reducible refine HM.out.mono ?_); rintro e w2 ⟨rfl, h2⟩; have HF2 := Lib.hid (HF.out.on h2); have HT3 := Lib.hid (HT2.out.on h2); clear h2 p0 p1 q0 q1 q2 q3)
  have HT2 := HT3
  have HF3 := Lib.hid HF2.out
  obtain ⟨p0, p1, q0, q1, q2, q3, z0, z1, z2, z3, f0, f1, f2, hlt⟩ := HF3.out.cells
  obtain ⟨uq, uz, uf⟩ := HF3.out.frees
  dsimp only at q0 q1 q2 q3
  have r0 := HT2.out.r0; have r1 := HT2.out.r1; have r2 := HT2.out.r2; have rs := HT2.out.size.2
  go_region
  all_goals go_wp2
  all_goals refine bodyPost_ret (v := .tuple #[.int .i64 pc, .agg #[.int .i32 ra, .int .i32 rb, .int .i32 rc, .int .i32 rd], .agg #[.int .i64 14, .int .i64 0, .int .i32 (-1)]]) (by simp [results, Tryd.results60, go_sem, *]) rfl ⟨rfl, ?_⟩
  all_goals
    refine HF3.out.below.trans (But.below (X := fun k => w.heap.size ≤ k) ?_ HF3.out.below.size fun _ _ q => q)
    repeat' first
      | with_reducible exact But.refl _ _
      | with_reducible refine But.set ?_ _ _ (.inl ?_)
      | with_reducible refine But.drewN ?_ _
      | with_reducible refine But.drew ?_
      | with_reducible refine But.alloc ?_ _
    all_goals (dsimp only; omega)
set_option maxRecDepth 100000 in
set_option maxHeartbeats 4000000 in
theorem refStep_not (prio : Int) (A : Option Addr) (l : List I4) (cap : Nat) (pc : Int) (r : R4) (w : World) (hI : InsIn w A l) (he : (progE prio l).1 ≠ 0) :
    Calls Tryd.prog 21 #[.agg #[.int .i64 prio, .slice A l.length cap], .int .i64 pc, regV r] w (StepG ⟨pc, r, Eff.refused⟩ w) := by
  have hF := Four.new w prio A l.length cap r
  have HC := refCheck_any prio A l cap _ (hI.below hF.below)
  obtain ⟨e1, he1⟩ : ∃ e, (progE prio l).1 = e := ⟨_, rfl⟩
  obtain ⟨e2, he2⟩ : ∃ e, (progE prio l).2 = e := ⟨_, rfl⟩
  unfold CheckP at HC
  rw [he1, he2] at HC
  rw [he1] at he
  have HC := Lib.hid HC
  have HF := Lib.hid hF
  have t0 : (e1 != 0) = true := by simpa using he
  clear he
  clear hF hI he1 he2
  generalize l.length = N at *
  obtain ⟨ra, rb, rc, rd⟩ := r
  obtain ⟨p0, p1, q0, q1, q2, q3, -⟩ := HF.out.cells
  dsimp only at HF q0 q1 q2 q3 HC
  go_enter Tryd.func21, Tryd.ntmps21
  go_wp2_with fail
  refine HC.out.mono ?_
  rintro e w2 ⟨rfl, h2⟩
  have HF2 := Lib.hid (HF.out.on h2)
  clear h2 p0 p1 q0 q1 q2 q3 HC HF
  obtain ⟨p0, p1, -⟩ := HF2.out.cells
  go_upto_region 3 with fail
  clear p0 p1
  have HF3 := Lib.hid HF2.out
  obtain ⟨p0, p1, q0, q1, q2, q3, z0, z1, z2, z3, f0, f1, f2, hlt⟩ := HF3.out.cells
  obtain ⟨uq, uz, uf⟩ := HF3.out.frees
  dsimp only at q0 q1 q2 q3
  go_region
  all_goals go_wp2
  all_goals refine bodyPost_ret (v := .tuple #[.int .i64 pc, .agg #[.int .i32 ra, .int .i32 rb, .int .i32 rc, .int .i32 rd], .agg #[.int .i64 14, .int .i64 0, .int .i32 (-1)]]) (by simp [results, Tryd.results21, go_sem, *]) rfl ⟨rfl, ?_⟩
  all_goals
    refine HF3.out.below.trans (But.below (X := fun k => w.heap.size ≤ k) ?_ HF3.out.below.size fun _ _ q => q)
    repeat' first
      | with_reducible exact But.refl _ _
      | with_reducible refine But.set ?_ _ _ (.inl ?_)
      | with_reducible refine But.drewN ?_ _
      | with_reducible refine But.drew ?_
      | with_reducible refine But.alloc ?_ _
    all_goals (dsimp only; omega)
set_option maxRecDepth 100000 in
set_option maxHeartbeats 4000000 in
theorem refStep_low (prio : Int) (A : Option Addr) (l : List I4) (cap : Nat) (pc : Int) (r : R4) (w : World) (hI : InsIn w A l) (he : (progE prio l).1 = 0) (h : pc < 0) :
    Calls Tryd.prog 21 #[.agg #[.int .i64 prio, .slice A l.length cap], .int .i64 pc, regV r] w (StepG ⟨pc, r, Eff.refused⟩ w) := by
  have hF := Four.new w prio A l.length cap r
  have HC := refCheck_any prio A l cap _ (hI.below hF.below)
  obtain ⟨e1, he1⟩ : ∃ e, (progE prio l).1 = e := ⟨_, rfl⟩
  obtain ⟨e2, he2⟩ : ∃ e, (progE prio l).2 = e := ⟨_, rfl⟩
  unfold CheckP at HC
  rw [he1, he2] at HC
  rw [he1] at he
  have HC := Lib.hid HC
  have HF := Lib.hid hF
  subst he
  have t0 : decide (pc < 0) = true := by simpa using h
  clear hF hI he1 he2
  generalize l.length = N at *
  obtain ⟨ra, rb, rc, rd⟩ := r
  obtain ⟨p0, p1, q0, q1, q2, q3, -⟩ := HF.out.cells
  dsimp only at HF q0 q1 q2 q3 HC
  go_enter Tryd.func21, Tryd.ntmps21
  go_wp2_with fail
  refine HC.out.mono ?_
  rintro e w2 ⟨rfl, h2⟩
  have HF2 := Lib.hid (HF.out.on h2)
  clear h2 p0 p1 q0 q1 q2 q3 HC HF
  obtain ⟨p0, p1, -⟩ := HF2.out.cells
  go_upto_region 3 with fail
  clear p0 p1
  have HF3 := Lib.hid HF2.out
  obtain ⟨p0, p1, q0, q1, q2, q3, z0, z1, z2, z3, f0, f1, f2, hlt⟩ := HF3.out.cells
  obtain ⟨uq, uz, uf⟩ := HF3.out.frees
  dsimp only at q0 q1 q2 q3
  go_region
  all_goals go_wp2
  all_goals refine bodyPost_ret (v := .tuple #[.int .i64 pc, .agg #[.int .i32 ra, .int .i32 rb, .int .i32 rc, .int .i32 rd], .agg #[.int .i64 14, .int .i64 0, .int .i32 (-1)]]) (by simp [results, Tryd.results21, go_sem, *]) rfl ⟨rfl, ?_⟩
  all_goals
    refine HF3.out.below.trans (But.below (X := fun k => w.heap.size ≤ k) ?_ HF3.out.below.size fun _ _ q => q)
    repeat' first
      | with_reducible exact But.refl _ _
      | with_reducible refine But.set ?_ _ _ (.inl ?_)
      | with_reducible refine But.drewN ?_ _
      | with_reducible refine But.drew ?_
      | with_reducible refine But.alloc ?_ _
    all_goals (dsimp only; omega)
set_option maxRecDepth 100000 in
set_option maxHeartbeats 4000000 in
theorem refStep_high (prio : Int) (A : Option Addr) (l : List I4) (cap : Nat) (pc : Int) (r : R4) (w : World) (hI : InsIn w A l) (he : (progE prio l).1 = 0) (h0 : 0 ≤ pc) (h : (l.length : Int) ≤ pc) :
    Calls Tryd.prog 21 #[.agg #[.int .i64 prio, .slice A l.length cap], .int .i64 pc, regV r] w (StepG ⟨pc, r, Eff.refused⟩ w) := by
  have hF := Four.new w prio A l.length cap r
  have HC := refCheck_any prio A l cap _ (hI.below hF.below)
  obtain ⟨e1, he1⟩ : ∃ e, (progE prio l).1 = e := ⟨_, rfl⟩
  obtain ⟨e2, he2⟩ : ∃ e, (progE prio l).2 = e := ⟨_, rfl⟩
  unfold CheckP at HC
  rw [he1, he2] at HC
  rw [he1] at he
  have HC := Lib.hid HC
  have HF := Lib.hid hF
  subst he
  have t0 : decide (pc < 0) = false := by simp; omega
  have t1 : decide ((l.length : Int) ≤ pc) = true := by simpa using h
  clear hF hI he1 he2
  generalize l.length = N at *
  obtain ⟨ra, rb, rc, rd⟩ := r
  obtain ⟨p0, p1, q0, q1, q2, q3, -⟩ := HF.out.cells
  dsimp only at HF q0 q1 q2 q3 HC
  go_enter Tryd.func21, Tryd.ntmps21
  go_wp2_with fail
  refine HC.out.mono ?_
  rintro e w2 ⟨rfl, h2⟩
  have HF2 := Lib.hid (HF.out.on h2)
  clear h2 p0 p1 q0 q1 q2 q3 HC HF
  obtain ⟨p0, p1, -⟩ := HF2.out.cells
  go_upto_region 3 with fail
  clear p0 p1
  have HF3 := Lib.hid HF2.out
  obtain ⟨p0, p1, q0, q1, q2, q3, z0, z1, z2, z3, f0, f1, f2, hlt⟩ := HF3.out.cells
  obtain ⟨uq, uz, uf⟩ := HF3.out.frees
  dsimp only at q0 q1 q2 q3
  go_region
  all_goals go_wp2
  all_goals refine bodyPost_ret (v := .tuple #[.int .i64 pc, .agg #[.int .i32 ra, .int .i32 rb, .int .i32 rc, .int .i32 rd], .agg #[.int .i64 14, .int .i64 0, .int .i32 (-1)]]) (by simp [results, Tryd.results21, go_sem, *]) rfl ⟨rfl, ?_⟩
  all_goals
    refine HF3.out.below.trans (But.below (X := fun k => w.heap.size ≤ k) ?_ HF3.out.below.size fun _ _ q => q)
    repeat' first
      | with_reducible exact But.refl _ _
      | with_reducible refine But.set ?_ _ _ (.inl ?_)
      | with_reducible refine But.drewN ?_ _
      | with_reducible refine But.drew ?_
      | with_reducible refine But.alloc ?_ _
    all_goals (dsimp only; omega)

/-- exec's Step, whatever it is given. -/
theorem Step_any (prio : Int) (A : Option Addr) (l : List I4) (cap : Nat) (pc : Int) (r : R4) (w : World) (hT : Tabs w) (hI : InsIn w A l) :
    Calls Tryd.prog 60 #[.agg #[.int .i64 prio, .slice A l.length cap], .int .i64 pc, regV r] w (StepG (stepF prio l pc r) w) := by
  by_cases h0 : pc < 0
  · rw [stepF_low h0]; exact Step_low prio A l cap pc r w hT h0
  · by_cases h1 : (l.length : Int) ≤ pc
    · rw [stepF_high h1]; exact Step_high prio A l cap pc r w hT (by omega) h1
    · by_cases he : (progE prio l).1 = 0
      · obtain ⟨k, rfl⟩ := Int.eq_ofNat_of_zero_le (show 0 ≤ pc by omega)
        have hx : l[k]? = some (l[k]'(by omega)) := List.getElem?_eq_getElem (by omega)
        rw [stepF_in he hx]
        exact Step_in prio A l cap k _ r w hT hI hx (fine_of he)
      · rw [stepF_bad he]; exact Step_not prio A l cap pc r w hT hI (by omega) (by omega) he
end Go.Proofs.YtdelddkpbdnckaaDoor
