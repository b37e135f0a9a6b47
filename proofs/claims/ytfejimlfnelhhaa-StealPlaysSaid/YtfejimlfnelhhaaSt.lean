/- A shared row: a step of a call, way by way. -/
import Derived.Test.YtfejimlfnelhhaaSr
import Derived.Deep.DeepCutAuto
import Derived.StillTailTactics
import Derived.RegionCalls
import Derived.Deep.RegionHeld3
namespace Go.Proofs.Ytfejimlfnelhhaa
open Go.RowKit

set_option maxRecDepth 100000 in
set_option maxHeartbeats 4000000 in
theorem step_1 {b : Nat} {D : Dq} {w : World} (k : Nat) (u t x : Int) (q : Bool) (h : DqV b D w) (hk : k < 9) (hc : D.cl k = ⟨1, u, t, x, q⟩) :
    Calls Try.prog 41 #[.pointer (some ⟨b, 0, none⟩), .pointer (some ⟨b, 67 + k * 5, none⟩)] w (StepP b D k w) := by
  have c0 : w.cell? ⟨b, 67 + k * 5, none⟩ = some (.int .i64 1) := by have := h.c0 hk; rw [hc] at this; exact this
  have f0 := h.free (67 + k * 5)
  have H := Lib.hid h; have HC := Lib.hid hc; clear h hc
  go_enter Try.func41, Try.ntmps41
  go_upto_region 2 with fail
  go_cut [] (fun wx => DqV b { D with cl := updC D.cl k ⟨2, u, t, x, q⟩ } wx ∧ But (OneB b) w wx)
  case first =>
    go_wp2_with fail
    go_meet
    refine ⟨?_, (But.refl (OneB b) w).set ⟨b, _, none⟩ _ (.inl rfl)⟩
    have := H.out.snx hk 2
    rw [HC.out] at this; exact this
  case rest =>
    obtain ⟨h1, hG1⟩ := hcut
    rename World => w1
    have H1 := Lib.hid h1; have HG1 := Lib.hid hG1; clear h1 hG1 c0 f0
    have cb : w1.cell? ⟨b, 1, none⟩ = some (.int .i64 D.bot) := H1.out.bot
    have c1 : w1.cell? ⟨b, 67 + k * 5 + 1, none⟩ = some (.int .i64 u) := by have := H1.out.c1 hk; simp only [updC_same] at this; exact this
    have f1 := H1.out.free (67 + k * 5 + 1)
    go_wp2_with fail
    go_ret
    refine StepP.mk HC.out rfl rfl ?_ (HG1.out.set ⟨b, _, none⟩ _ (.inl rfl))
    have := H1.out.sb hk D.bot
    simp only [updC_same, updC_twice] at this
    exact this
set_option maxRecDepth 100000 in
set_option maxHeartbeats 4000000 in
theorem step_10 {b : Nat} {D : Dq} {w : World} (k : Nat) (u t x : Int) (q : Bool) (h : DqV b D w) (hk : k < 9) (hc : D.cl k = ⟨10, u, t, x, q⟩) :
    Calls Try.prog 41 #[.pointer (some ⟨b, 0, none⟩), .pointer (some ⟨b, 67 + k * 5, none⟩)] w (StepP b D k w) := by
  have c0 : w.cell? ⟨b, 67 + k * 5, none⟩ = some (.int .i64 10) := by have := h.c0 hk; rw [hc] at this; exact this
  have f0 := h.free (67 + k * 5)
  have H := Lib.hid h; have HC := Lib.hid hc; clear h hc
  go_enter Try.func41, Try.ntmps41
  go_upto_region 2 with fail
  go_cut [] (fun wx => DqV b { D with cl := updC D.cl k ⟨11, u, t, x, q⟩ } wx ∧ But (OneB b) w wx)
  case first =>
    go_wp2_with fail
    go_meet
    refine ⟨?_, (But.refl (OneB b) w).set ⟨b, _, none⟩ _ (.inl rfl)⟩
    have := H.out.snx hk 11
    rw [HC.out] at this; exact this
  case rest =>
    obtain ⟨h1, hG1⟩ := hcut
    rename World => w1
    have H1 := Lib.hid h1; have HG1 := Lib.hid hG1; clear h1 hG1 c0 f0
    have ct : w1.cell? ⟨b, 0, none⟩ = some (.int .i64 D.top) := H1.out.top
    have c2 : w1.cell? ⟨b, 67 + k * 5 + 2, none⟩ = some (.int .i64 t) := by have := H1.out.c2 hk; simp only [updC_same] at this; exact this
    have f2 := H1.out.free (67 + k * 5 + 2)
    go_wp2_with fail
    go_ret
    refine StepP.mk HC.out rfl rfl ?_ (HG1.out.set ⟨b, _, none⟩ _ (.inl rfl))
    have := H1.out.st hk D.top
    simp only [updC_same, updC_twice] at this
    exact this
set_option maxRecDepth 100000 in
set_option maxHeartbeats 4000000 in
theorem step_4 {b : Nat} {D : Dq} {w : World} (k : Nat) (u t x : Int) (q : Bool) (h : DqV b D w) (hk : k < 9) (hc : D.cl k = ⟨4, u, t, x, q⟩) (hu : -1 ≤ u ∧ u ≤ 1000000) :
    Calls Try.prog 41 #[.pointer (some ⟨b, 0, none⟩), .pointer (some ⟨b, 67 + k * 5, none⟩)] w (StepP b D k w) := by
  have c0 : w.cell? ⟨b, 67 + k * 5, none⟩ = some (.int .i64 4) := by have := h.c0 hk; rw [hc] at this; exact this
  have f0 := h.free (67 + k * 5)
  have H := Lib.hid h; have HC := Lib.hid hc; clear h hc
  go_enter Try.func41, Try.ntmps41
  go_upto_region 2 with fail
  go_cut [] (fun wx => DqV b { D with cl := updC D.cl k ⟨5, u, t, x, q⟩ } wx ∧ But (OneB b) w wx)
  case first =>
    go_wp2_with fail
    go_meet
    refine ⟨?_, (But.refl (OneB b) w).set ⟨b, _, none⟩ _ (.inl rfl)⟩
    have := H.out.snx hk 5
    rw [HC.out] at this; exact this
  case rest =>
    obtain ⟨h1, hG1⟩ := hcut
    rename World => w1
    have H1 := Lib.hid h1; have HG1 := Lib.hid hG1; clear h1 hG1 c0 f0
    have cb : w1.cell? ⟨b, 1, none⟩ = some (.int .i64 D.bot) := H1.out.bot
    have fb := H1.out.free 1
    have c1 : w1.cell? ⟨b, 67 + k * 5 + 1, none⟩ = some (.int .i64 u) := by have := H1.out.c1 hk; simp only [updC_same] at this; exact this
    have f1 := H1.out.free (67 + k * 5 + 1)
    have qs : IntKind.i64.wrap (u + 1) = u + 1 := IntWalk.i64_in _ (by omega)
    go_wp2_with fail
    go_ret
    refine StepP.mk HC.out rfl rfl ?_ (HG1.out.set ⟨b, _, none⟩ _ (.inl rfl))
    exact H1.out.sbot (u + 1)
set_option maxRecDepth 100000 in
set_option maxHeartbeats 4000000 in
theorem step_9 {b : Nat} {D : Dq} {w : World} (k : Nat) (u t x : Int) (q : Bool) (h : DqV b D w) (hk : k < 9) (hc : D.cl k = ⟨9, u, t, x, q⟩) (hu : -1 ≤ u ∧ u ≤ 1000000) :
    Calls Try.prog 41 #[.pointer (some ⟨b, 0, none⟩), .pointer (some ⟨b, 67 + k * 5, none⟩)] w (StepP b D k w) := by
  have c0 : w.cell? ⟨b, 67 + k * 5, none⟩ = some (.int .i64 9) := by have := h.c0 hk; rw [hc] at this; exact this
  have f0 := h.free (67 + k * 5)
  have H := Lib.hid h; have HC := Lib.hid hc; clear h hc
  go_enter Try.func41, Try.ntmps41
  go_upto_region 2 with fail
  go_cut [] (fun wx => DqV b { D with cl := updC D.cl k ⟨10, u, t, x, q⟩ } wx ∧ But (OneB b) w wx)
  case first =>
    go_wp2_with fail
    go_meet
    refine ⟨?_, (But.refl (OneB b) w).set ⟨b, _, none⟩ _ (.inl rfl)⟩
    have := H.out.snx hk 10
    rw [HC.out] at this; exact this
  case rest =>
    obtain ⟨h1, hG1⟩ := hcut
    rename World => w1
    have H1 := Lib.hid h1; have HG1 := Lib.hid hG1; clear h1 hG1 c0 f0
    have cb : w1.cell? ⟨b, 1, none⟩ = some (.int .i64 D.bot) := H1.out.bot
    have fb := H1.out.free 1
    have c1 : w1.cell? ⟨b, 67 + k * 5 + 1, none⟩ = some (.int .i64 u) := by have := H1.out.c1 hk; simp only [updC_same] at this; exact this
    have f1 := H1.out.free (67 + k * 5 + 1)
    have c4 : w1.cell? ⟨b, 67 + k * 5 + 4, none⟩ = some (.bool q) := by have := H1.out.c4 hk; simp only [updC_same] at this; exact this
    have f4 := H1.out.free (67 + k * 5 + 4)
    have qs : IntKind.i64.wrap (u + 1) = u + 1 := IntWalk.i64_in _ (by omega)
    cases q
    all_goals
      go_wp2_with fail
      go_ret
      refine StepP.mk HC.out rfl rfl ?_ (HG1.out.set ⟨b, _, none⟩ _ (.inl rfl))
      exact H1.out.sbot (u + 1)
set_option maxRecDepth 100000 in
set_option maxHeartbeats 4000000 in
theorem step_2 {b : Nat} {D : Dq} {w : World} (k : Nat) (u t x : Int) (q : Bool) (h : DqV b D w) (hk : k < 9) (hc : D.cl k = ⟨2, u, t, x, q⟩) (hu : 0 ≤ u ∧ u ≤ 1000000) (ht : 0 ≤ D.top ∧ D.top ≤ 1000000) :
    Calls Try.prog 41 #[.pointer (some ⟨b, 0, none⟩), .pointer (some ⟨b, 67 + k * 5, none⟩)] w (StepP b D k w) := by
  have c0 : w.cell? ⟨b, 67 + k * 5, none⟩ = some (.int .i64 2) := by have := h.c0 hk; rw [hc] at this; exact this
  have f0 := h.free (67 + k * 5)
  have H := Lib.hid h; have HC := Lib.hid hc; clear h hc
  go_enter Try.func41, Try.ntmps41
  go_upto_region 2 with fail
  go_cut [] (fun wx => DqV b { D with cl := updC D.cl k ⟨3, u, t, x, q⟩ } wx ∧ But (OneB b) w wx)
  case first =>
    go_wp2_with fail
    go_meet
    refine ⟨?_, (But.refl (OneB b) w).set ⟨b, _, none⟩ _ (.inl rfl)⟩
    have := H.out.snx hk 3
    rw [HC.out] at this; exact this
  case rest =>
    obtain ⟨h1, hG1⟩ := hcut
    rename World => w1
    have H1 := Lib.hid h1; have HG1 := Lib.hid hG1; clear h1 hG1 c0 f0
    go_upto_region 7 with fail
    go_cut [] (fun wx => DqV b { D with cl := updC D.cl k ⟨3, u, D.top, x, q⟩ } wx ∧ But (OneB b) w wx)
    case first =>
      have ct : w1.cell? ⟨b, 0, none⟩ = some (.int .i64 D.top) := H1.out.top
      have c2 : w1.cell? ⟨b, 67 + k * 5 + 2, none⟩ = some (.int .i64 t) := by have := H1.out.c2 hk; simp only [updC_same] at this; exact this
      have f2 := H1.out.free (67 + k * 5 + 2)
      go_wp2_with fail
      go_meet
      refine ⟨?_, HG1.out.set ⟨b, _, none⟩ _ (.inl rfl)⟩
      have := H1.out.st hk D.top
      simp only [updC_same, updC_twice] at this
      exact this
    case rest =>
      obtain ⟨h2, hG2⟩ := hcut
      rename World => w2
      have H2 := Lib.hid h2; have HG2 := Lib.hid hG2; clear h2 hG2 H1 HG1
      have cr : w2.cell? ⟨b, 66, none⟩ = some (.int .i64 D.room) := H2.out.room
      have d1 : w2.cell? ⟨b, 67 + k * 5 + 1, none⟩ = some (.int .i64 u) := by have := H2.out.c1 hk; simp only [updC_same] at this; exact this
      have g1 := H2.out.free (67 + k * 5 + 1)
      have d2 : w2.cell? ⟨b, 67 + k * 5 + 2, none⟩ = some (.int .i64 D.top) := by have := H2.out.c2 hk; simp only [updC_same] at this; exact this
      have g2 := H2.out.free (67 + k * 5 + 2)
      have qs : IntKind.i64.wrap (u - D.top) = u - D.top := IntWalk.i64_in _ (by omega)
      by_cases hr : (D.room : Int) ≤ u - D.top
      · have tr : decide ((D.room : Int) ≤ u - D.top) = true := by simpa using hr
        have HR := Lib.hid hr; clear hr hu ht
        go_wp2_with fail
        go_quiet (fail)
        go_wp2_with fail
        go_ret
        refine StepP.mk HC.out (how := 4) (by simp only [stepW, if_pos HR.out]; rfl) rfl ?_ (HG2.out.drewN _)
        exact H2.out
      · have tr : decide ((D.room : Int) ≤ u - D.top) = false := by simpa using hr
        have HR := Lib.hid hr; clear hr hu ht
        go_wp2_with fail
        go_quiet (fail)
        go_wp2_with fail
        go_ret
        refine StepP.mk HC.out (how := 0) (by simp only [stepW, if_neg (c := (D.room : Int) ≤ u - D.top) (by have := HR.out; omega)]; rfl) rfl ?_ (HG2.out.drewN _)
        exact H2.out
end Go.Proofs.Ytfejimlfnelhhaa
