/- A shared row: a step of a call, way by way. -/
import Derived.Test.YtfejimlfnelhhaaSr
import Derived.Deep.DeepCutAuto
import Derived.StillTailTactics
import Derived.RegionCalls
import Derived.Deep.RegionHeld3
namespace Go.Proofs.Ytfejimlfnelhhaa
open Go.RowKit

set_option maxRecDepth 100000 in
set_option maxHeartbeats 4000000 in
theorem step_5 {b : Nat} {D : Dq} {w : World} (k : Nat) (u t x : Int) (q : Bool) (h : DqV b D w) (hk : k < 9) (hc : D.cl k = ⟨5, u, t, x, q⟩) (hb : 0 ≤ D.bot ∧ D.bot ≤ 1000000) :
    Calls Try.prog 41 #[.pointer (some ⟨b, 0, none⟩), .pointer (some ⟨b, 67 + k * 5, none⟩)] w (StepP b D k w) := by
  have c0 : w.cell? ⟨b, 67 + k * 5, none⟩ = some (.int .i64 5) := by have := h.c0 hk; rw [hc] at this; exact this
  have f0 := h.free (67 + k * 5)
  have H := Lib.hid h; have HC := Lib.hid hc; clear h hc
  go_enter Try.func41, Try.ntmps41
  go_upto_region 2 with fail
  go_cut [] (fun wx => DqV b { D with cl := updC D.cl k ⟨6, u, t, x, q⟩ } wx ∧ But (OneB b) w wx)
  case first =>
    go_wp2_with fail
    go_meet
    refine ⟨?_, (But.refl (OneB b) w).set ⟨b, _, none⟩ _ (.inl rfl)⟩
    have := H.out.snx hk 6
    rw [HC.out] at this; exact this
  case rest =>
    obtain ⟨h1, hG1⟩ := hcut
    rename World => w1
    have H1 := Lib.hid h1; have HG1 := Lib.hid hG1; clear h1 hG1 c0 f0
    go_upto_region 16 with fail
    go_cut [] (fun wx => DqV b { D with bot := D.bot - 1, cl := updC D.cl k ⟨6, u, t, x, q⟩ } wx ∧ But (OneB b) w wx)
    case first =>
      have cb : w1.cell? ⟨b, 1, none⟩ = some (.int .i64 D.bot) := H1.out.bot
      have fb := H1.out.free 1
      have qs : IntKind.i64.wrap (D.bot - 1) = D.bot - 1 := IntWalk.i64_in _ (by omega)
      go_wp2_with fail
      go_meet
      exact ⟨H1.out.sbot (D.bot - 1), HG1.out.set ⟨b, _, none⟩ _ (.inl rfl)⟩
    case rest =>
      obtain ⟨h2, hG2⟩ := hcut
      rename World => w2
      have H2 := Lib.hid h2; have HG2 := Lib.hid hG2; clear h2 hG2 H1 HG1
      have cb : w2.cell? ⟨b, 1, none⟩ = some (.int .i64 (D.bot - 1)) := H2.out.bot
      have d1 : w2.cell? ⟨b, 67 + k * 5 + 1, none⟩ = some (.int .i64 u) := by have := H2.out.c1 hk; simp only [updC_same] at this; exact this
      have g1 := H2.out.free (67 + k * 5 + 1)
      go_wp2_with fail
      go_ret
      refine StepP.mk HC.out rfl rfl ?_ (HG2.out.set ⟨b, _, none⟩ _ (.inl rfl))
      have := H2.out.sb hk (D.bot - 1)
      simp only [updC_same, updC_twice] at this
      exact this
set_option maxRecDepth 100000 in
set_option maxHeartbeats 4000000 in
theorem step_6 {b : Nat} {D : Dq} {w : World} (k : Nat) (u t x : Int) (q : Bool) (h : DqV b D w) (hk : k < 9) (hc : D.cl k = ⟨6, u, t, x, q⟩) :
    Calls Try.prog 41 #[.pointer (some ⟨b, 0, none⟩), .pointer (some ⟨b, 67 + k * 5, none⟩)] w (StepP b D k w) := by
  have c0 : w.cell? ⟨b, 67 + k * 5, none⟩ = some (.int .i64 6) := by have := h.c0 hk; rw [hc] at this; exact this
  have f0 := h.free (67 + k * 5)
  have H := Lib.hid h; have HC := Lib.hid hc; clear h hc
  go_enter Try.func41, Try.ntmps41
  go_upto_region 2 with fail
  go_cut [] (fun wx => DqV b { D with cl := updC D.cl k ⟨7, u, t, x, q⟩ } wx ∧ But (OneB b) w wx)
  case first =>
    go_wp2_with fail
    go_meet
    refine ⟨?_, (But.refl (OneB b) w).set ⟨b, _, none⟩ _ (.inl rfl)⟩
    have := H.out.snx hk 7
    rw [HC.out] at this; exact this
  case rest =>
    obtain ⟨h1, hG1⟩ := hcut
    rename World => w1
    have H1 := Lib.hid h1; have HG1 := Lib.hid hG1; clear h1 hG1 c0 f0
    go_upto_region 19 with fail
    go_cut [] (fun wx => DqV b { D with cl := updC D.cl k ⟨7, u, D.top, x, q⟩ } wx ∧ But (OneB b) w wx)
    case first =>
      have ct : w1.cell? ⟨b, 0, none⟩ = some (.int .i64 D.top) := H1.out.top
      have c2 : w1.cell? ⟨b, 67 + k * 5 + 2, none⟩ = some (.int .i64 t) := by have := H1.out.c2 hk; simp only [updC_same] at this; exact this
      have f2 := H1.out.free (67 + k * 5 + 2)
      go_wp2_with fail
      go_meet
      refine ⟨?_, HG1.out.set ⟨b, _, none⟩ _ (.inl rfl)⟩
      have := H1.out.st hk D.top
      simp only [updC_same, updC_twice] at this
      exact this
    case rest =>
      obtain ⟨h2, hG2⟩ := hcut
      rename World => w2
      have H2 := Lib.hid h2; have HG2 := Lib.hid hG2; clear h2 hG2 H1 HG1
      have d0 : w2.cell? ⟨b, 67 + k * 5, none⟩ = some (.int .i64 7) := by have := H2.out.c0 hk; simp only [updC_same] at this; exact this
      have g0 := H2.out.free (67 + k * 5)
      have d1 : w2.cell? ⟨b, 67 + k * 5 + 1, none⟩ = some (.int .i64 u) := by have := H2.out.c1 hk; simp only [updC_same] at this; exact this
      have g1 := H2.out.free (67 + k * 5 + 1)
      have d2 : w2.cell? ⟨b, 67 + k * 5 + 2, none⟩ = some (.int .i64 D.top) := by have := H2.out.c2 hk; simp only [updC_same] at this; exact this
      have g2 := H2.out.free (67 + k * 5 + 2)
      by_cases hr : u < D.top
      · have tr : decide (u < D.top) = true := by simpa using hr
        have HR := Lib.hid hr; clear hr
        go_wp2_with fail
        go_quiet (fail)
        have hd : DqV b { D with cl := updC D.cl k ⟨7, u, D.top, x, q⟩ } (w2.drewN nq) := H2.out
        have hg := HG2.out.drewN nq
        have g0' := hd.free (67 + k * 5)
        have d0' : (w2.drewN nq).cell? ⟨b, 67 + k * 5, none⟩ = some (.int .i64 7) := d0
        have HD := Lib.hid hd; have HG := Lib.hid hg
        clear hd hg d0 d1 d2 g0 g1 g2 H2 HG2
        generalize w2.drewN nq = w3 at *
        go_wp2_with fail
        go_ret
        refine StepP.mk HC.out (how := 0) (by simp only [stepW, if_pos HR.out]; rfl) rfl ?_ (HG.out.set ⟨b, _, none⟩ _ (.inl rfl))
        have := HD.out.snx hk 9
        simp only [updC_same, updC_twice] at this
        exact this
      · have tr : decide (u < D.top) = false := by simpa using hr
        have HR := Lib.hid hr; clear hr
        go_wp2_with fail
        go_quiet (fail)
        go_wp2_with fail
        go_ret
        refine StepP.mk HC.out (how := 0) (by simp only [stepW, if_neg (c := u < D.top) (by have := HR.out; omega)]; rfl) rfl ?_ (HG2.out.drewN _)
        exact H2.out
set_option maxRecDepth 100000 in
set_option maxHeartbeats 4000000 in
theorem step_11 {b : Nat} {D : Dq} {w : World} (k : Nat) (u t x : Int) (q : Bool) (h : DqV b D w) (hk : k < 9) (hc : D.cl k = ⟨11, u, t, x, q⟩) :
    Calls Try.prog 41 #[.pointer (some ⟨b, 0, none⟩), .pointer (some ⟨b, 67 + k * 5, none⟩)] w (StepP b D k w) := by
  have c0 : w.cell? ⟨b, 67 + k * 5, none⟩ = some (.int .i64 11) := by have := h.c0 hk; rw [hc] at this; exact this
  have f0 := h.free (67 + k * 5)
  have H := Lib.hid h; have HC := Lib.hid hc; clear h hc
  go_enter Try.func41, Try.ntmps41
  go_upto_region 2 with fail
  go_cut [] (fun wx => DqV b { D with cl := updC D.cl k ⟨12, u, t, x, q⟩ } wx ∧ But (OneB b) w wx)
  case first =>
    go_wp2_with fail
    go_meet
    refine ⟨?_, (But.refl (OneB b) w).set ⟨b, _, none⟩ _ (.inl rfl)⟩
    have := H.out.snx hk 12
    rw [HC.out] at this; exact this
  case rest =>
    obtain ⟨h1, hG1⟩ := hcut
    rename World => w1
    have H1 := Lib.hid h1; have HG1 := Lib.hid hG1; clear h1 hG1 c0 f0
    go_upto_region 36 with fail
    go_cut [] (fun wx => DqV b { D with cl := updC D.cl k ⟨12, D.bot, t, x, q⟩ } wx ∧ But (OneB b) w wx)
    case first =>
      have cb : w1.cell? ⟨b, 1, none⟩ = some (.int .i64 D.bot) := H1.out.bot
      have c1 : w1.cell? ⟨b, 67 + k * 5 + 1, none⟩ = some (.int .i64 u) := by have := H1.out.c1 hk; simp only [updC_same] at this; exact this
      have f1 := H1.out.free (67 + k * 5 + 1)
      go_wp2_with fail
      go_meet
      refine ⟨?_, HG1.out.set ⟨b, _, none⟩ _ (.inl rfl)⟩
      have := H1.out.sb hk D.bot
      simp only [updC_same, updC_twice] at this
      exact this
    case rest =>
      obtain ⟨h2, hG2⟩ := hcut
      rename World => w2
      have H2 := Lib.hid h2; have HG2 := Lib.hid hG2; clear h2 hG2 H1 HG1
      have d1 : w2.cell? ⟨b, 67 + k * 5 + 1, none⟩ = some (.int .i64 D.bot) := by have := H2.out.c1 hk; simp only [updC_same] at this; exact this
      have g1 := H2.out.free (67 + k * 5 + 1)
      have d2 : w2.cell? ⟨b, 67 + k * 5 + 2, none⟩ = some (.int .i64 t) := by have := H2.out.c2 hk; simp only [updC_same] at this; exact this
      have g2 := H2.out.free (67 + k * 5 + 2)
      by_cases hr : D.bot ≤ t
      · have tr : decide (D.bot ≤ t) = true := by simpa using hr
        have HR := Lib.hid hr; clear hr
        go_wp2_with fail
        go_quiet (fail)
        go_wp2_with fail
        go_ret
        refine StepP.mk HC.out (how := 3) (by simp only [stepW, if_pos HR.out]; rfl) rfl ?_ (HG2.out.drewN _)
        exact H2.out
      · have tr : decide (D.bot ≤ t) = false := by simpa using hr
        have HR := Lib.hid hr; clear hr
        go_wp2_with fail
        go_quiet (fail)
        go_wp2_with fail
        go_ret
        refine StepP.mk HC.out (how := 0) (by simp only [stepW, if_neg (c := D.bot ≤ t) (by have := HR.out; omega)]; rfl) rfl ?_ (HG2.out.drewN _)
        exact H2.out
end Go.Proofs.Ytfejimlfnelhhaa
