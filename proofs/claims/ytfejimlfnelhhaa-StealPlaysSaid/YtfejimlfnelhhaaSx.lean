/- A shared row: a step of a call, way by way. -/
import Derived.Test.YtfejimlfnelhhaaSr
import Derived.Deep.DeepCutAuto
import Derived.StillTailTactics
import Derived.RegionCalls
import Derived.Deep.RegionHeld3
namespace Go.Proofs.Ytfejimlfnelhhaa
open Go.RowKit

set_option maxRecDepth 100000 in
set_option maxHeartbeats 4000000 in
theorem step_8 {b : Nat} {D : Dq} {w : World} (k : Nat) (u t x : Int) (q : Bool) (h : DqV b D w) (hk : k < 9) (hc : D.cl k = ⟨8, u, t, x, q⟩) (ht : 0 ≤ t ∧ t ≤ 1000000) :
    Calls Try.prog 41 #[.pointer (some ⟨b, 0, none⟩), .pointer (some ⟨b, 67 + k * 5, none⟩)] w (StepP b D k w) := by
  have c0 : w.cell? ⟨b, 67 + k * 5, none⟩ = some (.int .i64 8) := by have := h.c0 hk; rw [hc] at this; exact this
  have f0 := h.free (67 + k * 5)
  have H := Lib.hid h; have HC := Lib.hid hc; clear h hc
  go_enter Try.func41, Try.ntmps41
  go_upto_region 2 with fail
  go_cut [] (fun wx => DqV b { D with cl := updC D.cl k ⟨9, u, t, x, q⟩ } wx ∧ But (OneB b) w wx)
  case first =>
    go_wp2_with fail
    go_meet
    refine ⟨?_, (But.refl (OneB b) w).set ⟨b, _, none⟩ _ (.inl rfl)⟩
    have := H.out.snx hk 9
    rw [HC.out] at this; exact this
  case rest =>
    obtain ⟨h1, hG1⟩ := hcut
    rename World => w1
    have H1 := Lib.hid h1; have HG1 := Lib.hid hG1; clear h1 hG1 c0 f0
    have c2 : w1.cell? ⟨b, 67 + k * 5 + 2, none⟩ = some (.int .i64 t) := by have := H1.out.c2 hk; simp only [updC_same] at this; exact this
    have f2 := H1.out.free (67 + k * 5 + 2)
    have c4 : w1.cell? ⟨b, 67 + k * 5 + 4, none⟩ = some (.bool q) := by have := H1.out.c4 hk; simp only [updC_same] at this; exact this
    have f4 := H1.out.free (67 + k * 5 + 4)
    by_cases hr : D.top = t
    · have HW := Lib.hid (win_yes t H1.out hr ht.1 ht.2)
      have HR := Lib.hid hr; clear hr ht
      go_wp2_with fail
      refine HW.out.mono ?_
      rintro e w2 ⟨rfl, hw⟩
      have hd : DqV b { D with top := t + 1, cl := updC D.cl k ⟨9, u, t, x, q⟩ } w2 := by rw [hw]; exact H1.out.stop (t + 1)
      have hg : But (OneB b) w w2 := by rw [hw]; exact HG1.out.set ⟨b, _, none⟩ _ (.inl rfl)
      have d4 := hd.c4 hk; have g4 := hd.free (67 + k * 5 + 4)
      have HD := Lib.hid hd; have HG := Lib.hid hg
      clear hd hg hw HW H1 HG1 c2 f2 c4 f4
      go_wp2_with fail
      go_ret
      refine StepP.mk HC.out (how := 0) (by simp only [stepW, if_pos HR.out, decide_eq_true HR.out]; rfl) rfl ?_ (HG.out.set ⟨b, _, none⟩ _ (.inl rfl))
      rw [HR.out]
      have := HD.out.swon hk true
      simp only [updC_same, updC_twice] at this
      exact this
    · have HW := Lib.hid (win_no t H1.out hr)
      have HR := Lib.hid hr; clear hr ht
      go_wp2_with fail
      refine HW.out.mono ?_
      rintro e w2 ⟨rfl, rfl⟩
      go_wp2_with fail
      go_ret
      refine StepP.mk HC.out (how := 0) (by simp only [stepW, if_neg (c := D.top = t) (by have := HR.out; omega), decide_eq_false HR.out]; rfl) rfl ?_ (HG1.out.set ⟨b, _, none⟩ _ (.inl rfl))
      have := H1.out.swon hk false
      simp only [updC_same, updC_twice] at this
      exact this
set_option maxRecDepth 100000 in
set_option maxHeartbeats 4000000 in
theorem step_13 {b : Nat} {D : Dq} {w : World} (k : Nat) (u t x : Int) (q : Bool) (h : DqV b D w) (hk : k < 9) (hc : D.cl k = ⟨13, u, t, x, q⟩) (ht : 0 ≤ t ∧ t ≤ 1000000) :
    Calls Try.prog 41 #[.pointer (some ⟨b, 0, none⟩), .pointer (some ⟨b, 67 + k * 5, none⟩)] w (StepP b D k w) := by
  have c0 : w.cell? ⟨b, 67 + k * 5, none⟩ = some (.int .i64 13) := by have := h.c0 hk; rw [hc] at this; exact this
  have f0 := h.free (67 + k * 5)
  have H := Lib.hid h; have HC := Lib.hid hc; clear h hc
  go_enter Try.func41, Try.ntmps41
  go_upto_region 2 with fail
  go_cut [] (fun wx => DqV b { D with cl := updC D.cl k ⟨14, u, t, x, q⟩ } wx ∧ But (OneB b) w wx)
  case first =>
    go_wp2_with fail
    go_meet
    refine ⟨?_, (But.refl (OneB b) w).set ⟨b, _, none⟩ _ (.inl rfl)⟩
    have := H.out.snx hk 14
    rw [HC.out] at this; exact this
  case rest =>
    obtain ⟨h1, hG1⟩ := hcut
    rename World => w1
    have H1 := Lib.hid h1; have HG1 := Lib.hid hG1; clear h1 hG1 c0 f0
    have c2 : w1.cell? ⟨b, 67 + k * 5 + 2, none⟩ = some (.int .i64 t) := by have := H1.out.c2 hk; simp only [updC_same] at this; exact this
    have f2 := H1.out.free (67 + k * 5 + 2)
    by_cases hr : D.top = t
    · have HW := Lib.hid (win_yes t H1.out hr ht.1 ht.2)
      have HR := Lib.hid hr; clear hr ht
      go_wp2_with fail
      refine HW.out.mono ?_
      rintro e w2 ⟨rfl, hw⟩
      have hd : DqV b { D with top := t + 1, cl := updC D.cl k ⟨14, u, t, x, q⟩ } w2 := by rw [hw]; exact H1.out.stop (t + 1)
      have hg : But (OneB b) w w2 := by rw [hw]; exact HG1.out.set ⟨b, _, none⟩ _ (.inl rfl)
      have HD := Lib.hid hd; have HG := Lib.hid hg
      clear hd hg hw HW H1 HG1 c2 f2
      go_wp2_with fail
      go_ret
      refine StepP.mk HC.out (how := 1) (by simp only [stepW, if_pos HR.out]; rfl) rfl ?_ HG.out
      rw [HR.out]
      exact HD.out
    · have HW := Lib.hid (win_no t H1.out hr)
      have HR := Lib.hid hr; clear hr ht
      go_wp2_with fail
      refine HW.out.mono ?_
      rintro e w2 ⟨rfl, rfl⟩
      go_wp2_with fail
      go_ret
      refine StepP.mk HC.out (how := 5) (by simp only [stepW, if_neg (c := D.top = t) (by have := HR.out; omega)]; rfl) rfl ?_ HG1.out
      exact H1.out
end Go.Proofs.Ytfejimlfnelhhaa
