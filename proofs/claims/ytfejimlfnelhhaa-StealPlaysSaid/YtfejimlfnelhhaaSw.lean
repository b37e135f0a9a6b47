/- A shared row: a step of a call, way by way. -/
import Derived.Test.YtfejimlfnelhhaaSr
import Derived.Deep.DeepCutAuto
import Derived.StillTailTactics
import Derived.RegionCalls
import Derived.Deep.RegionHeld3
namespace Go.Proofs.Ytfejimlfnelhhaa
open Go.RowKit

set_option maxRecDepth 100000 in
set_option maxHeartbeats 4000000 in
theorem step_3 {b : Nat} {D : Dq} {w : World} (k : Nat) (u t x : Int) (q : Bool) (h : DqV b D w) (hk : k < 9) (hc : D.cl k = ⟨3, u, t, x, q⟩) (hr1 : 1 ≤ D.room) (hr2 : D.room ≤ 64) (hu : 0 ≤ u ∧ u ≤ 1000000) :
    Calls Try.prog 41 #[.pointer (some ⟨b, 0, none⟩), .pointer (some ⟨b, 67 + k * 5, none⟩)] w (StepP b D k w) := by
  have c0 : w.cell? ⟨b, 67 + k * 5, none⟩ = some (.int .i64 3) := by have := h.c0 hk; rw [hc] at this; exact this
  have f0 := h.free (67 + k * 5)
  have H := Lib.hid h; have HC := Lib.hid hc; clear h hc
  go_enter Try.func41, Try.ntmps41
  go_upto_region 2 with fail
  go_cut [] (fun wx => DqV b { D with cl := updC D.cl k ⟨4, u, t, x, q⟩ } wx ∧ But (OneB b) w wx)
  case first =>
    go_wp2_with fail
    go_meet
    refine ⟨?_, (But.refl (OneB b) w).set ⟨b, _, none⟩ _ (.inl rfl)⟩
    have := H.out.snx hk 4
    rw [HC.out] at this; exact this
  case rest =>
    obtain ⟨h1, hG1⟩ := hcut
    rename World => w1
    have H1 := Lib.hid h1; have HG1 := Lib.hid hG1; clear h1 hG1 c0 f0
    obtain ⟨n, rfl⟩ : ∃ n : Nat, u = n := ⟨(u).toNat, by omega⟩
    have m64 : n % D.room < 64 := by have := Nat.mod_lt n hr1; omega
    have HSL := Lib.hid (fun W (hW : DqV b { D with cl := updC D.cl k ⟨4, (n : Int), t, x, q⟩ } W) => slot_any n hW hr1 hr2 (by omega))
    obtain ⟨m, hm⟩ : ∃ m, m = n % D.room := ⟨_, rfl⟩
    rw [← hm] at m64
    simp only at HSL
    rw [← hm] at HSL
    have HM : Hid (slotN D.room (n : Int) = m) := by rw [hm]; rfl
    have c1 : w1.cell? ⟨b, 67 + k * 5 + 1, none⟩ = some (.int .i64 n) := by have := H1.out.c1 hk; simp only [updC_same] at this; exact this
    have f1 := H1.out.free (67 + k * 5 + 1)
    have c3 : w1.cell? ⟨b, 67 + k * 5 + 3, none⟩ = some (.int .i64 x) := by have := H1.out.c3 hk; simp only [updC_same] at this; exact this
    have f3 := H1.out.free (67 + k * 5 + 3)
    have cm : w1.cell? ⟨b, 2 + m, none⟩ = some (.int .i64 (D.sl m)) := H1.out.slot m64
    have fm := H1.out.free (2 + m)
    clear hm hu hr1 hr2
    go_upto_region 11 with fail
    go_wp2_with fail
    go_region_with (go_at_call 47; (with_reducible refine (HSL.out _ H1.out.drew).mono ?_); rintro e w' ⟨rfl, nn, rfl⟩)
    all_goals
      go_wp2_with fail
      go_ret
      refine StepP.mk HC.out (how := 0) (by simp only [stepW, HM.out]; rfl) rfl ?_ ((HG1.out.drewN _).set ⟨b, 2 + m, none⟩ _ (.inl rfl))
      exact DqV.ssl (w := w1.drewN _) H1.out m64 x
set_option maxRecDepth 100000 in
set_option maxHeartbeats 4000000 in
theorem step_12 {b : Nat} {D : Dq} {w : World} (k : Nat) (u t x : Int) (q : Bool) (h : DqV b D w) (hk : k < 9) (hc : D.cl k = ⟨12, u, t, x, q⟩) (hr1 : 1 ≤ D.room) (hr2 : D.room ≤ 64) (hu : 0 ≤ t ∧ t ≤ 1000000) :
    Calls Try.prog 41 #[.pointer (some ⟨b, 0, none⟩), .pointer (some ⟨b, 67 + k * 5, none⟩)] w (StepP b D k w) := by
  have c0 : w.cell? ⟨b, 67 + k * 5, none⟩ = some (.int .i64 12) := by have := h.c0 hk; rw [hc] at this; exact this
  have f0 := h.free (67 + k * 5)
  have H := Lib.hid h; have HC := Lib.hid hc; clear h hc
  go_enter Try.func41, Try.ntmps41
  go_upto_region 2 with fail
  go_cut [] (fun wx => DqV b { D with cl := updC D.cl k ⟨13, u, t, x, q⟩ } wx ∧ But (OneB b) w wx)
  case first =>
    go_wp2_with fail
    go_meet
    refine ⟨?_, (But.refl (OneB b) w).set ⟨b, _, none⟩ _ (.inl rfl)⟩
    have := H.out.snx hk 13
    rw [HC.out] at this; exact this
  case rest =>
    obtain ⟨h1, hG1⟩ := hcut
    rename World => w1
    have H1 := Lib.hid h1; have HG1 := Lib.hid hG1; clear h1 hG1 c0 f0
    obtain ⟨n, rfl⟩ : ∃ n : Nat, t = n := ⟨(t).toNat, by omega⟩
    have m64 : n % D.room < 64 := by have := Nat.mod_lt n hr1; omega
    have HSL := Lib.hid (fun W (hW : DqV b { D with cl := updC D.cl k ⟨13, u, (n : Int), x, q⟩ } W) => slot_any n hW hr1 hr2 (by omega))
    obtain ⟨m, hm⟩ : ∃ m, m = n % D.room := ⟨_, rfl⟩
    rw [← hm] at m64
    simp only at HSL
    rw [← hm] at HSL
    have HM : Hid (slotN D.room (n : Int) = m) := by rw [hm]; rfl
    have c2 : w1.cell? ⟨b, 67 + k * 5 + 2, none⟩ = some (.int .i64 n) := by have := H1.out.c2 hk; simp only [updC_same] at this; exact this
    have f2 := H1.out.free (67 + k * 5 + 2)
    have c3 : w1.cell? ⟨b, 67 + k * 5 + 3, none⟩ = some (.int .i64 x) := by have := H1.out.c3 hk; simp only [updC_same] at this; exact this
    have f3 := H1.out.free (67 + k * 5 + 3)
    clear hm hu hr1 hr2
    go_wp2_with fail
    refine (HSL.out _ H1.out).mono ?_
    rintro e w' ⟨rfl, nn, rfl⟩
    have hd : DqV b { D with cl := updC D.cl k ⟨13, u, (n : Int), x, q⟩ } (w1.drewN nn) := H1.out
    have hg := HG1.out.drewN nn
    have cm : (w1.drewN nn).cell? ⟨b, 2 + m, none⟩ = some (.int .i64 (D.sl m)) := hd.slot m64
    have g3 := hd.free (67 + k * 5 + 3)
    have d3 := hd.c3 hk
    have HD := Lib.hid hd; have HG := Lib.hid hg
    clear hd hg c3 f3 H1 HG1
    generalize w1.drewN nn = w2 at *
    go_wp2_with fail
    go_ret
    refine StepP.mk HC.out (how := 0) (by simp only [stepW, HM.out]; rfl) rfl ?_ (HG.out.set ⟨b, _, none⟩ _ (.inl rfl))
    have := HD.out.sx hk (D.sl m)
    simp only [updC_same, updC_twice] at this
    exact this
set_option maxRecDepth 100000 in
set_option maxHeartbeats 4000000 in
theorem step_7 {b : Nat} {D : Dq} {w : World} (k : Nat) (u t x : Int) (q : Bool) (h : DqV b D w) (hk : k < 9) (hc : D.cl k = ⟨7, u, t, x, q⟩) (hr1 : 1 ≤ D.room) (hr2 : D.room ≤ 64) (hu : 0 ≤ u ∧ u ≤ 1000000) :
    Calls Try.prog 41 #[.pointer (some ⟨b, 0, none⟩), .pointer (some ⟨b, 67 + k * 5, none⟩)] w (StepP b D k w) := by
  have c0 : w.cell? ⟨b, 67 + k * 5, none⟩ = some (.int .i64 7) := by have := h.c0 hk; rw [hc] at this; exact this
  have f0 := h.free (67 + k * 5)
  have H := Lib.hid h; have HC := Lib.hid hc; clear h hc
  go_enter Try.func41, Try.ntmps41
  go_upto_region 2 with fail
  go_cut [] (fun wx => DqV b { D with cl := updC D.cl k ⟨8, u, t, x, q⟩ } wx ∧ But (OneB b) w wx)
  case first =>
    go_wp2_with fail
    go_meet
    refine ⟨?_, (But.refl (OneB b) w).set ⟨b, _, none⟩ _ (.inl rfl)⟩
    have := H.out.snx hk 8
    rw [HC.out] at this; exact this
  case rest =>
    obtain ⟨h1, hG1⟩ := hcut
    rename World => w1
    have H1 := Lib.hid h1; have HG1 := Lib.hid hG1; clear h1 hG1 c0 f0
    obtain ⟨n, rfl⟩ : ∃ n : Nat, u = n := ⟨(u).toNat, by omega⟩
    have m64 : n % D.room < 64 := by have := Nat.mod_lt n hr1; omega
    have HSL := Lib.hid (fun W (hW : DqV b { D with cl := updC D.cl k ⟨8, (n : Int), t, x, q⟩ } W) => slot_any n hW hr1 hr2 (by omega))
    obtain ⟨m, hm⟩ : ∃ m, m = n % D.room := ⟨_, rfl⟩
    rw [← hm] at m64
    simp only at HSL
    rw [← hm] at HSL
    have HM : Hid (slotN D.room (n : Int) = m) := by rw [hm]; rfl
    have c1 : w1.cell? ⟨b, 67 + k * 5 + 1, none⟩ = some (.int .i64 n) := by have := H1.out.c1 hk; simp only [updC_same] at this; exact this
    have f1 := H1.out.free (67 + k * 5 + 1)
    have c3 : w1.cell? ⟨b, 67 + k * 5 + 3, none⟩ = some (.int .i64 x) := by have := H1.out.c3 hk; simp only [updC_same] at this; exact this
    have f3 := H1.out.free (67 + k * 5 + 3)
    have c2 : w1.cell? ⟨b, 67 + k * 5 + 2, none⟩ = some (.int .i64 t) := by have := H1.out.c2 hk; simp only [updC_same] at this; exact this
    have f2 := H1.out.free (67 + k * 5 + 2)
    clear hm hu hr1 hr2
    go_upto_region 23 with fail
    go_cut [] (fun wx => DqV b { D with cl := updC D.cl k ⟨8, (n : Int), t, D.sl m, q⟩ } wx ∧ But (OneB b) w wx)
    case first =>
      go_wp2_with fail
      refine (HSL.out _ H1.out).mono ?_
      rintro e w' ⟨rfl, nn, rfl⟩
      have hd : DqV b { D with cl := updC D.cl k ⟨8, (n : Int), t, x, q⟩ } (w1.drewN nn) := H1.out
      have hg := HG1.out.drewN nn
      have cm : (w1.drewN nn).cell? ⟨b, 2 + m, none⟩ = some (.int .i64 (D.sl m)) := hd.slot m64
      have g3 := hd.free (67 + k * 5 + 3)
      have d3 := hd.c3 hk
      have HD := Lib.hid hd; have HG := Lib.hid hg
      clear hd hg c3 f3 H1 HG1
      generalize w1.drewN nn = w2 at *
      go_wp2_with fail
      go_meet
      refine ⟨?_, HG.out.set ⟨b, _, none⟩ _ (.inl rfl)⟩
      have := HD.out.sx hk (D.sl m)
      simp only [updC_same, updC_twice] at this
      exact this
    case rest =>
      obtain ⟨h2, hG2⟩ := hcut
      rename World => w2
      have H2 := Lib.hid h2; have HG2 := Lib.hid hG2; clear h2 hG2 H1 HG1 c1 f1 c3 f3 c2 f2
      have d1 : w2.cell? ⟨b, 67 + k * 5 + 1, none⟩ = some (.int .i64 n) := by have := H2.out.c1 hk; simp only [updC_same] at this; exact this
      have g1 := H2.out.free (67 + k * 5 + 1)
      have d2 : w2.cell? ⟨b, 67 + k * 5 + 2, none⟩ = some (.int .i64 t) := by have := H2.out.c2 hk; simp only [updC_same] at this; exact this
      have g2 := H2.out.free (67 + k * 5 + 2)
      by_cases hr : t < (n : Int)
      · have tr : decide (t < (n : Int)) = true := by simpa using hr
        have HR := Lib.hid hr; clear hr
        go_wp2_with fail
        go_quiet (fail)
        go_wp2_with fail
        go_ret
        refine StepP.mk HC.out (how := 1) (by simp only [stepW, HM.out, if_pos HR.out]; rfl) rfl ?_ (HG2.out.drewN _)
        exact H2.out
      · have tr : decide (t < (n : Int)) = false := by simpa using hr
        have HR := Lib.hid hr; clear hr
        go_wp2_with fail
        go_quiet (fail)
        go_wp2_with fail
        go_ret
        refine StepP.mk HC.out (how := 0) (by simp only [stepW, HM.out, if_neg (c := t < (n : Int)) (by have := HR.out; omega)]; rfl) rfl ?_ (HG2.out.drewN _)
        exact H2.out
end Go.Proofs.Ytfejimlfnelhhaa
