/- A lock that parties wait for in a row: a step of a call, number by number. -/
import Derived.Test.YtckdabokaelnoaaMs
import Derived.StillTailTactics
import Derived.RegionCalls
import Derived.Deep.RegionHeld3
namespace Go.Proofs.Ytckdabokaelnoaa
open Go.RowKit

/-- What the code's step does: the plain one. -/
def StepQ (b : Nat) (D : Lk) (k : Nat) (w : World) (e : Ending) (w' : World) : Prop := e = .returned (.tuple #[]) ∧ LkM b (stepL D k) w' ∧ But (OneB b) w w'
theorem StepQ.mk {b : Nat} {D D' : Lk} {k : Nat} {w w' : World} {e : Ending} (he : e = .returned (.tuple #[])) (hd : stepL D k = D') (h : LkM b D' w') (g : But (OneB b) w w') : StepQ b D k w e w' := ⟨he, hd ▸ h, g⟩
set_option maxRecDepth 100000 in
set_option maxHeartbeats 4000000 in
theorem mstp_0 {b : Nat} {D : Lk} {w : World} (k s : Nat) (o : Int) (h : LkM b D w) (hk : k < 16) (hc : D.cl k = ⟨s, 0, o⟩) :
    Calls Try.prog 86 #[.pointer (some ⟨b, 0, none⟩), .int .i64 k] w (StepQ b D k w) := by
  have c0 : w.cell? ⟨b, 33 + k * 3 + 1, none⟩ = some (.int .i64 0) := by have := h.sp hk; rw [hc] at this; exact this
  have f0 := h.free (33 + k * 3 + 1)
  have k0 : (0 : Int) ≤ (k : Int) := by omega
  have k1 : (k : Int) < 16 := by omega
  have H := Lib.hid h; have HC := Lib.hid hc; clear h hc
  go_enter Try.func86, Try.ntmps86
  go_wp2_with fail
  go_region
  go_upto_region 2 with fail
  go_cut [] (fun wx => LkM b { D with cl := updF D.cl k ⟨s, 1, o⟩ } wx ∧ But (OneB b) w wx)
  case first =>
    go_wp2_with fail
    go_meet
    refine ⟨?_, (((But.refl (OneB b) w).drew).set ⟨b, _, none⟩ _ (.inl rfl))⟩
    have := H.out.drew.ssp hk 1
    rw [HC.out] at this; exact this
  case rest =>
    obtain ⟨h1, hG1⟩ := hcut
    rename World => w1
    have H1 := Lib.hid h1; have HG1 := Lib.hid hG1; clear h1 hG1 c0 f0
    have f1 := H1.out.free (1 + k * 2)
    have c1 := H1.out.nx hk
    go_wp2_with fail
    go_end0
    refine StepQ.mk rfl (by unfold stepL; rw [HC.out]) ?_ (HG1.out.set ⟨b, _, none⟩ _ (.inl rfl))
    exact H1.out.snx hk (-1)
set_option maxRecDepth 100000 in
set_option maxHeartbeats 4000000 in
theorem mstp_1 {b : Nat} {D : Lk} {w : World} (k s : Nat) (o : Int) (h : LkM b D w) (hk : k < 16) (hc : D.cl k = ⟨s, 1, o⟩) :
    Calls Try.prog 86 #[.pointer (some ⟨b, 0, none⟩), .int .i64 k] w (StepQ b D k w) := by
  have c0 : w.cell? ⟨b, 33 + k * 3 + 1, none⟩ = some (.int .i64 1) := by have := h.sp hk; rw [hc] at this; exact this
  have f0 := h.free (33 + k * 3 + 1)
  have k0 : (0 : Int) ≤ (k : Int) := by omega
  have k1 : (k : Int) < 16 := by omega
  have H := Lib.hid h; have HC := Lib.hid hc; clear h hc
  go_enter Try.func86, Try.ntmps86
  go_wp2_with fail
  go_region
  go_upto_region 2 with fail
  go_cut [] (fun wx => LkM b { D with cl := updF D.cl k ⟨s, 2, o⟩ } wx ∧ But (OneB b) w wx)
  case first =>
    go_wp2_with fail
    go_meet
    refine ⟨?_, (((But.refl (OneB b) w).drew).set ⟨b, _, none⟩ _ (.inl rfl))⟩
    have := H.out.drew.ssp hk 2
    rw [HC.out] at this; exact this
  case rest =>
    obtain ⟨h1, hG1⟩ := hcut
    rename World => w1
    have H1 := Lib.hid h1; have HG1 := Lib.hid hG1; clear h1 hG1 c0 f0
    have f1 := H1.out.free (1 + k * 2 + 1)
    have c1 := H1.out.wt hk
    go_wp2_with fail
    go_end0
    refine StepQ.mk rfl (by unfold stepL; rw [HC.out]) ?_ (HG1.out.set ⟨b, _, none⟩ _ (.inl rfl))
    exact H1.out.swt hk true
set_option maxRecDepth 100000 in
set_option maxHeartbeats 4000000 in
theorem mstp_2a {b : Nat} {D : Lk} {w : World} (k s : Nat) (o : Int) (h : LkM b D w) (hk : k < 16) (hc : D.cl k = ⟨s, 2, o⟩) (ht : D.tail = -1) :
    Calls Try.prog 86 #[.pointer (some ⟨b, 0, none⟩), .int .i64 k] w (StepQ b D k w) := by
  have c0 : w.cell? ⟨b, 33 + k * 3 + 1, none⟩ = some (.int .i64 2) := by have := h.sp hk; rw [hc] at this; exact this
  have f0 := h.free (33 + k * 3 + 1)
  have k0 : (0 : Int) ≤ (k : Int) := by omega
  have k1 : (k : Int) < 16 := by omega
  have HT := Lib.hid ht; clear ht
  have H := Lib.hid h; have HC := Lib.hid hc; clear h hc
  go_enter Try.func86, Try.ntmps86
  go_wp2_with fail
  go_region
  go_upto_region 2 with fail
  go_cut [] (fun wx => LkM b { D with cl := updF D.cl k ⟨s, 3, o⟩ } wx ∧ But (OneB b) w wx)
  case first =>
    go_wp2_with fail
    go_meet
    refine ⟨?_, (((But.refl (OneB b) w).drew).set ⟨b, _, none⟩ _ (.inl rfl))⟩
    have := H.out.drew.ssp hk 3
    rw [HC.out] at this; exact this
  case rest =>
    obtain ⟨h1, hG1⟩ := hcut
    rename World => w1
    have H1 := Lib.hid h1; have HG1 := Lib.hid hG1; clear h1 hG1 c0 f0
    have ct : w1.cell? ⟨b, 0, none⟩ = some (.int .i64 D.tail) := H1.out.tail
    have f1 := H1.out.free (33 + k * 3 + 2)
    have c1 := H1.out.ot hk
    have f2 := H1.out.free 0
    go_upto_region 9 with fail
    go_cut [] (fun wx => LkM b { D with tail := (k : Int), cl := updF D.cl k ⟨s, 3, D.tail⟩ } wx ∧ But (OneB b) w wx)
    case first =>
      go_wp2_with fail
      go_meet
      refine ⟨?_, (HG1.out.set ⟨b, _, none⟩ _ (.inl rfl)).set ⟨b, _, none⟩ _ (.inl rfl)⟩
      have := (H1.out.sot hk D.tail).stail (k : Int)
      simp only [updF_same, updF_twice] at this
      exact this
    case rest =>
      obtain ⟨h2, hG2⟩ := hcut
      rename World => w2
      have H2 := Lib.hid h2; have HG2 := Lib.hid hG2; clear h2 hG2 ct f1 c1 f2
      have ht := HT.out
      have c2 : w2.cell? ⟨b, 33 + k * 3 + 2, none⟩ = some (.int .i64 (-1)) := by have := H2.out.ot hk; simp only [updF_same] at this; rw [ht] at this; exact this
      have f2 := H2.out.free (33 + k * 3)
      have c3 := H2.out.st hk
      go_wp2_with fail
      go_end0
      refine StepQ.mk (D' := { D with tail := (k : Int), cl := updF D.cl k ⟨2, 3, -1⟩ }) rfl (by unfold stepL; rw [HC.out] <;> simp [ht]) ?_ (HG2.out.set ⟨b, _, none⟩ _ (.inl rfl))
      have := H2.out.sst hk 2
      simp only [updF_same, updF_twice, ht] at this
      exact this
set_option maxRecDepth 100000 in
set_option maxHeartbeats 4000000 in
theorem mstp_2b {b : Nat} {D : Lk} {w : World} (k s : Nat) (o : Int) (h : LkM b D w) (hk : k < 16) (hc : D.cl k = ⟨s, 2, o⟩) (ht : D.tail ≠ -1) :
    Calls Try.prog 86 #[.pointer (some ⟨b, 0, none⟩), .int .i64 k] w (StepQ b D k w) := by
  have c0 : w.cell? ⟨b, 33 + k * 3 + 1, none⟩ = some (.int .i64 2) := by have := h.sp hk; rw [hc] at this; exact this
  have f0 := h.free (33 + k * 3 + 1)
  have k0 : (0 : Int) ≤ (k : Int) := by omega
  have k1 : (k : Int) < 16 := by omega
  have H := Lib.hid h; have HC := Lib.hid hc; clear h hc
  go_enter Try.func86, Try.ntmps86
  go_wp2_with fail
  go_region
  go_upto_region 2 with fail
  go_cut [] (fun wx => LkM b { D with cl := updF D.cl k ⟨s, 3, o⟩ } wx ∧ But (OneB b) w wx)
  case first =>
    go_wp2_with fail
    go_meet
    refine ⟨?_, (((But.refl (OneB b) w).drew).set ⟨b, _, none⟩ _ (.inl rfl))⟩
    have := H.out.drew.ssp hk 3
    rw [HC.out] at this; exact this
  case rest =>
    obtain ⟨h1, hG1⟩ := hcut
    rename World => w1
    have H1 := Lib.hid h1; have HG1 := Lib.hid hG1; clear h1 hG1 c0 f0
    have ct : w1.cell? ⟨b, 0, none⟩ = some (.int .i64 D.tail) := H1.out.tail
    have f1 := H1.out.free (33 + k * 3 + 2)
    have c1 := H1.out.ot hk
    have f2 := H1.out.free 0
    go_upto_region 9 with fail
    go_cut [] (fun wx => LkM b { D with tail := (k : Int), cl := updF D.cl k ⟨s, 3, D.tail⟩ } wx ∧ But (OneB b) w wx)
    case first =>
      go_wp2_with fail
      go_meet
      refine ⟨?_, (HG1.out.set ⟨b, _, none⟩ _ (.inl rfl)).set ⟨b, _, none⟩ _ (.inl rfl)⟩
      have := (H1.out.sot hk D.tail).stail (k : Int)
      simp only [updF_same, updF_twice] at this
      exact this
    case rest =>
      obtain ⟨h2, hG2⟩ := hcut
      rename World => w2
      have H2 := Lib.hid h2; have HG2 := Lib.hid hG2; clear h2 hG2 ct f1 c1 f2
      have c2 : w2.cell? ⟨b, 33 + k * 3 + 2, none⟩ = some (.int .i64 D.tail) := by have := H2.out.ot hk; simp only [updF_same] at this; exact this
      have t1 : (D.tail == -1) = false := by simpa using ht
      go_wp2_with fail
      go_end0
      exact StepQ.mk (D' := { D with tail := (k : Int), cl := updF D.cl k ⟨s, 3, D.tail⟩ }) rfl (by unfold stepL; rw [HC.out] <;> simp [ht]) H2.out HG2.out
set_option maxRecDepth 100000 in
set_option maxHeartbeats 4000000 in
theorem mstp_3 {b : Nat} {D : Lk} {w : World} (k s : Nat) (o : Int) (h : LkM b D w) (hk : k < 16) (hc : D.cl k = ⟨s, 3, o⟩) (ho : 0 ≤ o ∧ o < 16) :
    Calls Try.prog 86 #[.pointer (some ⟨b, 0, none⟩), .int .i64 k] w (StepQ b D k w) := by
  have c0 : w.cell? ⟨b, 33 + k * 3 + 1, none⟩ = some (.int .i64 3) := by have := h.sp hk; rw [hc] at this; exact this
  have f0 := h.free (33 + k * 3 + 1)
  have k0 : (0 : Int) ≤ (k : Int) := by omega
  have k1 : (k : Int) < 16 := by omega
  have H := Lib.hid h; have HC := Lib.hid hc; clear h hc
  go_enter Try.func86, Try.ntmps86
  go_wp2_with fail
  go_region
  go_upto_region 2 with fail
  go_cut [] (fun wx => LkM b { D with cl := updF D.cl k ⟨s, 4, o⟩ } wx ∧ But (OneB b) w wx)
  case first =>
    go_wp2_with fail
    go_meet
    refine ⟨?_, (((But.refl (OneB b) w).drew).set ⟨b, _, none⟩ _ (.inl rfl))⟩
    have := H.out.drew.ssp hk 4
    rw [HC.out] at this; exact this
  case rest =>
    obtain ⟨h1, hG1⟩ := hcut
    rename World => w1
    have H1 := Lib.hid h1; have HG1 := Lib.hid hG1; clear h1 hG1 c0 f0
    obtain ⟨q, rfl⟩ : ∃ q : Nat, o = q := ⟨o.toNat, by omega⟩
    have hq : q < 16 := by omega
    have c1 : w1.cell? ⟨b, 33 + k * 3 + 2, none⟩ = some (.int .i64 (q : Nat)) := by have := H1.out.ot hk; simp only [updF_same] at this; exact this
    have f1 := H1.out.free (1 + q * 2)
    have c2 := H1.out.nx hq
    have q0 : (0 : Int) ≤ (q : Int) := by omega
    have q1 : (q : Int) < 16 := by omega
    clear ho
    go_wp2_with fail
    go_region
    go_wp2_with fail
    go_end0
    refine StepQ.mk rfl (by unfold stepL; rw [HC.out]) ?_ ((HG1.out.set ⟨b, _, none⟩ _ (.inl rfl)).drew)
    exact H1.out.snx hq (k : Int)
set_option maxRecDepth 100000 in
set_option maxHeartbeats 4000000 in
theorem mstp_4a {b : Nat} {D : Lk} {w : World} (k s : Nat) (o : Int) (h : LkM b D w) (hk : k < 16) (hc : D.cl k = ⟨s, 4, o⟩) (ht : D.wt k = false) :
    Calls Try.prog 86 #[.pointer (some ⟨b, 0, none⟩), .int .i64 k] w (StepQ b D k w) := by
  have c0 : w.cell? ⟨b, 33 + k * 3 + 1, none⟩ = some (.int .i64 4) := by have := h.sp hk; rw [hc] at this; exact this
  have f0 := h.free (33 + k * 3 + 1)
  have k0 : (0 : Int) ≤ (k : Int) := by omega
  have k1 : (k : Int) < 16 := by omega
  have H := Lib.hid h; have HC := Lib.hid hc; clear h hc
  go_enter Try.func86, Try.ntmps86
  go_wp2_with fail
  go_region
  go_upto_region 2 with fail
  go_cut [] (fun wx => LkM b { D with cl := updF D.cl k ⟨s, 5, o⟩ } wx ∧ But (OneB b) w wx)
  case first =>
    go_wp2_with fail
    go_meet
    refine ⟨?_, (((But.refl (OneB b) w).drew).set ⟨b, _, none⟩ _ (.inl rfl))⟩
    have := H.out.drew.ssp hk 5
    rw [HC.out] at this; exact this
  case rest =>
    obtain ⟨h1, hG1⟩ := hcut
    rename World => w1
    have H1 := Lib.hid h1; have HG1 := Lib.hid hG1; clear h1 hG1 c0 f0
    go_upto_region 15 with fail
    have f1 := H1.out.free (33 + k * 3 + 1)
    have c1 := H1.out.sp hk
    go_cut [] (fun wx => LkM b { D with cl := updF D.cl k ⟨s, 4, o⟩ } wx ∧ But (OneB b) w wx)
    case first =>
      go_wp2_with fail
      go_meet
      refine ⟨?_, HG1.out.set ⟨b, _, none⟩ _ (.inl rfl)⟩
      have := H1.out.ssp hk 4
      simp only [updF_same, updF_twice] at this
      exact this
    case rest =>
      obtain ⟨h2, hG2⟩ := hcut
      rename World => w2
      have H2 := Lib.hid h2; have HG2 := Lib.hid hG2; clear h2 hG2 f1 c1
      have c2 : w2.cell? ⟨b, 1 + k * 2 + 1, none⟩ = some (.bool false) := by have := H2.out.wt hk; simp only [ht] at this; exact this
      have f2 := H2.out.free (33 + k * 3)
      have c3 := H2.out.st hk
      go_wp2_with fail
      go_end0
      refine StepQ.mk (D' := { D with cl := updF D.cl k ⟨2, 4, o⟩ }) rfl (by unfold stepL; rw [HC.out] <;> simp [ht]) ?_ (HG2.out.set ⟨b, _, none⟩ _ (.inl rfl))
      have := H2.out.sst hk 2
      simp only [updF_same, updF_twice] at this
      exact this
set_option maxRecDepth 100000 in
set_option maxHeartbeats 4000000 in
theorem mstp_4b {b : Nat} {D : Lk} {w : World} (k s : Nat) (o : Int) (h : LkM b D w) (hk : k < 16) (hc : D.cl k = ⟨s, 4, o⟩) (ht : D.wt k = true) :
    Calls Try.prog 86 #[.pointer (some ⟨b, 0, none⟩), .int .i64 k] w (StepQ b D k w) := by
  have c0 : w.cell? ⟨b, 33 + k * 3 + 1, none⟩ = some (.int .i64 4) := by have := h.sp hk; rw [hc] at this; exact this
  have f0 := h.free (33 + k * 3 + 1)
  have k0 : (0 : Int) ≤ (k : Int) := by omega
  have k1 : (k : Int) < 16 := by omega
  have H := Lib.hid h; have HC := Lib.hid hc; clear h hc
  go_enter Try.func86, Try.ntmps86
  go_wp2_with fail
  go_region
  go_upto_region 2 with fail
  go_cut [] (fun wx => LkM b { D with cl := updF D.cl k ⟨s, 5, o⟩ } wx ∧ But (OneB b) w wx)
  case first =>
    go_wp2_with fail
    go_meet
    refine ⟨?_, (((But.refl (OneB b) w).drew).set ⟨b, _, none⟩ _ (.inl rfl))⟩
    have := H.out.drew.ssp hk 5
    rw [HC.out] at this; exact this
  case rest =>
    obtain ⟨h1, hG1⟩ := hcut
    rename World => w1
    have H1 := Lib.hid h1; have HG1 := Lib.hid hG1; clear h1 hG1 c0 f0
    go_upto_region 15 with fail
    have f1 := H1.out.free (33 + k * 3 + 1)
    have c1 := H1.out.sp hk
    go_cut [] (fun wx => LkM b { D with cl := updF D.cl k ⟨s, 4, o⟩ } wx ∧ But (OneB b) w wx)
    case first =>
      go_wp2_with fail
      go_meet
      refine ⟨?_, HG1.out.set ⟨b, _, none⟩ _ (.inl rfl)⟩
      have := H1.out.ssp hk 4
      simp only [updF_same, updF_twice] at this
      exact this
    case rest =>
      obtain ⟨h2, hG2⟩ := hcut
      rename World => w2
      have H2 := Lib.hid h2; have HG2 := Lib.hid hG2; clear h2 hG2 f1 c1
      have c2 : w2.cell? ⟨b, 1 + k * 2 + 1, none⟩ = some (.bool true) := by have := H2.out.wt hk; simp only [ht] at this; exact this
      have f2 := H2.out.free (33 + k * 3)
      have c3 := H2.out.st hk
      go_wp2_with fail
      go_end0
      exact StepQ.mk (D' := { D with cl := updF D.cl k ⟨s, 4, o⟩ }) rfl (by unfold stepL; rw [HC.out] <;> simp [ht]) H2.out HG2.out
set_option maxRecDepth 100000 in
set_option maxHeartbeats 4000000 in
theorem mstp_5a {b : Nat} {D : Lk} {w : World} (k s : Nat) (o : Int) (h : LkM b D w) (hk : k < 16) (hc : D.cl k = ⟨s, 5, o⟩) (ht : D.nx k = -1) :
    Calls Try.prog 86 #[.pointer (some ⟨b, 0, none⟩), .int .i64 k] w (StepQ b D k w) := by
  have c0 : w.cell? ⟨b, 33 + k * 3 + 1, none⟩ = some (.int .i64 5) := by have := h.sp hk; rw [hc] at this; exact this
  have f0 := h.free (33 + k * 3 + 1)
  have k0 : (0 : Int) ≤ (k : Int) := by omega
  have k1 : (k : Int) < 16 := by omega
  have HT := Lib.hid ht; clear ht
  have H := Lib.hid h; have HC := Lib.hid hc; clear h hc
  go_enter Try.func86, Try.ntmps86
  go_wp2_with fail
  go_region
  go_upto_region 2 with fail
  go_cut [] (fun wx => LkM b { D with cl := updF D.cl k ⟨s, 6, o⟩ } wx ∧ But (OneB b) w wx)
  case first =>
    go_wp2_with fail
    go_meet
    refine ⟨?_, (((But.refl (OneB b) w).drew).set ⟨b, _, none⟩ _ (.inl rfl))⟩
    have := H.out.drew.ssp hk 6
    rw [HC.out] at this; exact this
  case rest =>
    obtain ⟨h1, hG1⟩ := hcut
    rename World => w1
    have H1 := Lib.hid h1; have HG1 := Lib.hid hG1; clear h1 hG1 c0 f0
    go_upto_region 19 with fail
    have f1 := H1.out.free (33 + k * 3 + 2)
    have c1 := H1.out.ot hk
    have c2 : w1.cell? ⟨b, 1 + k * 2, none⟩ = some (.int .i64 (D.nx k)) := H1.out.nx hk
    go_cut [] (fun wx => LkM b { D with cl := updF D.cl k ⟨s, 6, D.nx k⟩ } wx ∧ But (OneB b) w wx)
    case first =>
      go_wp2_with fail
      go_meet
      refine ⟨?_, HG1.out.set ⟨b, _, none⟩ _ (.inl rfl)⟩
      have := H1.out.sot hk (D.nx k)
      simp only [updF_same, updF_twice] at this
      exact this
    case rest =>
      obtain ⟨h2, hG2⟩ := hcut
      rename World => w2
      have H2 := Lib.hid h2; have HG2 := Lib.hid hG2; clear h2 hG2 f1 c1 c2
      have ht := HT.out
      have c2 : w2.cell? ⟨b, 33 + k * 3 + 2, none⟩ = some (.int .i64 (-1)) := by have := H2.out.ot hk; simp only [updF_same] at this; rw [ht] at this; exact this
      go_wp2_with fail
      go_end0
      exact StepQ.mk (D' := { D with cl := updF D.cl k ⟨s, 6, D.nx k⟩ }) rfl (by unfold stepL; rw [HC.out] <;> simp [ht]) H2.out HG2.out
set_option maxRecDepth 100000 in
set_option maxHeartbeats 4000000 in
theorem mstp_5b {b : Nat} {D : Lk} {w : World} (k s : Nat) (o : Int) (h : LkM b D w) (hk : k < 16) (hc : D.cl k = ⟨s, 5, o⟩) (ht : D.nx k ≠ -1) :
    Calls Try.prog 86 #[.pointer (some ⟨b, 0, none⟩), .int .i64 k] w (StepQ b D k w) := by
  have c0 : w.cell? ⟨b, 33 + k * 3 + 1, none⟩ = some (.int .i64 5) := by have := h.sp hk; rw [hc] at this; exact this
  have f0 := h.free (33 + k * 3 + 1)
  have k0 : (0 : Int) ≤ (k : Int) := by omega
  have k1 : (k : Int) < 16 := by omega
  have H := Lib.hid h; have HC := Lib.hid hc; clear h hc
  go_enter Try.func86, Try.ntmps86
  go_wp2_with fail
  go_region
  go_upto_region 2 with fail
  go_cut [] (fun wx => LkM b { D with cl := updF D.cl k ⟨s, 6, o⟩ } wx ∧ But (OneB b) w wx)
  case first =>
    go_wp2_with fail
    go_meet
    refine ⟨?_, (((But.refl (OneB b) w).drew).set ⟨b, _, none⟩ _ (.inl rfl))⟩
    have := H.out.drew.ssp hk 6
    rw [HC.out] at this; exact this
  case rest =>
    obtain ⟨h1, hG1⟩ := hcut
    rename World => w1
    have H1 := Lib.hid h1; have HG1 := Lib.hid hG1; clear h1 hG1 c0 f0
    go_upto_region 19 with fail
    have f1 := H1.out.free (33 + k * 3 + 2)
    have c1 := H1.out.ot hk
    have c2 : w1.cell? ⟨b, 1 + k * 2, none⟩ = some (.int .i64 (D.nx k)) := H1.out.nx hk
    go_cut [] (fun wx => LkM b { D with cl := updF D.cl k ⟨s, 6, D.nx k⟩ } wx ∧ But (OneB b) w wx)
    case first =>
      go_wp2_with fail
      go_meet
      refine ⟨?_, HG1.out.set ⟨b, _, none⟩ _ (.inl rfl)⟩
      have := H1.out.sot hk (D.nx k)
      simp only [updF_same, updF_twice] at this
      exact this
    case rest =>
      obtain ⟨h2, hG2⟩ := hcut
      rename World => w2
      have H2 := Lib.hid h2; have HG2 := Lib.hid hG2; clear h2 hG2 f1 c1 c2
      have c2 : w2.cell? ⟨b, 33 + k * 3 + 2, none⟩ = some (.int .i64 (D.nx k)) := by have := H2.out.ot hk; simp only [updF_same] at this; exact this
      have t1 : (D.nx k == -1) = false := by simpa using ht
      have f2 := H2.out.free (33 + k * 3 + 1)
      have c3 := H2.out.sp hk
      go_wp2_with fail
      go_end0
      refine StepQ.mk (D' := { D with cl := updF D.cl k ⟨s, 7, D.nx k⟩ }) rfl (by unfold stepL; rw [HC.out] <;> simp [ht]) ?_ (HG2.out.set ⟨b, _, none⟩ _ (.inl rfl))
      have := H2.out.ssp hk 7
      simp only [updF_same, updF_twice] at this
      exact this
set_option maxRecDepth 100000 in
set_option maxHeartbeats 4000000 in
theorem mstp_6a {b : Nat} {D : Lk} {w : World} (k s : Nat) (o : Int) (h : LkM b D w) (hk : k < 16) (hc : D.cl k = ⟨s, 6, o⟩) (ht : D.tail = (k : Int)) :
    Calls Try.prog 86 #[.pointer (some ⟨b, 0, none⟩), .int .i64 k] w (StepQ b D k w) := by
  have c0 : w.cell? ⟨b, 33 + k * 3 + 1, none⟩ = some (.int .i64 6) := by have := h.sp hk; rw [hc] at this; exact this
  have f0 := h.free (33 + k * 3 + 1)
  have k0 : (0 : Int) ≤ (k : Int) := by omega
  have k1 : (k : Int) < 16 := by omega
  have H := Lib.hid h; have HC := Lib.hid hc; clear h hc
  go_enter Try.func86, Try.ntmps86
  go_wp2_with fail
  go_region
  go_upto_region 2 with fail
  go_cut [] (fun wx => LkM b { D with cl := updF D.cl k ⟨s, 7, o⟩ } wx ∧ But (OneB b) w wx)
  case first =>
    go_wp2_with fail
    go_meet
    refine ⟨?_, (((But.refl (OneB b) w).drew).set ⟨b, _, none⟩ _ (.inl rfl))⟩
    have := H.out.drew.ssp hk 7
    rw [HC.out] at this; exact this
  case rest =>
    obtain ⟨h1, hG1⟩ := hcut
    rename World => w1
    have H1 := Lib.hid h1; have HG1 := Lib.hid hG1; clear h1 hG1 c0 f0
    go_upto_region 23 with fail
    have f1 := H1.out.free (33 + k * 3 + 1)
    have c1 := H1.out.sp hk
    go_cut [] (fun wx => LkM b { D with cl := updF D.cl k ⟨s, 5, o⟩ } wx ∧ But (OneB b) w wx)
    case first =>
      go_wp2_with fail
      go_meet
      refine ⟨?_, HG1.out.set ⟨b, _, none⟩ _ (.inl rfl)⟩
      have := H1.out.ssp hk 5
      simp only [updF_same, updF_twice] at this
      exact this
    case rest =>
      obtain ⟨h2, hG2⟩ := hcut
      rename World => w2
      have H2 := Lib.hid h2; have HG2 := Lib.hid hG2; clear h2 hG2 f1 c1
      have c2 : w2.cell? ⟨b, 0, none⟩ = some (.int .i64 (k : Int)) := by have := H2.out.tail; simp only [ht] at this; exact this
      have f2 := H2.out.free 0
      have f3 := H2.out.free (33 + k * 3)
      have c3 := H2.out.st hk
      go_wp2_with fail
      go_end0
      refine StepQ.mk (D' := { D with tail := -1, cl := updF D.cl k ⟨0, 5, o⟩ }) rfl (by unfold stepL; rw [HC.out] <;> simp [ht]) ?_ ((HG2.out.set ⟨b, _, none⟩ _ (.inl rfl)).set ⟨b, _, none⟩ _ (.inl rfl))
      have := (H2.out.stail (-1)).sst hk 0
      simp only [updF_same, updF_twice] at this
      exact this
set_option maxRecDepth 100000 in
set_option maxHeartbeats 4000000 in
theorem mstp_6b {b : Nat} {D : Lk} {w : World} (k s : Nat) (o : Int) (h : LkM b D w) (hk : k < 16) (hc : D.cl k = ⟨s, 6, o⟩) (ht : D.tail ≠ (k : Int)) :
    Calls Try.prog 86 #[.pointer (some ⟨b, 0, none⟩), .int .i64 k] w (StepQ b D k w) := by
  have c0 : w.cell? ⟨b, 33 + k * 3 + 1, none⟩ = some (.int .i64 6) := by have := h.sp hk; rw [hc] at this; exact this
  have f0 := h.free (33 + k * 3 + 1)
  have k0 : (0 : Int) ≤ (k : Int) := by omega
  have k1 : (k : Int) < 16 := by omega
  have H := Lib.hid h; have HC := Lib.hid hc; clear h hc
  go_enter Try.func86, Try.ntmps86
  go_wp2_with fail
  go_region
  go_upto_region 2 with fail
  go_cut [] (fun wx => LkM b { D with cl := updF D.cl k ⟨s, 7, o⟩ } wx ∧ But (OneB b) w wx)
  case first =>
    go_wp2_with fail
    go_meet
    refine ⟨?_, (((But.refl (OneB b) w).drew).set ⟨b, _, none⟩ _ (.inl rfl))⟩
    have := H.out.drew.ssp hk 7
    rw [HC.out] at this; exact this
  case rest =>
    obtain ⟨h1, hG1⟩ := hcut
    rename World => w1
    have H1 := Lib.hid h1; have HG1 := Lib.hid hG1; clear h1 hG1 c0 f0
    go_upto_region 23 with fail
    have f1 := H1.out.free (33 + k * 3 + 1)
    have c1 := H1.out.sp hk
    go_cut [] (fun wx => LkM b { D with cl := updF D.cl k ⟨s, 5, o⟩ } wx ∧ But (OneB b) w wx)
    case first =>
      go_wp2_with fail
      go_meet
      refine ⟨?_, HG1.out.set ⟨b, _, none⟩ _ (.inl rfl)⟩
      have := H1.out.ssp hk 5
      simp only [updF_same, updF_twice] at this
      exact this
    case rest =>
      obtain ⟨h2, hG2⟩ := hcut
      rename World => w2
      have H2 := Lib.hid h2; have HG2 := Lib.hid hG2; clear h2 hG2 f1 c1
      have c2 : w2.cell? ⟨b, 0, none⟩ = some (.int .i64 D.tail) := H2.out.tail
      have t1 : (D.tail == (k : Int)) = false := by simpa using ht
      go_wp2_with fail
      go_end0
      exact StepQ.mk (D' := { D with cl := updF D.cl k ⟨s, 5, o⟩ }) rfl (by unfold stepL; rw [HC.out] <;> simp [ht]) H2.out HG2.out
set_option maxRecDepth 100000 in
set_option maxHeartbeats 4000000 in
theorem mstp_7 {b : Nat} {D : Lk} {w : World} (k s : Nat) (o : Int) (h : LkM b D w) (hk : k < 16) (hc : D.cl k = ⟨s, 7, o⟩) (ho : 0 ≤ o ∧ o < 16) :
    Calls Try.prog 86 #[.pointer (some ⟨b, 0, none⟩), .int .i64 k] w (StepQ b D k w) := by
  have c0 : w.cell? ⟨b, 33 + k * 3 + 1, none⟩ = some (.int .i64 7) := by have := h.sp hk; rw [hc] at this; exact this
  have f0 := h.free (33 + k * 3 + 1)
  have k0 : (0 : Int) ≤ (k : Int) := by omega
  have k1 : (k : Int) < 16 := by omega
  have H := Lib.hid h; have HC := Lib.hid hc; clear h hc
  go_enter Try.func86, Try.ntmps86
  go_wp2_with fail
  go_region
  go_upto_region 2 with fail
  go_cut [] (fun wx => LkM b { D with cl := updF D.cl k ⟨s, 8, o⟩ } wx ∧ But (OneB b) w wx)
  case first =>
    go_wp2_with fail
    go_meet
    refine ⟨?_, (((But.refl (OneB b) w).drew).set ⟨b, _, none⟩ _ (.inl rfl))⟩
    have := H.out.drew.ssp hk 8
    rw [HC.out] at this; exact this
  case rest =>
    obtain ⟨h1, hG1⟩ := hcut
    rename World => w1
    have H1 := Lib.hid h1; have HG1 := Lib.hid hG1; clear h1 hG1 c0 f0
    obtain ⟨q, rfl⟩ : ∃ q : Nat, o = q := ⟨o.toNat, by omega⟩
    have hq : q < 16 := by omega
    have c1 : w1.cell? ⟨b, 33 + k * 3 + 2, none⟩ = some (.int .i64 (q : Nat)) := by have := H1.out.ot hk; simp only [updF_same] at this; exact this
    have f1 := H1.out.free (1 + q * 2 + 1)
    have c2 := H1.out.wt hq
    have q0 : (0 : Int) ≤ (q : Int) := by omega
    have q1 : (q : Int) < 16 := by omega
    clear ho
    go_upto_region 27 with (fail)
    go_cut [] (fun wx => LkM b { D with wt := updF D.wt q false, cl := updF D.cl k ⟨s, 8, (q : Int)⟩ } wx ∧ But (OneB b) w wx)
    case first =>
      first | go_region | (go_wp2_with fail; go_region)
      go_wp2_with fail
      go_meet
      refine ⟨?_, (HG1.out.set ⟨b, _, none⟩ _ (.inl rfl)).drew⟩
      exact H1.out.swt hq false
    case rest =>
      obtain ⟨h2, hG2⟩ := hcut
      rename World => w2
      have H2 := Lib.hid h2; have HG2 := Lib.hid hG2; clear h2 hG2 f1 c1 c2
      have f2 := H2.out.free (33 + k * 3)
      have c3 := H2.out.st hk
      go_wp2_with fail
      go_end0
      refine StepQ.mk rfl (by unfold stepL; rw [HC.out]) ?_ (HG2.out.set ⟨b, _, none⟩ _ (.inl rfl))
      have := H2.out.sst hk 0
      simp only [updF_same, updF_twice] at this
      exact this
theorem mstp_any {b : Nat} {D : Lk} {w : World} (k : Nat) (h : LkM b D w) (hn : Nice D) (hk : k < D.n) (ha : (D.cl k).st = 1 ∨ (D.cl k).st = 3) :
    Calls Try.prog 86 #[.pointer (some ⟨b, 0, none⟩), .int .i64 k] w (StepQ b D k w) := by
  have K := hn.each k hk
  have k1 := K.s1; have k3 := K.s3; have ko1 := K.o1; have ko3 := K.o3
  have n2 := hn.n2
  have hk' : k < 16 := by omega
  obtain ⟨s, p, o, hc⟩ : ∃ s p o, D.cl k = ⟨s, p, o⟩ := ⟨_, _, _, rfl⟩
  simp only [hc] at ha k1 k3 ko1 ko3
  match p, hc with
  | 0, hc => exact mstp_0 k s o h hk' hc
  | 1, hc => exact mstp_1 k s o h hk' hc
  | 2, hc => by_cases ht : D.tail = -1
             · exact mstp_2a k s o h hk' hc ht
             · exact mstp_2b k s o h hk' hc ht
  | 3, hc => exact mstp_3 k s o h hk' hc (by omega)
  | 4, hc => cases ht : D.wt k with
             | false => exact mstp_4a k s o h hk' hc ht
             | true => exact mstp_4b k s o h hk' hc ht
  | 5, hc => by_cases ht : D.nx k = -1
             · exact mstp_5a k s o h hk' hc ht
             · exact mstp_5b k s o h hk' hc ht
  | 6, hc => by_cases ht : D.tail = (k : Int)
             · exact mstp_6a k s o h hk' hc ht
             · exact mstp_6b k s o h hk' hc ht
  | 7, hc => exact mstp_7 k s o h hk' hc (by omega)
  | p + 8, hc => omega
end Go.Proofs.Ytckdabokaelnoaa
