/- A shared row: Step. -/
import Derived.Test.YtfejimlfnelhhaaSt
import Derived.Test.YtfejimlfnelhhaaSu
import Derived.Test.YtfejimlfnelhhaaSw
import Derived.Test.YtfejimlfnelhhaaSx
namespace Go.Proofs.Ytfejimlfnelhhaa
open Go.RowKit

section
variable {b : Nat} {D : Dq} {w : World}
theorem step_any {n : Nat} (k : Nat) (h : DqV b D w) (hN : Nice D n) (hn : n ≤ 900000) (hk : k ≤ D.th) (hb : (D.cl k).nx ≠ 0) :
    Calls Try.prog 41 #[.pointer (some ⟨b, 0, none⟩), .pointer (some ⟨b, 67 + k * 5, none⟩)] w (StepP b D k w) := by
  have hk9 : k < 9 := by have := hN.th; omega
  have t0 := hN.t0; have t1 := hN.t1; have b1 := hN.b1; have b0 := hN.bot
  obtain ⟨c, hc⟩ : ∃ c, D.cl k = c := ⟨_, rfl⟩
  obtain ⟨nx, u, t, x, q⟩ := c
  rw [hc] at hb
  by_cases k0 : k = 0
  · subst k0
    have wk := hN.wk; have w0 := hN.w0; have w2 := hN.w2; have w6 := hN.w6; have w7 := hN.w7
    rw [hc] at wk w0 w2 w6 w7
    dsimp only at wk w0 w2 w6 w7 hb
    match nx, hb, wk with
    | 1, _, _ => exact step_1 0 u t x q h hk9 hc
    | 2, _, _ => exact step_2 0 u t x q h hk9 hc (by have := w2 (by omega) (by omega); omega) (by omega)
    | 3, _, _ => exact step_3 0 u t x q h hk9 hc hN.r1 hN.r2 (by have := w2 (by omega) (by omega); omega)
    | 4, _, _ => exact step_4 0 u t x q h hk9 hc (by have := w2 (by omega) (by omega); omega)
    | 5, _, _ => exact step_5 0 u t x q h hk9 hc (by have := w0 (by omega); omega)
    | 6, _, _ => exact step_6 0 u t x q h hk9 hc
    | 7, _, _ => exact step_7 0 u t x q h hk9 hc hN.r1 hN.r2 (by have := w6 (by omega); have := w7 (by omega) (by omega); omega)
    | 8, _, _ => exact step_8 0 u t x q h hk9 hc (by have := w6 (by omega); have := w7 (by omega) (by omega); omega)
    | 9, _, _ => exact step_9 0 u t x q h hk9 hc (by have := w6 (by omega); omega)
    | 0, hb, _ => exact absurd rfl hb
    | m + 10, _, wk => exact absurd wk (by omega)
  · have tk := hN.tk k (by omega); have t11 := hN.t11 k (by omega)
    rw [hc] at tk t11
    dsimp only at tk t11 hb
    have hq : nx = 10 ∨ nx = 11 ∨ nx = 12 ∨ nx = 13 := by omega
    rcases hq with rfl | rfl | rfl | rfl
    · exact step_10 k u t x q h hk9 hc
    · exact step_11 k u t x q h hk9 hc
    · exact step_12 k u t x q h hk9 hc hN.r1 hN.r2 (by have := t11 (by omega); omega)
    · exact step_13 k u t x q h hk9 hc (by have := t11 (by omega); omega)
/-- What Step tells, and does. -/
def StepQ (b : Nat) (w : World) (dn : Bool) (how : Int) (x : Int) (err : Int) (D' : Dq) (e : Ending) (w' : World) : Prop :=
  e = .returned (.tuple #[.agg #[.bool dn, .int .i64 how, .int .i64 x], .int .i64 err]) ∧ DqV b D' w' ∧ But (OneB b) w w'
set_option maxRecDepth 100000 in
set_option maxHeartbeats 2000000 in
theorem dstep_out {p : Option Addr} (k : Int) (hi : ∀ W, But Nob w W → Calls Try.prog 40 #[.pointer p, .int .i64 k] W fun e w' => e = .returned (.bool false) ∧ W = w') :
    Calls Try.prog 16 #[.pointer p, .int .i64 k] w fun e w' => e = .returned (.tuple #[.agg #[.bool false, .int .i64 0, .int .i64 0], .int .i64 1]) ∧ But Nob w w' := by
  have HI := Lib.hid (hi _ ((But.refl Nob w).alloc (.cells #[.bool false, .int .i64 0, .int .i64 0] 44)))
  clear hi
  go_enter Try.func16, Try.ntmps16
  go_wp2_with (first
    | (go_at_call 40; (with_reducible refine HI.out.mono ?_); rintro e wq ⟨rfl, rfl⟩))
  exact bodyPost_ret (v := .tuple #[.agg #[.bool false, .int .i64 0, .int .i64 0], .int .i64 1]) (by simp [results, Try.results16, go_sem]) rfl ⟨rfl, (But.refl _ _).alloc _⟩
set_option maxRecDepth 100000 in
set_option maxHeartbeats 2000000 in
theorem dstep_idle (k : Nat) (h : DqV b D w) (hk : k ≤ D.th) (ht : D.th ≤ 8) (hn : (D.cl k).nx = 0) :
    Calls Try.prog 16 #[.pointer (some ⟨b, 0, none⟩), .int .i64 k] w fun e w' => e = .returned (.tuple #[.agg #[.bool false, .int .i64 0, .int .i64 0], .int .i64 5]) ∧ But Nob w w' := by
  have h' := h.but ((But.refl Nob w).alloc (.cells #[.bool false, .int .i64 0, .int .i64 0] 44)) (fun x => x)
  have hi := is_any (k : Int) h'
  have hbz := busy_in k h' hk ht
  rw [inS_yes (by omega)] at hi
  rw [show busyB D k = false by simp [busyB, hn]] at hbz
  have HI := Lib.hid hi; have HB := Lib.hid hbz
  clear h h' hi hbz hn
  go_enter Try.func16, Try.ntmps16
  go_wp2_with (first
    | (go_at_call 40; (with_reducible refine HI.out.mono ?_); rintro e wq ⟨rfl, rfl⟩)
    | (go_at_call 13; (with_reducible refine HB.out.mono ?_); rintro e wq ⟨rfl, rfl⟩))
  exact bodyPost_ret (v := .tuple #[.agg #[.bool false, .int .i64 0, .int .i64 0], .int .i64 5]) (by simp [results, Try.results16, go_sem]) rfl ⟨rfl, (But.refl _ _).alloc _⟩
theorem step_end {w2 : World} {E : Dq} {c : Cl} {f : Nat → Cl} {k : Nat} (hk : k < 9) (hlt : b < w.heap.size) (h2 : DqV b { E with cl := updC f k c } w2) (hg : But (OneB b) w w2) (hr : Blk w2 w.heap.size 44 #[.bool false, .int .i64 0, .int .i64 0]) (h x : Int) (o : Obj) :
    DqV b { E with cl := updC f k Cl.out } (((((((((w2.setCell ⟨b, 67 + k * 5, none⟩ (.int .i64 0)).setCell ⟨b, 67 + k * 5 + 1, none⟩ (.int .i64 0)).setCell ⟨b, 67 + k * 5 + 2, none⟩ (.int .i64 0)).setCell ⟨b, 67 + k * 5 + 3, none⟩ (.int .i64 0)).setCell ⟨b, 67 + k * 5 + 4, none⟩ (.bool false)).setCell ⟨w.heap.size, 0, none⟩ (.bool true)).setCell ⟨w.heap.size, 1, none⟩ (.int .i64 h)).setCell ⟨w.heap.size, 2, none⟩ (.int .i64 x)).alloc o) ∧
    But (OneB b) w (((((((((w2.setCell ⟨b, 67 + k * 5, none⟩ (.int .i64 0)).setCell ⟨b, 67 + k * 5 + 1, none⟩ (.int .i64 0)).setCell ⟨b, 67 + k * 5 + 2, none⟩ (.int .i64 0)).setCell ⟨b, 67 + k * 5 + 3, none⟩ (.int .i64 0)).setCell ⟨b, 67 + k * 5 + 4, none⟩ (.bool false)).setCell ⟨w.heap.size, 0, none⟩ (.bool true)).setCell ⟨w.heap.size, 1, none⟩ (.int .i64 h)).setCell ⟨w.heap.size, 2, none⟩ (.int .i64 x)).alloc o) ∧
    Blk (((((((((w2.setCell ⟨b, 67 + k * 5, none⟩ (.int .i64 0)).setCell ⟨b, 67 + k * 5 + 1, none⟩ (.int .i64 0)).setCell ⟨b, 67 + k * 5 + 2, none⟩ (.int .i64 0)).setCell ⟨b, 67 + k * 5 + 3, none⟩ (.int .i64 0)).setCell ⟨b, 67 + k * 5 + 4, none⟩ (.bool false)).setCell ⟨w.heap.size, 0, none⟩ (.bool true)).setCell ⟨w.heap.size, 1, none⟩ (.int .i64 h)).setCell ⟨w.heap.size, 2, none⟩ (.int .i64 x)).alloc o) w.heap.size 44 #[.bool true, .int .i64 h, .int .i64 x] := by
  have hzb : w.heap.size ≠ b := by omega
  have a1 : DqV b { E with cl := updC f k Cl.out } (((((w2.setCell ⟨b, 67 + k * 5, none⟩ (.int .i64 0)).setCell ⟨b, 67 + k * 5 + 1, none⟩ (.int .i64 0)).setCell ⟨b, 67 + k * 5 + 2, none⟩ (.int .i64 0)).setCell ⟨b, 67 + k * 5 + 3, none⟩ (.int .i64 0)).setCell ⟨b, 67 + k * 5 + 4, none⟩ (.bool false)) := by
    have := h2.sall hk 0 0 0 0 false
    simp only [updC_twice] at this
    exact this
  have a2 : But (OneB b) w (((((w2.setCell ⟨b, 67 + k * 5, none⟩ (.int .i64 0)).setCell ⟨b, 67 + k * 5 + 1, none⟩ (.int .i64 0)).setCell ⟨b, 67 + k * 5 + 2, none⟩ (.int .i64 0)).setCell ⟨b, 67 + k * 5 + 3, none⟩ (.int .i64 0)).setCell ⟨b, 67 + k * 5 + 4, none⟩ (.bool false)) :=
    ((((hg.set ⟨b, 67 + k * 5, none⟩ _ (.inl rfl)).set ⟨b, 67 + k * 5 + 1, none⟩ _ (.inl rfl)).set ⟨b, 67 + k * 5 + 2, none⟩ _ (.inl rfl)).set ⟨b, 67 + k * 5 + 3, none⟩ _ (.inl rfl)).set ⟨b, 67 + k * 5 + 4, none⟩ _ (.inl rfl)
  have a3 : Blk (((((w2.setCell ⟨b, 67 + k * 5, none⟩ (.int .i64 0)).setCell ⟨b, 67 + k * 5 + 1, none⟩ (.int .i64 0)).setCell ⟨b, 67 + k * 5 + 2, none⟩ (.int .i64 0)).setCell ⟨b, 67 + k * 5 + 3, none⟩ (.int .i64 0)).setCell ⟨b, 67 + k * 5 + 4, none⟩ (.bool false)) w.heap.size 44 #[.bool false, .int .i64 0, .int .i64 0] :=
    ((((hr.far (p := ⟨b, 67 + k * 5, none⟩) hzb _).far (p := ⟨b, 67 + k * 5 + 1, none⟩) hzb _).far (p := ⟨b, 67 + k * 5 + 2, none⟩) hzb _).far (p := ⟨b, 67 + k * 5 + 3, none⟩) hzb _).far (p := ⟨b, 67 + k * 5 + 4, none⟩) hzb _
  generalize (((((w2.setCell ⟨b, 67 + k * 5, none⟩ (.int .i64 0)).setCell ⟨b, 67 + k * 5 + 1, none⟩ (.int .i64 0)).setCell ⟨b, 67 + k * 5 + 2, none⟩ (.int .i64 0)).setCell ⟨b, 67 + k * 5 + 3, none⟩ (.int .i64 0)).setCell ⟨b, 67 + k * 5 + 4, none⟩ (.bool false)) = W at *
  have hx : ∀ o v W, But (OneB b) w W → But (OneB b) w (W.setCell ⟨w.heap.size, o, none⟩ v) := fun o v W hW => hW.set _ _ (.inr (Nat.le_refl _))
  have hy : ∀ o v W, DqV b { E with cl := updC f k Cl.out } W → DqV b { E with cl := updC f k Cl.out } (W.setCell ⟨w.heap.size, o, none⟩ v) := fun o v W hW => hW.but (X := fun j => j = w.heap.size) ((But.refl _ _).set _ _ (.inl rfl)) (by omega)
  refine ⟨(hy _ _ _ (hy _ _ _ (hy _ _ _ a1))).but ((But.refl Nob _).alloc _) (fun x => x), (hx _ _ _ (hx _ _ _ (hx _ _ _ a2))).alloc _, Blk.alloc ?_ _⟩
  simpa using ((a3.set_ 0 (.bool true)).set_ 1 (.int .i64 h)).set_ 2 (.int .i64 x)
set_option maxRecDepth 100000 in
set_option maxHeartbeats 4000000 in
theorem dstep_busy {n : Nat} (k : Nat) (h : DqV b D w) (hN : Nice D n) (hn : n ≤ 900000) (hk : k ≤ D.th) (hb : (D.cl k).nx ≠ 0) :
    Calls Try.prog 16 #[.pointer (some ⟨b, 0, none⟩), .int .i64 k] w (StepQ b w (decide (howD D k ≠ 0)) (howD D k) (gotD D k) 0 (stepD D k)) := by
  have ht := hN.th
  have h' := h.but ((But.refl Nob w).alloc (.cells #[.bool false, .int .i64 0, .int .i64 0] 44)) (fun x => x)
  have hi := is_any (k : Int) h'
  have hbz := busy_in k h' hk ht
  rw [inS_yes (by omega)] at hi
  rw [show busyB D k = true by simp [busyB, hb]] at hbz
  have hst := step_any k h' hN hn hk hb
  have k0 : (0 : Int) ≤ (k : Int) := by omega
  have k1 : (k : Int) < 9 := by omega
  have k9 : k < 9 := by omega
  have hlt := h.lt
  have HI := Lib.hid hi; have HB := Lib.hid hbz; have HS := Lib.hid hst
  clear h h' hi hbz hb hst
  go_enter Try.func16, Try.ntmps16
  go_wp2_with (first
    | (go_at_call 40; (with_reducible refine HI.out.mono ?_); rintro e wq ⟨rfl, rfl⟩)
    | (go_at_call 13; (with_reducible refine HB.out.mono ?_); rintro e wq ⟨rfl, rfl⟩))
  refine HS.out.mono ?_
  rintro e w2 ⟨rfl, h2, hG2⟩
  have hg : But (OneB b) w w2 := ((But.refl (OneB b) w).alloc _).trans hG2
  have hr : Blk w2 w.heap.size 44 #[.bool false, .int .i64 0, .int .i64 0] := (Blk.new w _ _).but hG2 (by show ¬ _ = b; omega)
  clear hG2 HI HB HS
  have hd : stepD D k = { (stepW D (D.cl k)).2.1 with cl := updC D.cl k (if (stepW D (D.cl k)).1 = 0 then (stepW D (D.cl k)).2.2 else Cl.out) } := rfl
  have hh : howD D k = (stepW D (D.cl k)).1 := rfl
  have hgot : gotD D k = if (stepW D (D.cl k)).1 = 1 then (stepW D (D.cl k)).2.2.x else 0 := rfl
  generalize stepW D (D.cl k) = s at *
  obtain ⟨how, E, c⟩ := s
  dsimp only at h2 hd hh hgot ⊢
  have HD := Lib.hid hd; have HH := Lib.hid hh; have HGOT := Lib.hid hgot
  have r0 := hr.cell 0; have r1 := hr.cell 1; have r2 := hr.cell 2
  have rf := hr.free
  have z2 := hr.lt
  simp only [List.getElem?_toArray, List.getElem?_cons_zero, List.getElem?_cons_succ] at r0 r1 r2
  by_cases q0 : how = 0
  · subst q0
    have H2 := Lib.hid h2; have HG := Lib.hid hg; have HR := Lib.hid hr
    clear h2 hg hd hh hgot hr
    go_wp2_with fail
    have hB : Blk (((w2.setCell ⟨w.heap.size, 0, none⟩ (.bool false)).setCell ⟨w.heap.size, 1, none⟩ (.int .i64 0)).setCell ⟨w.heap.size, 2, none⟩ (.int .i64 0)) w.heap.size 44 #[.bool false, .int .i64 0, .int .i64 0] := by
      simpa using ((HR.out.set_ 0 (.bool false)).set_ 1 (.int .i64 0)).set_ 2 (.int .i64 0)
    have q0 := hB.cell 0; have q1 := hB.cell 1; have q2 := hB.cell 2
    simp only [List.getElem?_toArray, List.getElem?_cons_zero, List.getElem?_cons_succ] at q0 q1 q2
    refine bodyPost_ret (v := .tuple #[.agg #[.bool false, .int .i64 0, .int .i64 0], .int .i64 0]) ?_ rfl ?_
    · simp [results, Try.results16, go_sem, q0, q1, q2]
    · have hx : ∀ o v W, But (OneB b) w W → But (OneB b) w (W.setCell ⟨w.heap.size, o, none⟩ v) := fun o v W hW => hW.set _ _ (.inr (Nat.le_refl _))
      unfold StepQ
      rw [HD.out, HH.out, HGOT.out]
      refine ⟨rfl, ?_, hx _ _ _ (hx _ _ _ (hx _ _ _ HG.out))⟩
      have hy : ∀ o v W, DqV b { E with cl := updC D.cl k c } W → DqV b { E with cl := updC D.cl k c } (W.setCell ⟨w.heap.size, o, none⟩ v) := fun o v W hW => hW.but (X := fun j => j = w.heap.size) ((But.refl _ _).set _ _ (.inl rfl)) (by omega)
      exact hy _ _ _ (hy _ _ _ (hy _ _ _ H2.out))
  · have tq0 : (((how : Nat) : Int) == 0) = false := by simp; omega
    have e0 := h2.c0 k9; have e1 := h2.c1 k9; have e2 := h2.c2 k9; have e3 := h2.c3 k9; have e4 := h2.c4 k9
    have ef := h2.free
    have hb2 := h2.lt
    simp only [updC_same] at e0 e1 e2 e3 e4
    have hzb : b ≠ w.heap.size := by omega
    have HRz := Lib.hid hr
    by_cases q1 : how = 1
    · subst q1
      have H2 := Lib.hid h2; have HG := Lib.hid hg
      clear h2 hg hd hh hgot hr q0
      go_wp2_with fail
      obtain ⟨f1, f2, hB⟩ := step_end (k := k) k9 hlt H2.out HG.out HRz.out 1 (c.x) (.cells #[.bool true, .int .i64 (1), .int .i64 (c.x)] 44)
      have F1 := Lib.hid f1; have F2 := Lib.hid f2
      clear f1 f2
      have q0 := hB.cell 0; have q1 := hB.cell 1; have q2 := hB.cell 2
      simp only [List.getElem?_toArray, List.getElem?_cons_zero, List.getElem?_cons_succ] at q0 q1 q2
      refine bodyPost_ret (v := .tuple #[.agg #[.bool true, .int .i64 (1), .int .i64 (c.x)], .int .i64 0]) ?_ rfl ?_
      · simp [results, Try.results16, go_sem, q0, q1, q2]
      · unfold StepQ
        rw [HD.out, HH.out, HGOT.out]
        show _ = Ending.returned (.tuple #[.agg #[.bool true, .int .i64 1, .int .i64 c.x], .int .i64 0]) ∧ DqV b { E with cl := updC D.cl k Cl.out } _ ∧ _
        exact ⟨rfl, F1.out, F2.out⟩
    · have tq1 : (((how : Nat) : Int) == 1) = false := by simp; omega
      have H2 := Lib.hid h2; have HG := Lib.hid hg; have Q0 := Lib.hid q0; have Q1 := Lib.hid q1
      clear h2 hg hd hh hgot hr q0 q1
      go_wp2_with fail
      obtain ⟨f1, f2, hB⟩ := step_end (k := k) k9 hlt H2.out HG.out HRz.out (how : Nat) (0) (.cells #[.bool true, .int .i64 ((how : Nat)), .int .i64 (0)] 44)
      have F1 := Lib.hid f1; have F2 := Lib.hid f2
      clear f1 f2
      have q0 := hB.cell 0; have q1 := hB.cell 1; have q2 := hB.cell 2
      simp only [List.getElem?_toArray, List.getElem?_cons_zero, List.getElem?_cons_succ] at q0 q1 q2
      refine bodyPost_ret (v := .tuple #[.agg #[.bool true, .int .i64 ((how : Nat)), .int .i64 (0)], .int .i64 0]) ?_ rfl ?_
      · simp [results, Try.results16, go_sem, q0, q1, q2]
      · unfold StepQ
        rw [HD.out, HH.out, HGOT.out]
        rw [if_neg Q1.out, if_neg Q0.out, decide_eq_true Q0.out]
        exact ⟨rfl, F1.out, F2.out⟩
end
end Go.Proofs.Ytfejimlfnelhhaa
