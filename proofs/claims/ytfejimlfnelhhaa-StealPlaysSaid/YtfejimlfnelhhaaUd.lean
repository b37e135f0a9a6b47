/- Layer 28's law file: do, on both rows. -/
import Derived.Test.YtfejimlfnelhhaaUc
import Derived.Deep.RegionHeld3
namespace Go.Proofs.Ytfejimlfnelhhaa
open Go.RowKit

/-- The code's row and the document's, made behind the world w0. -/
structure Both (w0 : World) (b rb gs gp : Nat) (D : Dq) (n : Nat) (w : World) : Prop where
  l : Ld w0 b D n w
  r : RfD rb gs gp D w
  new : ∀ k, OwnR rb gs gp k → w0.heap.size ≤ k
  sep : ¬ OwnR rb gs gp b
section
variable {w0 : World} {b rb gs gp n : Nat} {D : Dq} {w w' : World}
theorem Both.nob (h : Both w0 b rb gs gp D n w) (hb : But Nob w w') : Both w0 b rb gs gp D n w' := ⟨h.l.nob hb, h.r.but hb fun _ _ q => q, h.new, h.sep⟩
/-- The document's row does what the code's row did. -/
theorem Both.both {D' : Dq} {m : Nat} {w1 w2 : World} (h : Both w0 b rb gs gp D n w) (hl : Ld w0 b D' m w1) (_ : But (OneB b) w w1) (hr : RfD rb gs gp D' w2) (h2 : But (OwnR rb gs gp) w1 w2) : Both w0 b rb gs gp D' m w2 :=
  ⟨⟨hl.v.but h2 h.sep, hl.nice, hl.old.step h2 fun k hk q => by have := h.new k q; omega, hl.new⟩, hr, h.new, h.sep⟩
theorem Both.far {D' : Dq} {m : Nat} {w1 : World} (h : Both w0 b rb gs gp D n w) (_ : Ld w0 b D' m w1) (h1 : But (OneB b) w w1) : RfD rb gs gp D w1 := h.r.but h1 fun k hk q => h.sep (by have : k = b := q; rw [← this]; exact hk)
end
/-- What one of the law's doings does. -/
def doD (D : Dq) (K : Nat) (I X : Int) : Dq := if K % 8 = 0 then beginR D 0 1 X else if K % 8 = 1 then beginR D 0 5 0 else if K % 8 = 2 then stealR D I else stR D I
def DoB (w0 : World) (b rb gs gp : Nat) (D' : Dq) (n : Nat) (w : World) (e : Ending) (w' : World) : Prop := e = .returned (.bool true) ∧ Both w0 b rb gs gp D' (n + 1) w' ∧ ∀ g, g < w.heap.size → ¬ OneB b g → ¬ OwnR rb gs gp g → w'.heap[g]? = w.heap[g]?
theorem beq_self (x : Int) : (x == x) = true := by simp
section
variable {w0 : World} {b rb gs gp n : Nat} {D : Dq} {w : World}
set_option maxRecDepth 100000 in
set_option maxHeartbeats 8000000 in
theorem do28_1 (K : Nat) (I X : Int) (h : Both w0 b rb gs gp D n w) (hk : K % 8 = 1) :
    Calls Try.prog 11 #[.pointer (some ⟨b, 0, none⟩), .pointer (some ⟨rb, 0, none⟩), .agg #[.int .u64 K, .int .i64 I, .int .i64 X]] w (DoB w0 b rb gs gp (doD D K I X) n w) := by
  have hd : doD D K I X = beginR D 0 5 0 := by unfold doD; rw [if_neg (by omega), if_pos hk]
  rw [hd]
  have hm1 : (K : Int).tmod 8 = 1 := by rw [Int.tmod_eq_emod_of_nonneg (by omega)]; omega
  have hm2 : (K : Int) % 8 = 1 := by omega
  have hA := h.nob ((But.refl Nob w).alloc (.cells #[.int .u64 K, .int .i64 I, .int .i64 X] 29))
  have hG : But Nob w (w.alloc (.cells #[.int .u64 K, .int .i64 I, .int .i64 X] 29)) := (But.refl _ _).alloc _
  have hx := Blk.new w 29 #[.int .u64 K, .int .i64 I, .int .i64 X]
  have x0 := hx.cell 0; have x1 := hx.cell 1; have x2 := hx.cell 2
  simp only [List.getElem?_toArray, List.getElem?_cons_zero, List.getElem?_cons_succ] at x0 x1 x2
  have tq := beq_self (beginE D 0)
  have P := Lib.hid (pop_ld hA.l)
  have HA := Lib.hid hA; have HG := Lib.hid hG
  clear h hA hG hx hd
  go_enter Try.func11, Try.ntmps11
  go_wp2_with fail
  refine P.out.mono ?_
  rintro e w1 ⟨rfl, h1, hg1⟩
  have P2 := Lib.hid (refpop_any (HA.out.far h1 hg1))
  have H1 := Lib.hid h1; have HG1 := Lib.hid hg1
  clear h1 hg1 P
  go_wp2_with fail
  refine P2.out.mono ?_
  rintro e w2 ⟨rfl, h2, hg2⟩
  have HB := Lib.hid (HA.out.both H1.out HG1.out h2 hg2); have HG2 := Lib.hid hg2
  clear h2 hg2 P2
  go_wp2_with fail
  go_ret
  refine ⟨rfl, ⟨⟨HB.out.l.v, HB.out.l.nice.mono (by omega), HB.out.l.old, HB.out.l.new⟩, HB.out.r, HB.out.new, HB.out.sep⟩, fun g h0 ha hb => ?_⟩
  exact (HG2.out.block g (Nat.lt_of_lt_of_le h0 (Nat.le_trans HG.out.size HG1.out.size)) hb).trans ((HG1.out.block g (Nat.lt_of_lt_of_le h0 HG.out.size) ha).trans (HG.out.block g h0 id))
set_option maxRecDepth 100000 in
set_option maxHeartbeats 8000000 in
theorem do28_3 (K : Nat) (I X : Int) (h : Both w0 b rb gs gp D n w) (hk : 3 ≤ K % 8) (hn : n ≤ 900000) :
    Calls Try.prog 11 #[.pointer (some ⟨b, 0, none⟩), .pointer (some ⟨rb, 0, none⟩), .agg #[.int .u64 K, .int .i64 I, .int .i64 X]] w (DoB w0 b rb gs gp (doD D K I X) n w) := by
  have hd : doD D K I X = stR D I := by unfold doD; rw [if_neg (by omega), if_neg (by omega), if_neg (by omega)]
  rw [hd]
  obtain ⟨kd, hkd⟩ : ∃ kd, kd = K % 8 := ⟨_, rfl⟩
  have hm1 : (K : Int).tmod 8 = (kd : Int) := by rw [Int.tmod_eq_emod_of_nonneg (by omega)]; omega
  have hm2 : (K : Int) % 8 = (kd : Int) := by omega
  have d0 : ((kd : Int) == 0) = false := by simp; omega
  have d1 : ((kd : Int) == 1) = false := by simp; omega
  have d2 : ((kd : Int) == 2) = false := by simp; omega
  have hA := h.nob ((But.refl Nob w).alloc (.cells #[.int .u64 K, .int .i64 I, .int .i64 X] 29))
  have hG : But Nob w (w.alloc (.cells #[.int .u64 K, .int .i64 I, .int .i64 X] 29)) := (But.refl _ _).alloc _
  have hx := Blk.new w 29 #[.int .u64 K, .int .i64 I, .int .i64 X]
  have x0 := hx.cell 0; have x1 := hx.cell 1; have x2 := hx.cell 2
  simp only [List.getElem?_toArray, List.getElem?_cons_zero, List.getElem?_cons_succ] at x0 x1 x2
  have P := step_ld I hA.l hn
  have HXB := Lib.hid hx
  have hbw : b < w.heap.size := h.l.v.lt
  have hrw : Hid (∀ k, OwnR rb gs gp k → k < w.heap.size) := fun k hk => h.r.lt hk
  have hR : Hid (∀ W, RfD rb gs gp D W → Calls Try.prog 39 #[.pointer (some ⟨rb, 0, none⟩), .int .i64 I] W fun e w' => e = .returned (.tuple #[.int .i64 (stH D I), .int .i64 (stX D I), .int .i64 (stE D I)]) ∧ RfD rb gs gp (stR D I) w' ∧ But (OwnR rb gs gp) W w') := fun W hW => refst_any I hW h.l.nice hn
  obtain ⟨how, hhow⟩ : ∃ h, h = stH D I := ⟨_, rfl⟩
  obtain ⟨x, hxx⟩ : ∃ x, x = stX D I := ⟨_, rfl⟩
  obtain ⟨er, her⟩ : ∃ x, x = stE D I := ⟨_, rfl⟩
  obtain ⟨D', hD'⟩ : ∃ x, x = stR D I := ⟨_, rfl⟩
  rw [← hhow, ← hxx, ← her, ← hD'] at P hR
  rw [← hD']
  have tq := beq_self er
  have P := Lib.hid P
  have HA := Lib.hid hA; have HG := Lib.hid hG
  clear h hA hG hx hd hkd hk hhow hxx her hD'
  go_enter Try.func11, Try.ntmps11
  go_wp2_with fail
  refine P.out.mono ?_
  rintro e w1 ⟨rfl, h1, hg1⟩
  have hx1 := HXB.out.but hg1 (by show ¬ _ = b; omega)
  have x0' := hx1.cell 0; have x1' := hx1.cell 1; have x2' := hx1.cell 2
  simp only [List.getElem?_toArray, List.getElem?_cons_zero, List.getElem?_cons_succ] at x0' x1' x2'
  have hw1 : w.heap.size < w1.heap.size := hx1.lt
  clear x0 x1 x2
  have P2 := Lib.hid (hR.out _ ((HA.out.far h1 hg1).but ((But.refl Nob w1).alloc (.cells #[.bool (dnB how), .int .i64 how, .int .i64 x] 44)) (fun _ _ q => q)))
  have H1 := Lib.hid h1; have HG1 := Lib.hid hg1
  clear h1 hg1 P hx1
  go_wp2_with fail
  refine P2.out.mono ?_
  rintro e w2 ⟨rfl, h2, hg2⟩
  have hs := (Blk.new w1 44 #[.bool (dnB how), .int .i64 how, .int .i64 x]).but hg2 (fun q => by have := hrw.out _ q; omega)
  have s0 := hs.cell 0; have s1 := hs.cell 1; have s2 := hs.cell 2
  simp only [List.getElem?_toArray, List.getElem?_cons_zero, List.getElem?_cons_succ] at s0 s1 s2
  have HB := Lib.hid ((HA.out).both (H1.out.nob ((But.refl Nob w1).alloc (.cells #[.bool (dnB how), .int .i64 how, .int .i64 x] 44))) (HG1.out.alloc _) h2 hg2); have HG2 := Lib.hid hg2
  clear h2 hg2 P2 hs
  have fin : Hid (∀ g, g < w.heap.size → ¬ OneB b g → ¬ OwnR rb gs gp g → w2.heap[g]? = w.heap[g]?) := fun g h0 ha hb =>
    (HG2.out.block g (by rw [World.size_alloc]; omega) hb).trans ((((But.refl Nob w1).alloc _).block g (by omega) id).trans ((HG1.out.block g (by rw [World.size_alloc]; omega) ha).trans (HG.out.block g h0 id)))
  by_cases q0 : how = 0
  · subst q0
    have dd : dnB 0 = false := rfl
    go_wp2_with fail
    go_ret
    exact ⟨rfl, HB.out, fin.out⟩
  · have dd : dnB how = true := by simp [dnB, q0]
    have tt : (((how : Nat) : Int) != 0) = true := by simp; omega
    clear q0
    go_wp2_with fail
    go_ret
    exact ⟨rfl, HB.out, fin.out⟩
set_option maxRecDepth 100000 in
set_option maxHeartbeats 8000000 in
theorem do28_0 (K : Nat) (I X : Int) (h : Both w0 b rb gs gp D n w) (hk : K % 8 = 0) :
    Calls Try.prog 11 #[.pointer (some ⟨b, 0, none⟩), .pointer (some ⟨rb, 0, none⟩), .agg #[.int .u64 K, .int .i64 I, .int .i64 X]] w (DoB w0 b rb gs gp (doD D K I X) n w) := by
  have hd : doD D K I X = beginR D 0 1 X := by unfold doD; rw [if_pos hk]
  rw [hd]
  have hm1 : (K : Int).tmod 8 = 0 := by rw [Int.tmod_eq_emod_of_nonneg (by omega)]; omega
  have hm2 : (K : Int) % 8 = 0 := by omega
  have hA := h.nob ((But.refl Nob w).alloc (.cells #[.int .u64 K, .int .i64 I, .int .i64 X] 29))
  have hG : But Nob w (w.alloc (.cells #[.int .u64 K, .int .i64 I, .int .i64 X] 29)) := (But.refl _ _).alloc _
  have hx := Blk.new w 29 #[.int .u64 K, .int .i64 I, .int .i64 X]
  have x0 := hx.cell 0; have x1 := hx.cell 1; have x2 := hx.cell 2
  simp only [List.getElem?_toArray, List.getElem?_cons_zero, List.getElem?_cons_succ] at x0 x1 x2
  obtain ⟨er, her⟩ : ∃ x, x = beginE D 0 := ⟨_, rfl⟩
  obtain ⟨D', hD'⟩ : ∃ x, x = beginR D 0 1 X := ⟨_, rfl⟩
  have tq := beq_self er
  have hbw : b < w.heap.size := h.l.v.lt
  have hrw : Hid (∀ k, OwnR rb gs gp k → k < w.heap.size) := fun k hk => h.r.lt hk
  have hP : Hid (∀ W, Both w0 b rb gs gp D n W → Calls Try.prog 18 #[.pointer (some ⟨b, 0, none⟩), .int .i64 X] W fun e w' => e = .returned (.int .i64 er) ∧ Ld w0 b D' n w' ∧ But (OneB b) W w') := fun W hW => by rw [her, hD']; exact push_ld X hW.l
  have hR : Hid (∀ W, RfD rb gs gp D W → Calls Try.prog 36 #[.pointer (some ⟨rb, 0, none⟩), .int .i64 0, .int .i64 1, .int .i64 X] W fun e w' => e = .returned (.int .i64 er) ∧ RfD rb gs gp D' w' ∧ But (OwnR rb gs gp) W w') := fun W hW => by rw [her, hD']; exact refpush_any X hW
  rw [← hD']
  have HXB := Lib.hid hx
  have HA := Lib.hid hA; have HG := Lib.hid hG
  have hzw : w.heap.size < (w.alloc (.cells #[.int .u64 K, .int .i64 I, .int .i64 X] 29)).heap.size := by simp
  have HZW := Lib.hid hzw
  clear h hA hG hx hd hk her hD' hzw
  go_enter Try.func11, Try.ntmps11
  go_wp2_with fail
  generalize w.alloc (.cells #[.int .u64 K, .int .i64 I, .int .i64 X] 29) = w4 at *
  have n0 := World.new_ne w4 _ x0
  go_region_held3 (fun W => W.cell? ⟨w.heap.size, 0, none⟩ = some (.int .u64 K) ∧ W.cell? ⟨w.heap.size, 1, none⟩ = some (.int .i64 I) ∧ W.cell? ⟨w.heap.size, 2, none⟩ = some (.int .i64 X)) (first | go_keep | exact ⟨y0, y1, y2⟩)
    (first
      | (go_at_call 18; refine (hP.out _ (HA.out.nob (But.refl _ _).drew)).mono ?_; rintro e w5 ⟨rfl, h5, hg5⟩; have hb5 := (show Blk w4.drew w.heap.size 29 _ from HXB.out).but hg5 (by show ¬ _ = b; omega); have y0 := hb5.cell 0; have y1 := hb5.cell 1; have y2 := hb5.cell 2; simp only [List.getElem?_toArray, List.getElem?_cons_zero, List.getElem?_cons_succ] at y0 y1 y2; have HX5 := Lib.hid hb5; clear hb5; have H5 := Lib.hid h5; have HG5 := Lib.hid hg5; have HR5 := Lib.hid ((HA.out.nob (But.refl Nob w4).drew).far h5 hg5); clear h5 hg5)
      | (go_at_call 36; refine (hR.out _ HR5.out).mono ?_; rintro e w6 ⟨rfl, h6, hg6⟩; have hb6 := HX5.out.but hg6 (fun q => by have := hrw.out _ q; omega); have y0 := hb6.cell 0; have y1 := hb6.cell 1; have y2 := hb6.cell 2; simp only [List.getElem?_toArray, List.getElem?_cons_zero, List.getElem?_cons_succ] at y0 y1 y2; clear hb6; have H6 := Lib.hid h6; have HG6 := Lib.hid hg6; clear h6 hg6))
  all_goals
    go_wp2_with fail
    go_ret
    have HB := (HA.out.nob (But.refl Nob w4).drew).both H5.out HG5.out H6.out HG6.out
    refine ⟨rfl, ⟨⟨HB.l.v, HB.l.nice.mono (by omega), HB.l.old, HB.l.new⟩, HB.r, HB.new, HB.sep⟩, fun g h0 ha hb => ?_⟩
    have g4 : g < w4.heap.size := by have := HZW.out; omega
    exact (HG6.out.block g (Nat.lt_of_lt_of_le (show g < w4.drew.heap.size from g4) HG5.out.size) hb).trans ((HG5.out.block g g4 ha).trans (HG.out.block g h0 id))
set_option maxRecDepth 100000 in
set_option maxHeartbeats 8000000 in
theorem do28_2 (K : Nat) (I X : Int) (h : Both w0 b rb gs gp D n w) (hk : K % 8 = 2) :
    Calls Try.prog 11 #[.pointer (some ⟨b, 0, none⟩), .pointer (some ⟨rb, 0, none⟩), .agg #[.int .u64 K, .int .i64 I, .int .i64 X]] w (DoB w0 b rb gs gp (doD D K I X) n w) := by
  have hd : doD D K I X = stealR D I := by unfold doD; rw [if_neg (by omega), if_neg (by omega), if_pos hk]
  rw [hd]
  have hm1 : (K : Int).tmod 8 = 2 := by rw [Int.tmod_eq_emod_of_nonneg (by omega)]; omega
  have hm2 : (K : Int) % 8 = 2 := by omega
  have hA := h.nob ((But.refl Nob w).alloc (.cells #[.int .u64 K, .int .i64 I, .int .i64 X] 29))
  have hG : But Nob w (w.alloc (.cells #[.int .u64 K, .int .i64 I, .int .i64 X] 29)) := (But.refl _ _).alloc _
  have hx := Blk.new w 29 #[.int .u64 K, .int .i64 I, .int .i64 X]
  have x0 := hx.cell 0; have x1 := hx.cell 1; have x2 := hx.cell 2
  simp only [List.getElem?_toArray, List.getElem?_cons_zero, List.getElem?_cons_succ] at x0 x1 x2
  obtain ⟨er, her⟩ : ∃ x, x = stealE D I := ⟨_, rfl⟩
  obtain ⟨D', hD'⟩ : ∃ x, x = stealR D I := ⟨_, rfl⟩
  have tq := beq_self er
  have hbw : b < w.heap.size := h.l.v.lt
  have hrw : Hid (∀ k, OwnR rb gs gp k → k < w.heap.size) := fun k hk => h.r.lt hk
  have hP : Hid (∀ W, Both w0 b rb gs gp D n W → Calls Try.prog 38 #[.pointer (some ⟨b, 0, none⟩), .int .i64 I] W fun e w' => e = .returned (.int .i64 er) ∧ Ld w0 b D' n w' ∧ But (OneB b) W w') := fun W hW => by rw [her, hD']; exact steal_ld I hW.l
  have hR : Hid (∀ W, RfD rb gs gp D W → Calls Try.prog 36 #[.pointer (some ⟨rb, 0, none⟩), .int .i64 I, .int .i64 3, .int .i64 0] W fun e w' => e = .returned (.int .i64 er) ∧ RfD rb gs gp D' w' ∧ But (OwnR rb gs gp) W w') := fun W hW => by rw [her, hD']; exact refsteal_any I hW
  rw [← hD']
  have HXB := Lib.hid hx
  have HA := Lib.hid hA; have HG := Lib.hid hG
  have hzw : w.heap.size < (w.alloc (.cells #[.int .u64 K, .int .i64 I, .int .i64 X] 29)).heap.size := by simp
  have HZW := Lib.hid hzw
  clear h hA hG hx hd hk her hD' hzw
  go_enter Try.func11, Try.ntmps11
  go_wp2_with fail
  generalize w.alloc (.cells #[.int .u64 K, .int .i64 I, .int .i64 X] 29) = w4 at *
  have n0 := World.new_ne w4 _ x0
  go_region_held3 (fun W => W.cell? ⟨w.heap.size, 0, none⟩ = some (.int .u64 K) ∧ W.cell? ⟨w.heap.size, 1, none⟩ = some (.int .i64 I) ∧ W.cell? ⟨w.heap.size, 2, none⟩ = some (.int .i64 X)) (first | go_keep | exact ⟨y0, y1, y2⟩)
    (first
      | (go_at_call 38; refine (hP.out _ (HA.out.nob (But.refl _ _).drew)).mono ?_; rintro e w5 ⟨rfl, h5, hg5⟩; have hb5 := (show Blk w4.drew w.heap.size 29 _ from HXB.out).but hg5 (by show ¬ _ = b; omega); have y0 := hb5.cell 0; have y1 := hb5.cell 1; have y2 := hb5.cell 2; simp only [List.getElem?_toArray, List.getElem?_cons_zero, List.getElem?_cons_succ] at y0 y1 y2; have HX5 := Lib.hid hb5; clear hb5; have H5 := Lib.hid h5; have HG5 := Lib.hid hg5; have HR5 := Lib.hid ((HA.out.nob (But.refl Nob w4).drew).far h5 hg5); clear h5 hg5)
      | (go_at_call 36; refine (hR.out _ HR5.out).mono ?_; rintro e w6 ⟨rfl, h6, hg6⟩; have hb6 := HX5.out.but hg6 (fun q => by have := hrw.out _ q; omega); have y0 := hb6.cell 0; have y1 := hb6.cell 1; have y2 := hb6.cell 2; simp only [List.getElem?_toArray, List.getElem?_cons_zero, List.getElem?_cons_succ] at y0 y1 y2; clear hb6; have H6 := Lib.hid h6; have HG6 := Lib.hid hg6; clear h6 hg6))
  all_goals
    go_wp2_with fail
    go_ret
    have HB := (HA.out.nob (But.refl Nob w4).drew).both H5.out HG5.out H6.out HG6.out
    refine ⟨rfl, ⟨⟨HB.l.v, HB.l.nice.mono (by omega), HB.l.old, HB.l.new⟩, HB.r, HB.new, HB.sep⟩, fun g h0 ha hb => ?_⟩
    have g4 : g < w4.heap.size := by have := HZW.out; omega
    exact (HG6.out.block g (Nat.lt_of_lt_of_le (show g < w4.drew.heap.size from g4) HG5.out.size) hb).trans ((HG5.out.block g g4 ha).trans (HG.out.block g h0 id))
theorem do28_any (K : Nat) (I X : Int) (h : Both w0 b rb gs gp D n w) (hn : n ≤ 900000) :
    Calls Try.prog 11 #[.pointer (some ⟨b, 0, none⟩), .pointer (some ⟨rb, 0, none⟩), .agg #[.int .u64 K, .int .i64 I, .int .i64 X]] w (DoB w0 b rb gs gp (doD D K I X) n w) := by
  rcases (by omega : K % 8 = 0 ∨ K % 8 = 1 ∨ K % 8 = 2 ∨ 3 ≤ K % 8) with hk | hk | hk | hk
  · exact do28_0 K I X h hk
  · exact do28_1 K I X h hk
  · exact do28_2 K I X h hk
  · exact do28_3 K I X h hk hn
end
end Go.Proofs.Ytfejimlfnelhhaa
