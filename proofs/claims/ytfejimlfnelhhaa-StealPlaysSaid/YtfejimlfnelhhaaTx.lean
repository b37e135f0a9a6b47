/- The document's Step of a shared row, way by way. -/
import Derived.Test.YtfejimlfnelhhaaTr
import Derived.Deep.DeepCutAuto
import Derived.StillTailTactics
import Derived.BigQuiet
namespace Go.Proofs.Ytfejimlfnelhhaa
open Go.RowKit

set_option maxRecDepth 100000 in
set_option maxHeartbeats 8000000 in
theorem ref_3 {rb gs gp : Nat} {top bot : Int} {sl : Nat → Int} {room th : Nat} {P : Nat → Pt} {w : World} (k : Nat) (u t x : Int) (q : Bool) (h : RfV rb gs gp top bot sl room th P w) (hk : k ≤ th) (hP : P k = ⟨1, 3, u, t, x, q⟩) (hu : 0 ≤ u ∧ u ≤ 1000000) :
    Calls Try.prog 39 #[.pointer (some ⟨rb, 0, none⟩), .int .i64 k] w (RefP rb gs gp k room th P w 0 0 top bot (updS sl (slotN room u) x) ⟨1, 4, u, t, x, q⟩) := by
  obtain ⟨c0, c1, c2, c3, c4, c5⟩ := h.party hk
  rw [hP] at c0 c1 c2 c3 c4 c5
  have c0 : w.cell? ⟨gp, k * 6, none⟩ = some (.int .i64 1) := c0
  have c1 : w.cell? ⟨gp, k * 6 + 1, none⟩ = some (.int .i64 3) := c1
  dsimp only at c2 c3 c4 c5
  obtain ⟨o0, o1, o2, o3, o4⟩ := h.cells
  have k0 : (0 : Int) ≤ (k : Int) := by omega
  have k1 : (k : Int) < (th : Int) + 1 := by omega
  have k2 : decide (th + 1 ≤ k) = false := by simp; omega
  have k3 : ¬ th + 1 ≤ k := by omega
  have k4 : ¬ (th : Int) + 1 ≤ (k : Int) := by omega
  have hth := h.th8
  have hown : Hid (∀ j, OwnR rb gs gp j → j < w.heap.size) := fun j hj => h.lt hj
  have hlt : Hid (rb < w.heap.size ∧ gs < w.heap.size ∧ gp < w.heap.size) := ⟨h.lt (.inl rfl), h.lt (.inr (.inl rfl)), h.lt (.inr (.inr rfl))⟩
  have h1 : RfV rb gs gp top bot sl room th P (w.alloc (.cells #[.int .i64 1, .int .i64 3, .int .i64 u, .int .i64 t, .int .i64 x, .bool q] 38)) := h.but ((But.refl Nob w).alloc _) (fun _ _ q => q)
  have hp1 : Blk (w.alloc (.cells #[.int .i64 1, .int .i64 3, .int .i64 u, .int .i64 t, .int .i64 x, .bool q] 38)) w.heap.size 38 #[.int .i64 1, .int .i64 3, .int .i64 u, .int .i64 t, .int .i64 x, .bool q] := Blk.new _ _ _
  have hg1 : But (OwnR rb gs gp) w (w.alloc (.cells #[.int .i64 1, .int .i64 3, .int .i64 u, .int .i64 t, .int .i64 x, .bool q] 38)) := (But.refl _ _).alloc _
  have hr1 := h.r1; have hr2 := h.r2
  have H1 := Lib.hid h1; have HP1 := Lib.hid hp1; have HG1 := Lib.hid hg1; have HPP := Lib.hid hP
  clear h h1 hp1 hg1 hP
  go_enter Try.func39, Try.ntmps39
  go_upto_region 4 with fail
  clear c0 c1 c2 c3 c4 c5 o0 o1 o2 o3 o4
  generalize w.alloc (.cells #[.int .i64 1, .int .i64 3, .int .i64 u, .int .i64 t, .int .i64 x, .bool q] 38) = w1 at *
  obtain ⟨o0, o1, o2, o3, o4⟩ := H1.out.cells
  have of := H1.out.free
  have y0 := HP1.out.cell 0; have y1 := HP1.out.cell 1; have y2 := HP1.out.cell 2; have y3 := HP1.out.cell 3; have y4 := HP1.out.cell 4; have y5 := HP1.out.cell 5
  have yf := HP1.out.free
  simp only [List.getElem?_toArray, List.getElem?_cons_zero, List.getElem?_cons_succ] at y0 y1 y2 y3 y4 y5
  obtain ⟨n, rfl⟩ : ∃ n : Nat, u = n := ⟨(u).toNat, by omega⟩
  obtain ⟨m, hm⟩ : ∃ m, m = n % room := ⟨_, rfl⟩
  have m64 : m < room := by rw [hm]; exact Nat.mod_lt _ (by omega)
  have q1 : (n : Int).tmod (room : Int) = (m : Int) := by rw [hm, Int.tmod_eq_emod_of_nonneg (by omega)]; rfl
  have q2 : (n : Int) % (room : Int) = (m : Int) := by rw [hm]; rfl
  have rr0 : ¬ (room : Int) = 0 := by omega
  have rr1 : ((room : Int) == 0) = false := by simp; omega
  have rr2 : ¬ room = 0 := by omega
  have m0 : (0 : Int) ≤ (m : Int) := by omega
  have m1 : (m : Int) < (room : Int) := by omega
  have HM : Hid (slotN room (n : Int) = m) := by rw [hm]; rfl
  obtain ⟨sm, sf⟩ := H1.out.slot m64
  clear hm hu
  go_upto_region 14 with fail
  go_wp2_with fail
  go_still_tail 14, (by kernel_rfl)
  change wpList _ _ _ _ _ w1.drew
  go_upto_region 50 with fail
  have hr2 : RfV rb gs gp top bot (updS sl m x) room th P (w1.setCell ⟨gs, m, none⟩ (.int .i64 x)) := H1.out.ssl m64 x
  have hp2 : Blk (w1.setCell ⟨gs, m, none⟩ (.int .i64 x)) w.heap.size 38 #[.int .i64 1, .int .i64 3, .int .i64 (n : Int), .int .i64 t, .int .i64 x, .bool q] := HP1.out.far (p := ⟨gs, m, none⟩) (by show w.heap.size ≠ gs; have := hlt.out; omega) _
  have hg2 : But (OwnR rb gs gp) w (w1.setCell ⟨gs, m, none⟩ (.int .i64 x)) := HG1.out.set ⟨gs, m, none⟩ _ (.inl (.inr (.inl rfl)))
  have hr2 : RfV rb gs gp top bot (updS sl m x) room th P (w1.setCell ⟨gs, m, none⟩ (.int .i64 x)).drew := hr2.but ((But.refl Nob _).drew) (fun _ _ q => q)
  have hp2 : Blk (w1.setCell ⟨gs, m, none⟩ (.int .i64 x)).drew w.heap.size 38 #[.int .i64 1, .int .i64 3, .int .i64 (n : Int), .int .i64 t, .int .i64 x, .bool q] := hp2
  have hg2 := hg2.drew
  have H2 := Lib.hid hr2; have HP2 := Lib.hid hp2; have HG2 := Lib.hid hg2
  clear o0 o1 o2 o3 o4 of y0 y1 y2 y3 y4 y5 yf
  clear hr2 hp2 hg2 H1 HP1 HG1
  generalize (w1.setCell ⟨gs, m, none⟩ (.int .i64 x)).drew = w2 at *
  go_upto_region 50 with fail
  go_cut [] (fun wx => RfV rb gs gp top bot (updS sl m x) room th P wx ∧ Blk wx w.heap.size 38 #[.int .i64 1, .int .i64 4, .int .i64 (n : Int), .int .i64 t, .int .i64 x, .bool q] ∧ But (OwnR rb gs gp) w wx)
  case first =>
    obtain ⟨o0, o1, o2, o3, o4⟩ := H2.out.cells
    have of := H2.out.free
    have y0 := HP2.out.cell 0; have y1 := HP2.out.cell 1; have y2 := HP2.out.cell 2; have y3 := HP2.out.cell 3; have y4 := HP2.out.cell 4; have y5 := HP2.out.cell 5
    have yf := HP2.out.free
    simp only [List.getElem?_toArray, List.getElem?_cons_zero, List.getElem?_cons_succ] at y0 y1 y2 y3 y4 y5
    go_wp2_with fail
    go_meet
    exact ⟨H2.out.but ((But.refl (fun j => j = w.heap.size) _).set ⟨w.heap.size, 1, none⟩ _ (.inl rfl)) (fun k hk e => by have := hown.out k hk; omega), (by have := HP2.out.set_ 1 (.int .i64 4); simpa using this), HG2.out.set ⟨w.heap.size, 1, none⟩ _ (.inr (Nat.le_refl _))⟩
  case rest =>
    obtain ⟨hr3, hp3, hg3⟩ := hcut
    rename World => w3
    have H3 := Lib.hid hr3; have HP3 := Lib.hid hp3; have HG3 := Lib.hid hg3
    clear hr3 hp3 hg3 H2 HP2 HG2
    obtain ⟨o0, o1, o2, o3, o4⟩ := H3.out.cells
    have of := H3.out.free
    have y0 := HP3.out.cell 0; have y1 := HP3.out.cell 1; have y2 := HP3.out.cell 2; have y3 := HP3.out.cell 3; have y4 := HP3.out.cell 4; have y5 := HP3.out.cell 5
    have yf := HP3.out.free
    simp only [List.getElem?_toArray, List.getElem?_cons_zero, List.getElem?_cons_succ] at y0 y1 y2 y3 y4 y5
    obtain ⟨p0, p1, p2, p3, p4, p5⟩ := H3.out.party hk
    have pf := H3.out.pfree
    go_wp2_with fail
    go_still_tail 7, (by kernel_rfl)
    change wpList _ _ _ _ _ w3.drew
    have hr9 : RfV rb gs gp top bot (updS sl m x) room th P w3.drew := H3.out.but (But.refl Nob _).drew (fun _ _ q => q)
    have hg9 := HG3.out.drew
    obtain ⟨p0, p1, p2, p3, p4, p5⟩ := hr9.party hk
    have pf := hr9.pfree
    have HR9 := Lib.hid hr9; have HG9 := Lib.hid hg9
    clear hr9 hg9 o0 o1 o2 o3 o4 of y0 y1 y2 y3 y4 y5 yf H3 HP3 HG3
    generalize w3.drew = w9 at *
    go_wp2_with fail
    (go_ret3; rw [HM.out])
    refine ⟨rfl, HR9.out.sparty hk ⟨1, 4, (n : Int), t, x, q⟩, ?_⟩
    exact (((((HG9.out.set ⟨gp, k * 6, none⟩ _ (.inl (.inr (.inr rfl)))).set ⟨gp, k * 6 + 1, none⟩ _ (.inl (.inr (.inr rfl)))).set ⟨gp, k * 6 + 2, none⟩ _ (.inl (.inr (.inr rfl)))).set ⟨gp, k * 6 + 3, none⟩ _ (.inl (.inr (.inr rfl)))).set ⟨gp, k * 6 + 4, none⟩ _ (.inl (.inr (.inr rfl)))).set ⟨gp, k * 6 + 5, none⟩ _ (.inl (.inr (.inr rfl)))
set_option maxRecDepth 100000 in
set_option maxHeartbeats 8000000 in
theorem ref_12 {rb gs gp : Nat} {top bot : Int} {sl : Nat → Int} {room th : Nat} {P : Nat → Pt} {w : World} (k : Nat) (u t x : Int) (q : Bool) (h : RfV rb gs gp top bot sl room th P w) (hk : k ≤ th) (hP : P k = ⟨3, 3, u, t, x, q⟩) (hu : 0 ≤ t ∧ t ≤ 1000000) :
    Calls Try.prog 39 #[.pointer (some ⟨rb, 0, none⟩), .int .i64 k] w (RefP rb gs gp k room th P w 0 0 top bot sl ⟨3, 4, u, t, sl (slotN room t), q⟩) := by
  obtain ⟨c0, c1, c2, c3, c4, c5⟩ := h.party hk
  rw [hP] at c0 c1 c2 c3 c4 c5
  have c0 : w.cell? ⟨gp, k * 6, none⟩ = some (.int .i64 3) := c0
  have c1 : w.cell? ⟨gp, k * 6 + 1, none⟩ = some (.int .i64 3) := c1
  dsimp only at c2 c3 c4 c5
  obtain ⟨o0, o1, o2, o3, o4⟩ := h.cells
  have k0 : (0 : Int) ≤ (k : Int) := by omega
  have k1 : (k : Int) < (th : Int) + 1 := by omega
  have k2 : decide (th + 1 ≤ k) = false := by simp; omega
  have k3 : ¬ th + 1 ≤ k := by omega
  have k4 : ¬ (th : Int) + 1 ≤ (k : Int) := by omega
  have hth := h.th8
  have hown : Hid (∀ j, OwnR rb gs gp j → j < w.heap.size) := fun j hj => h.lt hj
  have hlt : Hid (rb < w.heap.size ∧ gs < w.heap.size ∧ gp < w.heap.size) := ⟨h.lt (.inl rfl), h.lt (.inr (.inl rfl)), h.lt (.inr (.inr rfl))⟩
  have h1 : RfV rb gs gp top bot sl room th P (w.alloc (.cells #[.int .i64 3, .int .i64 3, .int .i64 u, .int .i64 t, .int .i64 x, .bool q] 38)) := h.but ((But.refl Nob w).alloc _) (fun _ _ q => q)
  have hp1 : Blk (w.alloc (.cells #[.int .i64 3, .int .i64 3, .int .i64 u, .int .i64 t, .int .i64 x, .bool q] 38)) w.heap.size 38 #[.int .i64 3, .int .i64 3, .int .i64 u, .int .i64 t, .int .i64 x, .bool q] := Blk.new _ _ _
  have hg1 : But (OwnR rb gs gp) w (w.alloc (.cells #[.int .i64 3, .int .i64 3, .int .i64 u, .int .i64 t, .int .i64 x, .bool q] 38)) := (But.refl _ _).alloc _
  have hr1 := h.r1; have hr2 := h.r2
  have H1 := Lib.hid h1; have HP1 := Lib.hid hp1; have HG1 := Lib.hid hg1; have HPP := Lib.hid hP
  clear h h1 hp1 hg1 hP
  go_enter Try.func39, Try.ntmps39
  go_upto_region 4 with fail
  clear c0 c1 c2 c3 c4 c5 o0 o1 o2 o3 o4
  generalize w.alloc (.cells #[.int .i64 3, .int .i64 3, .int .i64 u, .int .i64 t, .int .i64 x, .bool q] 38) = w1 at *
  obtain ⟨o0, o1, o2, o3, o4⟩ := H1.out.cells
  have of := H1.out.free
  have y0 := HP1.out.cell 0; have y1 := HP1.out.cell 1; have y2 := HP1.out.cell 2; have y3 := HP1.out.cell 3; have y4 := HP1.out.cell 4; have y5 := HP1.out.cell 5
  have yf := HP1.out.free
  simp only [List.getElem?_toArray, List.getElem?_cons_zero, List.getElem?_cons_succ] at y0 y1 y2 y3 y4 y5
  obtain ⟨n, rfl⟩ : ∃ n : Nat, t = n := ⟨(t).toNat, by omega⟩
  obtain ⟨m, hm⟩ : ∃ m, m = n % room := ⟨_, rfl⟩
  have m64 : m < room := by rw [hm]; exact Nat.mod_lt _ (by omega)
  have q1 : (n : Int).tmod (room : Int) = (m : Int) := by rw [hm, Int.tmod_eq_emod_of_nonneg (by omega)]; rfl
  have q2 : (n : Int) % (room : Int) = (m : Int) := by rw [hm]; rfl
  have rr0 : ¬ (room : Int) = 0 := by omega
  have rr1 : ((room : Int) == 0) = false := by simp; omega
  have rr2 : ¬ room = 0 := by omega
  have m0 : (0 : Int) ≤ (m : Int) := by omega
  have m1 : (m : Int) < (room : Int) := by omega
  have HM : Hid (slotN room (n : Int) = m) := by rw [hm]; rfl
  obtain ⟨sm, sf⟩ := H1.out.slot m64
  clear hm hu
  go_upto_region 44 with fail
  go_wp2_with fail
  go_still_tail 14, (by kernel_rfl)
  change wpList _ _ _ _ _ w1.drew
  go_upto_region 50 with fail
  have hr2 : RfV rb gs gp top bot sl room th P (w1.setCell ⟨w.heap.size, 4, none⟩ (.int .i64 ((sl m)))) := (H1.out.but ((But.refl (fun j => j = w.heap.size) _).set ⟨w.heap.size, 4, none⟩ (.int .i64 ((sl m))) (.inl rfl)) (fun k hk e => by have := hown.out k hk; omega))
  have hp2 : Blk (w1.setCell ⟨w.heap.size, 4, none⟩ (.int .i64 ((sl m)))) w.heap.size 38 #[.int .i64 3, .int .i64 3, .int .i64 u, .int .i64 (n : Int), .int .i64 (sl m), .bool q] := (by have := HP1.out.set_ 4 (.int .i64 ((sl m))); simpa using this)
  have hg2 : But (OwnR rb gs gp) w (w1.setCell ⟨w.heap.size, 4, none⟩ (.int .i64 ((sl m)))) := (HG1.out.set ⟨w.heap.size, 4, none⟩ (.int .i64 ((sl m))) (.inr (Nat.le_refl _)))
  have hr2 : RfV rb gs gp top bot sl room th P (w1.setCell ⟨w.heap.size, 4, none⟩ (.int .i64 ((sl m)))).drew := hr2.but ((But.refl Nob _).drew) (fun _ _ q => q)
  have hp2 : Blk (w1.setCell ⟨w.heap.size, 4, none⟩ (.int .i64 ((sl m)))).drew w.heap.size 38 #[.int .i64 3, .int .i64 3, .int .i64 u, .int .i64 (n : Int), .int .i64 (sl m), .bool q] := hp2
  have hg2 := hg2.drew
  have H2 := Lib.hid hr2; have HP2 := Lib.hid hp2; have HG2 := Lib.hid hg2
  clear o0 o1 o2 o3 o4 of y0 y1 y2 y3 y4 y5 yf
  clear hr2 hp2 hg2 H1 HP1 HG1
  generalize (w1.setCell ⟨w.heap.size, 4, none⟩ (.int .i64 ((sl m)))).drew = w2 at *
  go_upto_region 50 with fail
  go_cut [] (fun wx => RfV rb gs gp top bot sl room th P wx ∧ Blk wx w.heap.size 38 #[.int .i64 3, .int .i64 4, .int .i64 u, .int .i64 (n : Int), .int .i64 (sl m), .bool q] ∧ But (OwnR rb gs gp) w wx)
  case first =>
    obtain ⟨o0, o1, o2, o3, o4⟩ := H2.out.cells
    have of := H2.out.free
    have y0 := HP2.out.cell 0; have y1 := HP2.out.cell 1; have y2 := HP2.out.cell 2; have y3 := HP2.out.cell 3; have y4 := HP2.out.cell 4; have y5 := HP2.out.cell 5
    have yf := HP2.out.free
    simp only [List.getElem?_toArray, List.getElem?_cons_zero, List.getElem?_cons_succ] at y0 y1 y2 y3 y4 y5
    go_wp2_with fail
    go_meet
    exact ⟨H2.out.but ((But.refl (fun j => j = w.heap.size) _).set ⟨w.heap.size, 1, none⟩ _ (.inl rfl)) (fun k hk e => by have := hown.out k hk; omega), (by have := HP2.out.set_ 1 (.int .i64 4); simpa using this), HG2.out.set ⟨w.heap.size, 1, none⟩ _ (.inr (Nat.le_refl _))⟩
  case rest =>
    obtain ⟨hr3, hp3, hg3⟩ := hcut
    rename World => w3
    have H3 := Lib.hid hr3; have HP3 := Lib.hid hp3; have HG3 := Lib.hid hg3
    clear hr3 hp3 hg3 H2 HP2 HG2
    obtain ⟨o0, o1, o2, o3, o4⟩ := H3.out.cells
    have of := H3.out.free
    have y0 := HP3.out.cell 0; have y1 := HP3.out.cell 1; have y2 := HP3.out.cell 2; have y3 := HP3.out.cell 3; have y4 := HP3.out.cell 4; have y5 := HP3.out.cell 5
    have yf := HP3.out.free
    simp only [List.getElem?_toArray, List.getElem?_cons_zero, List.getElem?_cons_succ] at y0 y1 y2 y3 y4 y5
    obtain ⟨p0, p1, p2, p3, p4, p5⟩ := H3.out.party hk
    have pf := H3.out.pfree
    go_wp2_with fail
    go_still_tail 7, (by kernel_rfl)
    change wpList _ _ _ _ _ w3.drew
    have hr9 : RfV rb gs gp top bot sl room th P w3.drew := H3.out.but (But.refl Nob _).drew (fun _ _ q => q)
    have hg9 := HG3.out.drew
    obtain ⟨p0, p1, p2, p3, p4, p5⟩ := hr9.party hk
    have pf := hr9.pfree
    have HR9 := Lib.hid hr9; have HG9 := Lib.hid hg9
    clear hr9 hg9 o0 o1 o2 o3 o4 of y0 y1 y2 y3 y4 y5 yf H3 HP3 HG3
    generalize w3.drew = w9 at *
    go_wp2_with fail
    (go_ret3; rw [HM.out])
    refine ⟨rfl, HR9.out.sparty hk ⟨3, 4, u, (n : Int), (sl m), q⟩, ?_⟩
    exact (((((HG9.out.set ⟨gp, k * 6, none⟩ _ (.inl (.inr (.inr rfl)))).set ⟨gp, k * 6 + 1, none⟩ _ (.inl (.inr (.inr rfl)))).set ⟨gp, k * 6 + 2, none⟩ _ (.inl (.inr (.inr rfl)))).set ⟨gp, k * 6 + 3, none⟩ _ (.inl (.inr (.inr rfl)))).set ⟨gp, k * 6 + 4, none⟩ _ (.inl (.inr (.inr rfl)))).set ⟨gp, k * 6 + 5, none⟩ _ (.inl (.inr (.inr rfl)))
set_option maxRecDepth 100000 in
set_option maxHeartbeats 8000000 in
theorem ref_7y {rb gs gp : Nat} {top bot : Int} {sl : Nat → Int} {room th : Nat} {P : Nat → Pt} {w : World} (k : Nat) (u t x : Int) (q : Bool) (h : RfV rb gs gp top bot sl room th P w) (hk : k ≤ th) (hP : P k = ⟨2, 3, u, t, x, q⟩) (hu : 0 ≤ u ∧ u ≤ 1000000) (hc : t < u) :
    Calls Try.prog 39 #[.pointer (some ⟨rb, 0, none⟩), .int .i64 k] w (RefP rb gs gp k room th P w 1 (sl (slotN room u)) top bot sl Pt.out) := by
  obtain ⟨c0, c1, c2, c3, c4, c5⟩ := h.party hk
  rw [hP] at c0 c1 c2 c3 c4 c5
  have c0 : w.cell? ⟨gp, k * 6, none⟩ = some (.int .i64 2) := c0
  have c1 : w.cell? ⟨gp, k * 6 + 1, none⟩ = some (.int .i64 3) := c1
  dsimp only at c2 c3 c4 c5
  obtain ⟨o0, o1, o2, o3, o4⟩ := h.cells
  have k0 : (0 : Int) ≤ (k : Int) := by omega
  have k1 : (k : Int) < (th : Int) + 1 := by omega
  have k2 : decide (th + 1 ≤ k) = false := by simp; omega
  have k3 : ¬ th + 1 ≤ k := by omega
  have k4 : ¬ (th : Int) + 1 ≤ (k : Int) := by omega
  have hth := h.th8
  have hown : Hid (∀ j, OwnR rb gs gp j → j < w.heap.size) := fun j hj => h.lt hj
  have hlt : Hid (rb < w.heap.size ∧ gs < w.heap.size ∧ gp < w.heap.size) := ⟨h.lt (.inl rfl), h.lt (.inr (.inl rfl)), h.lt (.inr (.inr rfl))⟩
  have h1 : RfV rb gs gp top bot sl room th P (w.alloc (.cells #[.int .i64 2, .int .i64 3, .int .i64 u, .int .i64 t, .int .i64 x, .bool q] 38)) := h.but ((But.refl Nob w).alloc _) (fun _ _ q => q)
  have hp1 : Blk (w.alloc (.cells #[.int .i64 2, .int .i64 3, .int .i64 u, .int .i64 t, .int .i64 x, .bool q] 38)) w.heap.size 38 #[.int .i64 2, .int .i64 3, .int .i64 u, .int .i64 t, .int .i64 x, .bool q] := Blk.new _ _ _
  have hg1 : But (OwnR rb gs gp) w (w.alloc (.cells #[.int .i64 2, .int .i64 3, .int .i64 u, .int .i64 t, .int .i64 x, .bool q] 38)) := (But.refl _ _).alloc _
  have hr1 := h.r1; have hr2 := h.r2
  have H1 := Lib.hid h1; have HP1 := Lib.hid hp1; have HG1 := Lib.hid hg1; have HPP := Lib.hid hP
  clear h h1 hp1 hg1 hP
  go_enter Try.func39, Try.ntmps39
  go_upto_region 4 with fail
  clear c0 c1 c2 c3 c4 c5 o0 o1 o2 o3 o4
  generalize w.alloc (.cells #[.int .i64 2, .int .i64 3, .int .i64 u, .int .i64 t, .int .i64 x, .bool q] 38) = w1 at *
  obtain ⟨o0, o1, o2, o3, o4⟩ := H1.out.cells
  have of := H1.out.free
  have y0 := HP1.out.cell 0; have y1 := HP1.out.cell 1; have y2 := HP1.out.cell 2; have y3 := HP1.out.cell 3; have y4 := HP1.out.cell 4; have y5 := HP1.out.cell 5
  have yf := HP1.out.free
  simp only [List.getElem?_toArray, List.getElem?_cons_zero, List.getElem?_cons_succ] at y0 y1 y2 y3 y4 y5
  obtain ⟨n, rfl⟩ : ∃ n : Nat, u = n := ⟨(u).toNat, by omega⟩
  obtain ⟨m, hm⟩ : ∃ m, m = n % room := ⟨_, rfl⟩
  have m64 : m < room := by rw [hm]; exact Nat.mod_lt _ (by omega)
  have q1 : (n : Int).tmod (room : Int) = (m : Int) := by rw [hm, Int.tmod_eq_emod_of_nonneg (by omega)]; rfl
  have q2 : (n : Int) % (room : Int) = (m : Int) := by rw [hm]; rfl
  have rr0 : ¬ (room : Int) = 0 := by omega
  have rr1 : ((room : Int) == 0) = false := by simp; omega
  have rr2 : ¬ room = 0 := by omega
  have m0 : (0 : Int) ≤ (m : Int) := by omega
  have m1 : (m : Int) < (room : Int) := by omega
  have HM : Hid (slotN room (n : Int) = m) := by rw [hm]; rfl
  obtain ⟨sm, sf⟩ := H1.out.slot m64
  clear hm hu
  go_upto_region 26 with fail
  go_cut [] (fun wx => RfV rb gs gp top bot sl room th P wx ∧ Blk wx w.heap.size 38 #[.int .i64 2, .int .i64 3, .int .i64 (n : Int), .int .i64 t, .int .i64 (sl m), .bool q] ∧ But (OwnR rb gs gp) w wx)
  case first =>
    go_wp2_with fail
    go_still_tail 14, (by kernel_rfl)
    change wpList _ _ _ _ _ w1.drew
    go_wp2_with fail
    go_meet
    exact ⟨(H1.out.but ((But.refl (fun j => j = w.heap.size) _).set ⟨w.heap.size, 4, none⟩ (.int .i64 ((sl m))) (.inl rfl)) (fun k hk e => by have := hown.out k hk; omega)).but ((But.refl Nob _).drew) (fun _ _ q => q), (show Blk (w1.setCell ⟨w.heap.size, 4, none⟩ (.int .i64 ((sl m)))) w.heap.size 38 #[.int .i64 2, .int .i64 3, .int .i64 (n : Int), .int .i64 t, .int .i64 (sl m), .bool q] from (by have := HP1.out.set_ 4 (.int .i64 ((sl m))); simpa using this)), (HG1.out.set ⟨w.heap.size, 4, none⟩ (.int .i64 ((sl m))) (.inr (Nat.le_refl _))).drew⟩
  case rest =>
    clear o0 o1 o2 o3 o4 of y0 y1 y2 y3 y4 y5 yf
    obtain ⟨hr2, hp2, hg2⟩ := hcut
    rename World => w2
    have H2 := Lib.hid hr2; have HP2 := Lib.hid hp2; have HG2 := Lib.hid hg2
    clear hr2 hp2 hg2 H1 HP1 HG1
    obtain ⟨o0, o1, o2, o3, o4⟩ := H2.out.cells
    have of := H2.out.free
    have y0 := HP2.out.cell 0; have y1 := HP2.out.cell 1; have y2 := HP2.out.cell 2; have y3 := HP2.out.cell 3; have y4 := HP2.out.cell 4; have y5 := HP2.out.cell 5
    have yf := HP2.out.free
    simp only [List.getElem?_toArray, List.getElem?_cons_zero, List.getElem?_cons_succ] at y0 y1 y2 y3 y4 y5
    have tr : decide (t < (n : Int)) = true := by simpa using hc
    go_upto_region 50 with fail
    go_cut [] (fun wx => RfV rb gs gp top bot sl room th P wx ∧ Blk wx w.heap.size 38 #[.int .i64 2, .int .i64 4, .int .i64 (n : Int), .int .i64 t, .int .i64 (sl m), .bool q] ∧ But (OwnR rb gs gp) w wx)
    case first =>
      go_wp2_with fail
      go_meet
      exact ⟨H2.out.but ((But.refl (fun j => j = w.heap.size) _).set ⟨w.heap.size, 1, none⟩ _ (.inl rfl)) (fun k hk e => by have := hown.out k hk; omega), (by have := HP2.out.set_ 1 (.int .i64 4); simpa using this), HG2.out.set ⟨w.heap.size, 1, none⟩ _ (.inr (Nat.le_refl _))⟩
    case rest =>
      clear o0 o1 o2 o3 o4 of y0 y1 y2 y3 y4 y5 yf
      obtain ⟨hr3, hp3, hg3⟩ := hcut
      rename World => w3
      have H3 := Lib.hid hr3; have HP3 := Lib.hid hp3; have HG3 := Lib.hid hg3
      clear hr3 hp3 hg3 H2 HP2 HG2
      obtain ⟨o0, o1, o2, o3, o4⟩ := H3.out.cells
      have of := H3.out.free
      have y0 := HP3.out.cell 0; have y1 := HP3.out.cell 1; have y2 := HP3.out.cell 2; have y3 := HP3.out.cell 3; have y4 := HP3.out.cell 4; have y5 := HP3.out.cell 5
      have yf := HP3.out.free
      simp only [List.getElem?_toArray, List.getElem?_cons_zero, List.getElem?_cons_succ] at y0 y1 y2 y3 y4 y5
      go_upto_region 55 with fail
      go_cut [] (fun wx => RfV rb gs gp top bot sl room th P wx ∧ Blk wx w.heap.size 38 #[.int .i64 0, .int .i64 0, .int .i64 0, .int .i64 0, .int .i64 0, .bool false] ∧ But (OwnR rb gs gp) w wx)
      case first =>
        go_wp2_with fail
        go_meet
        exact ⟨H3.out.but (((((((But.refl (fun j => j = w.heap.size) w3).set ⟨w.heap.size, 0, none⟩ _ (.inl rfl)).set ⟨w.heap.size, 1, none⟩ _ (.inl rfl)).set ⟨w.heap.size, 2, none⟩ _ (.inl rfl)).set ⟨w.heap.size, 3, none⟩ _ (.inl rfl)).set ⟨w.heap.size, 4, none⟩ _ (.inl rfl)).set ⟨w.heap.size, 5, none⟩ _ (.inl rfl)) (fun k hk e => by have := hown.out k hk; omega), (by have := (((((HP3.out.set_ 0 (.int .i64 0)).set_ 1 (.int .i64 0)).set_ 2 (.int .i64 0)).set_ 3 (.int .i64 0)).set_ 4 (.int .i64 0)).set_ 5 (.bool false); simpa using this), HG3.out.step (((((((But.refl (fun j => j = w.heap.size) w3).set ⟨w.heap.size, 0, none⟩ _ (.inl rfl)).set ⟨w.heap.size, 1, none⟩ _ (.inl rfl)).set ⟨w.heap.size, 2, none⟩ _ (.inl rfl)).set ⟨w.heap.size, 3, none⟩ _ (.inl rfl)).set ⟨w.heap.size, 4, none⟩ _ (.inl rfl)).set ⟨w.heap.size, 5, none⟩ _ (.inl rfl)) (fun k hk e => by have : k = w.heap.size := e; omega)⟩
      case rest =>
        clear o0 o1 o2 o3 o4 of y0 y1 y2 y3 y4 y5 yf
        obtain ⟨hr4, hp4, hg4⟩ := hcut
        rename World => w4
        have H4 := Lib.hid hr4; have HP4 := Lib.hid hp4; have HG4 := Lib.hid hg4
        clear hr4 hp4 hg4 H3 HP3 HG3
        obtain ⟨o0, o1, o2, o3, o4⟩ := H4.out.cells
        have of := H4.out.free
        have y0 := HP4.out.cell 0; have y1 := HP4.out.cell 1; have y2 := HP4.out.cell 2; have y3 := HP4.out.cell 3; have y4 := HP4.out.cell 4; have y5 := HP4.out.cell 5
        have yf := HP4.out.free
        simp only [List.getElem?_toArray, List.getElem?_cons_zero, List.getElem?_cons_succ] at y0 y1 y2 y3 y4 y5
        obtain ⟨p0, p1, p2, p3, p4, p5⟩ := H4.out.party hk
        have pf := H4.out.pfree
        go_wp2_with fail
        go_still_tail 7, (by kernel_rfl)
        change wpList _ _ _ _ _ w4.drew
        have hr9 : RfV rb gs gp top bot sl room th P w4.drew := H4.out.but (But.refl Nob _).drew (fun _ _ q => q)
        have hg9 := HG4.out.drew
        obtain ⟨p0, p1, p2, p3, p4, p5⟩ := hr9.party hk
        have pf := hr9.pfree
        have HR9 := Lib.hid hr9; have HG9 := Lib.hid hg9
        clear hr9 hg9 o0 o1 o2 o3 o4 of y0 y1 y2 y3 y4 y5 yf H4 HP4 HG4
        generalize w4.drew = w9 at *
        go_wp2_with fail
        (go_ret3; rw [HM.out])
        refine ⟨rfl, HR9.out.sparty hk ⟨0, 0, 0, 0, 0, false⟩, ?_⟩
        exact (((((HG9.out.set ⟨gp, k * 6, none⟩ _ (.inl (.inr (.inr rfl)))).set ⟨gp, k * 6 + 1, none⟩ _ (.inl (.inr (.inr rfl)))).set ⟨gp, k * 6 + 2, none⟩ _ (.inl (.inr (.inr rfl)))).set ⟨gp, k * 6 + 3, none⟩ _ (.inl (.inr (.inr rfl)))).set ⟨gp, k * 6 + 4, none⟩ _ (.inl (.inr (.inr rfl)))).set ⟨gp, k * 6 + 5, none⟩ _ (.inl (.inr (.inr rfl)))
set_option maxRecDepth 100000 in
set_option maxHeartbeats 8000000 in
theorem ref_7n {rb gs gp : Nat} {top bot : Int} {sl : Nat → Int} {room th : Nat} {P : Nat → Pt} {w : World} (k : Nat) (u t x : Int) (q : Bool) (h : RfV rb gs gp top bot sl room th P w) (hk : k ≤ th) (hP : P k = ⟨2, 3, u, t, x, q⟩) (hu : 0 ≤ u ∧ u ≤ 1000000) (hc : ¬ t < u) :
    Calls Try.prog 39 #[.pointer (some ⟨rb, 0, none⟩), .int .i64 k] w (RefP rb gs gp k room th P w 0 0 top bot sl ⟨2, 4, u, t, sl (slotN room u), q⟩) := by
  obtain ⟨c0, c1, c2, c3, c4, c5⟩ := h.party hk
  rw [hP] at c0 c1 c2 c3 c4 c5
  have c0 : w.cell? ⟨gp, k * 6, none⟩ = some (.int .i64 2) := c0
  have c1 : w.cell? ⟨gp, k * 6 + 1, none⟩ = some (.int .i64 3) := c1
  dsimp only at c2 c3 c4 c5
  obtain ⟨o0, o1, o2, o3, o4⟩ := h.cells
  have k0 : (0 : Int) ≤ (k : Int) := by omega
  have k1 : (k : Int) < (th : Int) + 1 := by omega
  have k2 : decide (th + 1 ≤ k) = false := by simp; omega
  have k3 : ¬ th + 1 ≤ k := by omega
  have k4 : ¬ (th : Int) + 1 ≤ (k : Int) := by omega
  have hth := h.th8
  have hown : Hid (∀ j, OwnR rb gs gp j → j < w.heap.size) := fun j hj => h.lt hj
  have hlt : Hid (rb < w.heap.size ∧ gs < w.heap.size ∧ gp < w.heap.size) := ⟨h.lt (.inl rfl), h.lt (.inr (.inl rfl)), h.lt (.inr (.inr rfl))⟩
  have h1 : RfV rb gs gp top bot sl room th P (w.alloc (.cells #[.int .i64 2, .int .i64 3, .int .i64 u, .int .i64 t, .int .i64 x, .bool q] 38)) := h.but ((But.refl Nob w).alloc _) (fun _ _ q => q)
  have hp1 : Blk (w.alloc (.cells #[.int .i64 2, .int .i64 3, .int .i64 u, .int .i64 t, .int .i64 x, .bool q] 38)) w.heap.size 38 #[.int .i64 2, .int .i64 3, .int .i64 u, .int .i64 t, .int .i64 x, .bool q] := Blk.new _ _ _
  have hg1 : But (OwnR rb gs gp) w (w.alloc (.cells #[.int .i64 2, .int .i64 3, .int .i64 u, .int .i64 t, .int .i64 x, .bool q] 38)) := (But.refl _ _).alloc _
  have hr1 := h.r1; have hr2 := h.r2
  have H1 := Lib.hid h1; have HP1 := Lib.hid hp1; have HG1 := Lib.hid hg1; have HPP := Lib.hid hP
  clear h h1 hp1 hg1 hP
  go_enter Try.func39, Try.ntmps39
  go_upto_region 4 with fail
  clear c0 c1 c2 c3 c4 c5 o0 o1 o2 o3 o4
  generalize w.alloc (.cells #[.int .i64 2, .int .i64 3, .int .i64 u, .int .i64 t, .int .i64 x, .bool q] 38) = w1 at *
  obtain ⟨o0, o1, o2, o3, o4⟩ := H1.out.cells
  have of := H1.out.free
  have y0 := HP1.out.cell 0; have y1 := HP1.out.cell 1; have y2 := HP1.out.cell 2; have y3 := HP1.out.cell 3; have y4 := HP1.out.cell 4; have y5 := HP1.out.cell 5
  have yf := HP1.out.free
  simp only [List.getElem?_toArray, List.getElem?_cons_zero, List.getElem?_cons_succ] at y0 y1 y2 y3 y4 y5
  obtain ⟨n, rfl⟩ : ∃ n : Nat, u = n := ⟨(u).toNat, by omega⟩
  obtain ⟨m, hm⟩ : ∃ m, m = n % room := ⟨_, rfl⟩
  have m64 : m < room := by rw [hm]; exact Nat.mod_lt _ (by omega)
  have q1 : (n : Int).tmod (room : Int) = (m : Int) := by rw [hm, Int.tmod_eq_emod_of_nonneg (by omega)]; rfl
  have q2 : (n : Int) % (room : Int) = (m : Int) := by rw [hm]; rfl
  have rr0 : ¬ (room : Int) = 0 := by omega
  have rr1 : ((room : Int) == 0) = false := by simp; omega
  have rr2 : ¬ room = 0 := by omega
  have m0 : (0 : Int) ≤ (m : Int) := by omega
  have m1 : (m : Int) < (room : Int) := by omega
  have HM : Hid (slotN room (n : Int) = m) := by rw [hm]; rfl
  obtain ⟨sm, sf⟩ := H1.out.slot m64
  clear hm hu
  go_upto_region 26 with fail
  go_cut [] (fun wx => RfV rb gs gp top bot sl room th P wx ∧ Blk wx w.heap.size 38 #[.int .i64 2, .int .i64 3, .int .i64 (n : Int), .int .i64 t, .int .i64 (sl m), .bool q] ∧ But (OwnR rb gs gp) w wx)
  case first =>
    go_wp2_with fail
    go_still_tail 14, (by kernel_rfl)
    change wpList _ _ _ _ _ w1.drew
    go_wp2_with fail
    go_meet
    exact ⟨(H1.out.but ((But.refl (fun j => j = w.heap.size) _).set ⟨w.heap.size, 4, none⟩ (.int .i64 ((sl m))) (.inl rfl)) (fun k hk e => by have := hown.out k hk; omega)).but ((But.refl Nob _).drew) (fun _ _ q => q), (show Blk (w1.setCell ⟨w.heap.size, 4, none⟩ (.int .i64 ((sl m)))) w.heap.size 38 #[.int .i64 2, .int .i64 3, .int .i64 (n : Int), .int .i64 t, .int .i64 (sl m), .bool q] from (by have := HP1.out.set_ 4 (.int .i64 ((sl m))); simpa using this)), (HG1.out.set ⟨w.heap.size, 4, none⟩ (.int .i64 ((sl m))) (.inr (Nat.le_refl _))).drew⟩
  case rest =>
    clear o0 o1 o2 o3 o4 of y0 y1 y2 y3 y4 y5 yf
    obtain ⟨hr2, hp2, hg2⟩ := hcut
    rename World => w2
    have H2 := Lib.hid hr2; have HP2 := Lib.hid hp2; have HG2 := Lib.hid hg2
    clear hr2 hp2 hg2 H1 HP1 HG1
    obtain ⟨o0, o1, o2, o3, o4⟩ := H2.out.cells
    have of := H2.out.free
    have y0 := HP2.out.cell 0; have y1 := HP2.out.cell 1; have y2 := HP2.out.cell 2; have y3 := HP2.out.cell 3; have y4 := HP2.out.cell 4; have y5 := HP2.out.cell 5
    have yf := HP2.out.free
    simp only [List.getElem?_toArray, List.getElem?_cons_zero, List.getElem?_cons_succ] at y0 y1 y2 y3 y4 y5
    have tr : decide (t < (n : Int)) = false := by simpa using hc
    go_upto_region 50 with fail
    go_cut [] (fun wx => RfV rb gs gp top bot sl room th P wx ∧ Blk wx w.heap.size 38 #[.int .i64 2, .int .i64 4, .int .i64 (n : Int), .int .i64 t, .int .i64 (sl m), .bool q] ∧ But (OwnR rb gs gp) w wx)
    case first =>
      go_wp2_with fail
      go_meet
      exact ⟨H2.out.but ((But.refl (fun j => j = w.heap.size) _).set ⟨w.heap.size, 1, none⟩ _ (.inl rfl)) (fun k hk e => by have := hown.out k hk; omega), (by have := HP2.out.set_ 1 (.int .i64 4); simpa using this), HG2.out.set ⟨w.heap.size, 1, none⟩ _ (.inr (Nat.le_refl _))⟩
    case rest =>
      clear o0 o1 o2 o3 o4 of y0 y1 y2 y3 y4 y5 yf
      obtain ⟨hr3, hp3, hg3⟩ := hcut
      rename World => w3
      have H3 := Lib.hid hr3; have HP3 := Lib.hid hp3; have HG3 := Lib.hid hg3
      clear hr3 hp3 hg3 H2 HP2 HG2
      obtain ⟨o0, o1, o2, o3, o4⟩ := H3.out.cells
      have of := H3.out.free
      have y0 := HP3.out.cell 0; have y1 := HP3.out.cell 1; have y2 := HP3.out.cell 2; have y3 := HP3.out.cell 3; have y4 := HP3.out.cell 4; have y5 := HP3.out.cell 5
      have yf := HP3.out.free
      simp only [List.getElem?_toArray, List.getElem?_cons_zero, List.getElem?_cons_succ] at y0 y1 y2 y3 y4 y5
      obtain ⟨p0, p1, p2, p3, p4, p5⟩ := H3.out.party hk
      have pf := H3.out.pfree
      go_wp2_with fail
      go_still_tail 7, (by kernel_rfl)
      change wpList _ _ _ _ _ w3.drew
      have hr9 : RfV rb gs gp top bot sl room th P w3.drew := H3.out.but (But.refl Nob _).drew (fun _ _ q => q)
      have hg9 := HG3.out.drew
      obtain ⟨p0, p1, p2, p3, p4, p5⟩ := hr9.party hk
      have pf := hr9.pfree
      have HR9 := Lib.hid hr9; have HG9 := Lib.hid hg9
      clear hr9 hg9 o0 o1 o2 o3 o4 of y0 y1 y2 y3 y4 y5 yf H3 HP3 HG3
      generalize w3.drew = w9 at *
      go_wp2_with fail
      (go_ret3; rw [HM.out])
      refine ⟨rfl, HR9.out.sparty hk ⟨2, 4, (n : Int), t, (sl m), q⟩, ?_⟩
      exact (((((HG9.out.set ⟨gp, k * 6, none⟩ _ (.inl (.inr (.inr rfl)))).set ⟨gp, k * 6 + 1, none⟩ _ (.inl (.inr (.inr rfl)))).set ⟨gp, k * 6 + 2, none⟩ _ (.inl (.inr (.inr rfl)))).set ⟨gp, k * 6 + 3, none⟩ _ (.inl (.inr (.inr rfl)))).set ⟨gp, k * 6 + 4, none⟩ _ (.inl (.inr (.inr rfl)))).set ⟨gp, k * 6 + 5, none⟩ _ (.inl (.inr (.inr rfl)))
end Go.Proofs.Ytfejimlfnelhhaa
