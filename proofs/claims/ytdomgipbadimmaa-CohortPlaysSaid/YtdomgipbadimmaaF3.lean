/- One thing done, by the code and by the document: Take at a lock that there is (layer 14). -/
import Derived.Test.YtdomgipbadimmaaF2
namespace Go.Proofs.Ytdomgipbadimmaa
open Go.RowKit
set_option maxRecDepth 100000

section
variable {w0 W : World} {Z : Nat → Prop} {pb lb xb k n : Nat} {ks : List Coh}
set_option maxHeartbeats 16000000 in
theorem do_take_in (K i : Nat) (J L : Int) (h : TwoD w0 Z pb lb xb k ks W) (hn : ks.length = n) (hk : k ≤ 80) (hK : K % 5 < 2) (hi : i < n) : Calls Try.prog 15 #[.pointer (some ⟨pb, 0, none⟩), .slice (some ⟨xb, 0, none⟩) n n, .agg #[.int .u64 K, .int .i64 (i : Int), .int .i64 J, .int .i64 L]] W (DoP14 w0 Z W pb lb xb k n) := by
  obtain ⟨r, hr⟩ : ∃ r, K % 5 = r := ⟨_, rfl⟩
  have hm : (K : Int).tmod 5 = (r : Int) := by rw [Int.tmod_eq_emod_of_nonneg (by omega)]; omega
  have t2 : (r : Int) < 2 := by omega
  have i0 : (0 : Int) ≤ (i : Int) := by omega
  have i1 : (i : Int) < (n : Int) := by omega
  obtain ⟨lab, a, b, d⟩ := h.ex
  have HNE := Lib.hid b.ne
  obtain ⟨c, hc⟩ : ∃ c, ks[i]? = some c := ⟨_, List.getElem?_eq_getElem (by omega)⟩
  have hxl := b.lt
  have hal : But Nob W (W.alloc (.cells #[.int .u64 K, .int .i64 i, .int .i64 J, .int .i64 L] 45)) := (But.refl _ _).alloc _
  have hsz : (W.alloc (.cells #[.int .u64 K, .int .i64 i, .int .i64 J, .int .i64 L] 45)).heap.size = W.heap.size + 1 := by simp
  have hbx := Blk.new W 45 #[.int .u64 K, .int .i64 i, .int .i64 J, .int .i64 L]
  have a1 : CohL (CodeB w0 (fun x => Z x ∨ x = W.heap.size) xb) pb lb lab ks W := a.away fun k hk hB => ⟨hB.1, hB.2.1, fun q => q.elim hB.2.2 (fun e => by omega)⟩
  have a2 := a1.nob hal
  have b1 := b.but hal fun _ _ q => q
  have low1 : Below w0.heap.size w0 (W.alloc (.cells #[.int .u64 K, .int .i64 i, .int .i64 J, .int .i64 L] 45)) := h.low.trans (hal.below (B := w0.heap.size) h.low.size fun _ _ q => q.elim)
  obtain ⟨_, _, _, _, _, _, hcb, _⟩ := b.at hc
  have hcb9 : CohB c 900 := ⟨by have := hcb.pas; omega, by have := hcb.rnd; omega, fun x hx => by have := hcb.row x hx; omega⟩
  have P := Lib.hid (takeL_any J L a2 hc hcb9 (fun q hq => ⟨by have := h.low.size; omega, by omega, fun e => e.elim (fun e => by have := d q e; omega) (fun e => by omega)⟩))
  have HFR := Lib.hid (hal.nob (X := fun x => ¬ Z x))
  have HX := Lib.hid h.xlow; have HN := Lib.hid hn; have HC := Lib.hid hc; have HD := Lib.hid d; have HL1 := Lib.hid low1; have HB1 := Lib.hid b1; have HBX := Lib.hid hbx; have HSZ := Lib.hid hsz
  have HLW := Lib.hid h.low.size
  clear h a b d a1 a2 b1 low1 hal hsz hbx hcb hcb9 hr hK hc
  go_enter Try.func15, Try.ntmps15
  go_wp2_with fail
  generalize W.alloc (.cells #[.int .u64 K, .int .i64 i, .int .i64 J, .int .i64 L] 45) = W1 at *
  refine P.out.mono ?_
  rintro e9 w2 ⟨⟨rfl, lab', hcoh⟩, hbut⟩
  dsimp only
  have hb2 := HBX.out.but hbut (fun q => q.2.2 (.inr rfl))
  have b2 := HB1.out.but hbut (fun x q hB => q.elim (fun q => hB.2.2 (.inl q)) (fun q => hB.2.1 q))
  have low2 : Below w0.heap.size w0 w2 := HL1.out.trans (hbut.below (B := w0.heap.size) HL1.out.size fun _ _ q => q.1)
  obtain ⟨E, wv, rv, hdl, hrel, hEk, hcb, x0, x1, x2, x3, x4, x5⟩ := b2.at HC.out
  have hf : ∀ j, w2.frozen? ⟨xb, j, none⟩ = false := fun j => b2.free j
  have z0 := hb2.cell 0; have z1 := hb2.cell 1; have z2 := hb2.cell 2; have z3 := hb2.cell 3
  simp only [List.getElem?_toArray, List.getElem?_cons_zero, List.getElem?_cons_succ] at z0 z1 z2 z3
  obtain ⟨A1, n1, c1, rfl⟩ := hdl.wts.slice
  obtain ⟨A2, n2, c2, rfl⟩ := hdl.rnd.slice
  obtain ⟨c', hc'⟩ : ∃ x, takeT c J L = x := ⟨_, rfl⟩
  obtain ⟨gb, hgb⟩ : ∃ x, (takeE c J L).1 = x := ⟨_, rfl⟩
  obtain ⟨er, her⟩ : ∃ x, (takeE c J L).2 = x := ⟨_, rfl⟩
  have HDT : Hid (∀ X, But Nob w2 X → Calls Try.prog 41 #[.agg #[.bool (heldD c), .int .i64 (ownD c), .int .i64 c.soc, .int .i64 c.pas, .slice A1 n1 c1, .slice A2 n2 c2], .int .i64 J, .int .i64 L] X (fun e w' => ∃ Av nv cv Ar nr cr, e = .returned (.tuple #[.agg #[.bool (heldD c'), .int .i64 (ownD c'), .int .i64 c'.soc, .int .i64 c'.pas, .slice Av nv cv, .slice Ar nr cr], .bool gb, .int .i64 er]) ∧ DLk (Since Z X) c' (takeW c E J L) (.slice Av nv cv) (.slice Ar nr cr) w' ∧ Below X.heap.size X w')) := fun X hX => by
    refine (dtake_any J L (hdl.but hX fun _ _ q => q) hrel (by omega) (by have := hcb.rnd; unfold rndL; rw [List.length_map]; omega)).mono ?_
    rintro e w' ⟨wv, rv, rfl, hd, hb⟩
    obtain ⟨Av, nv, cv, rfl⟩ := hd.wts.slice
    obtain ⟨Ar, nr, cr, rfl⟩ := hd.rnd.slice
    rw [hc'] at hd
    refine ⟨Av, nv, cv, Ar, nr, cr, ?_, hd, hb⟩
    rw [hc', hgb, her]; rfl
  rw [hc'] at hcoh
  have HFIN : Hid (∀ D5 w5 W6 yb wv rv, Below w2.heap.size w2 w5 → DLk D5 c' (takeW c E J L) wv rv w5 → (∀ g, g < w5.heap.size → D5 g → (Z g ∨ w2.heap.size ≤ g) ∧ g ≠ yb) → But (fun x => x = yb) w5 W6 → w2.heap.size ≤ yb → DoP14 w0 Z W pb lb xb k n (.returned (.bool true)) (put6 W6 xb (i * 6) (.bool (heldD c')) (.int .i64 (ownD c')) (.int .i64 c'.soc) (.int .i64 c'.pas) wv rv)) := fun D5 w5 W6 yb wv rv q1 q2 q3 q4 q5 =>
    ⟨rfl, ⟨ks.set i c', by rw [List.length_set]; exact HN.out, two_turn (fun x q => .inl q) hcoh b2 (fun x q => by have := HD.out x q; have := HSZ.out; have := hbut.size; omega) HX.out low2 (by rw [HN.out]; exact hi) q1 q2 q3 (by rw [← hc']; exact hrel.take J L) (Nat.le_trans (takeW_len c E J L) (by omega)) (by rw [← hc']; exact take_b hcb J L) q4 q5⟩, HFR.out.trans (frame_turn hbut HNE.out q1 q4 q5 _ _ _ _ _ _)⟩
  rw [hgb, her]
  have HLT2 : Hid (W.heap.size < w2.heap.size) := hb2.lt
  have HSW : Hid (W.heap.size < w2.heap.size) := hb2.lt
  have HXL : Hid (xb < w2.heap.size) := b2.lt
  generalize heldD c = b0 at *
  generalize ownD c = o at *
  generalize c.soc = b2' at *
  generalize c.pas = b3 at *
  have HF := Lib.hid hf
  have HPC : Hid (∀ X, But Nob w2 X → X.cell? ⟨xb, i * 6, none⟩ = some (.bool b0) ∧ X.cell? ⟨xb, i * 6 + 1, none⟩ = some (.int .i64 o) ∧ X.cell? ⟨xb, i * 6 + 2, none⟩ = some (.int .i64 b2') ∧ X.cell? ⟨xb, i * 6 + 3, none⟩ = some (.int .i64 b3) ∧ X.cell? ⟨xb, i * 6 + 4, none⟩ = some (.slice A1 n1 c1) ∧ X.cell? ⟨xb, i * 6 + 5, none⟩ = some (.slice A2 n2 c2) ∧ (∀ j, X.frozen? ⟨xb, j, none⟩ = false) ∧ X.cell? ⟨W.heap.size, 1, none⟩ = some (.int .i64 i) ∧ xb < X.heap.size) := fun X hX => by
    have hl := b2.lt
    exact ⟨(hX.cell0 hl id).trans x0, (hX.cell0 hl id).trans x1, (hX.cell0 hl id).trans x2, (hX.cell0 hl id).trans x3, (hX.cell0 hl id).trans x4, (hX.cell0 hl id).trans x5, fun j => (b2.but hX fun _ _ q => q).free j, (hX.cell0 hb2.lt id).trans z1, Nat.lt_of_lt_of_le hl hX.size⟩
  clear hdl hrel hEk hcb hc' hgb her hcoh low2 b2 hbut hf P HB1 HL1 HBX HC hb2
  go_upto_region 6 with fail
  have HB2 := Lib.hid (But.refl Nob w2)
  go_region_held3 (fun X => X.cell? ⟨W.heap.size, 1, none⟩ = some (.int .i64 i) ∧ X.cell? ⟨W.heap.size, 2, none⟩ = some (.int .i64 J) ∧ X.cell? ⟨W.heap.size, 3, none⟩ = some (.int .i64 L) ∧ X.cell? ⟨xb, i * 6, none⟩ = some (.bool b0) ∧ X.cell? ⟨xb, i * 6 + 1, none⟩ = some (.int .i64 o) ∧ X.cell? ⟨xb, i * 6 + 2, none⟩ = some (.int .i64 b2') ∧ X.cell? ⟨xb, i * 6 + 3, none⟩ = some (.int .i64 b3) ∧ X.cell? ⟨xb, i * 6 + 4, none⟩ = some (.slice A1 n1 c1) ∧ X.cell? ⟨xb, i * 6 + 5, none⟩ = some (.slice A2 n2 c2)) (first | with_reducible exact ⟨y1, y2, y3, v0, v1, v2, v3, v4, v5⟩ | with_reducible exact ⟨t1, t2', t3, p0, p1, p2, p3, p4, p5⟩ | go_keep)
    (first
      | (go_at_call 41; refine (HDT.out _ HB2.out.drew).mono ?_; rintro e5 w5 ⟨Av, nv, cv, Ar, nr, cr, rfl, hd5, hb5⟩; have hu5 := HB2.out.drew.trans (But.of_below (X := Nob) hb5); obtain ⟨v0, v1, v2, v3, v4, v5, -, y1, -⟩ := HPC.out w5 hu5; have y2 := (hu5.cell0 (j := 2) HLT2.out id).trans z2; have y3 := (hu5.cell0 (j := 3) HLT2.out id).trans z3; have H5 := Lib.hid hd5; have HU5 := Lib.hid hu5; have HOR := Lib.hid (show (1 : Nat) = 1 from rfl); clear hd5 hb5 hu5)
      | (go_at_call 41; refine (HDT.out _ (HB2.out.alloc _).drew).mono ?_; rintro e5 w5 ⟨Av, nv, cv, Ar, nr, cr, rfl, hd5, hb5⟩; have hu5 := (HB2.out.alloc _).drew.trans (But.of_below (X := Nob) hb5); obtain ⟨v0, v1, v2, v3, v4, v5, -, y1, -⟩ := HPC.out w5 hu5; have y2 := (hu5.cell0 (j := 2) HLT2.out id).trans z2; have y3 := (hu5.cell0 (j := 3) HLT2.out id).trans z3; have hy5 := (show Blk (w2.alloc (.cells #[.bool false, .int .i64 0, .int .i64 0, .int .i64 0, .slice none 0 0, .slice none 0 0] 93)).drew w2.heap.size 93 #[.bool false, .int .i64 0, .int .i64 0, .int .i64 0, .slice none 0 0, .slice none 0 0] from Blk.new w2 _ _).below hb5 (by show w2.heap.size < (w2.alloc (.cells #[.bool false, .int .i64 0, .int .i64 0, .int .i64 0, .slice none 0 0, .slice none 0 0] 93)).heap.size; simp); have s0 := hy5.cell 0; have s1 := hy5.cell 1; have s2 := hy5.cell 2; have s3 := hy5.cell 3; have s4 := hy5.cell 4; have s5 := hy5.cell 5; simp only [List.getElem?_toArray, List.getElem?_cons_zero, List.getElem?_cons_succ] at s0 s1 s2 s3 s4 s5; have r0 := hy5.free 0; have r1 := hy5.free 1; have r2 := hy5.free 2; have r3 := hy5.free 3; have r4 := hy5.free 4; have r5 := hy5.free 5; have H5 := Lib.hid hd5; have HU5 := Lib.hid hu5; have hu6 := but6 (X := fun x => x = w2.heap.size) (But.refl _ w5) rfl (.bool (heldD c')) (.int .i64 (ownD c')) (.int .i64 c'.soc) (.int .i64 c'.pas) (.slice Av nv cv) (.slice Ar nr cr); have t1 : (((((((w5.setCell ⟨w2.heap.size, 0, none⟩ (.bool (heldD c'))).setCell ⟨w2.heap.size, 1, none⟩ (.int .i64 (ownD c'))).setCell ⟨w2.heap.size, 2, none⟩ (.int .i64 c'.soc)).setCell ⟨w2.heap.size, 3, none⟩ (.int .i64 c'.pas)).setCell ⟨w2.heap.size, 4, none⟩ (.slice Av nv cv)).setCell ⟨w2.heap.size, 5, none⟩ (.slice Ar nr cr))).cell? ⟨W.heap.size, 1, none⟩ = _ := (hu6.cell0 (Nat.lt_of_lt_of_le HLT2.out hu5.size) (by have := HLT2.out; omega)).trans y1; have t2' : (((((((w5.setCell ⟨w2.heap.size, 0, none⟩ (.bool (heldD c'))).setCell ⟨w2.heap.size, 1, none⟩ (.int .i64 (ownD c'))).setCell ⟨w2.heap.size, 2, none⟩ (.int .i64 c'.soc)).setCell ⟨w2.heap.size, 3, none⟩ (.int .i64 c'.pas)).setCell ⟨w2.heap.size, 4, none⟩ (.slice Av nv cv)).setCell ⟨w2.heap.size, 5, none⟩ (.slice Ar nr cr))).cell? ⟨W.heap.size, 2, none⟩ = _ := (hu6.cell0 (Nat.lt_of_lt_of_le HLT2.out hu5.size) (by have := HLT2.out; omega)).trans y2; have t3 : (((((((w5.setCell ⟨w2.heap.size, 0, none⟩ (.bool (heldD c'))).setCell ⟨w2.heap.size, 1, none⟩ (.int .i64 (ownD c'))).setCell ⟨w2.heap.size, 2, none⟩ (.int .i64 c'.soc)).setCell ⟨w2.heap.size, 3, none⟩ (.int .i64 c'.pas)).setCell ⟨w2.heap.size, 4, none⟩ (.slice Av nv cv)).setCell ⟨w2.heap.size, 5, none⟩ (.slice Ar nr cr))).cell? ⟨W.heap.size, 3, none⟩ = _ := (hu6.cell0 (Nat.lt_of_lt_of_le HLT2.out hu5.size) (by have := HLT2.out; omega)).trans y3; have p0 : (((((((w5.setCell ⟨w2.heap.size, 0, none⟩ (.bool (heldD c'))).setCell ⟨w2.heap.size, 1, none⟩ (.int .i64 (ownD c'))).setCell ⟨w2.heap.size, 2, none⟩ (.int .i64 c'.soc)).setCell ⟨w2.heap.size, 3, none⟩ (.int .i64 c'.pas)).setCell ⟨w2.heap.size, 4, none⟩ (.slice Av nv cv)).setCell ⟨w2.heap.size, 5, none⟩ (.slice Ar nr cr))).cell? ⟨xb, i * 6, none⟩ = _ := (hu6.cell0 (Nat.lt_of_lt_of_le HXL.out hu5.size) (by have := HXL.out; omega)).trans v0; have p1 : (((((((w5.setCell ⟨w2.heap.size, 0, none⟩ (.bool (heldD c'))).setCell ⟨w2.heap.size, 1, none⟩ (.int .i64 (ownD c'))).setCell ⟨w2.heap.size, 2, none⟩ (.int .i64 c'.soc)).setCell ⟨w2.heap.size, 3, none⟩ (.int .i64 c'.pas)).setCell ⟨w2.heap.size, 4, none⟩ (.slice Av nv cv)).setCell ⟨w2.heap.size, 5, none⟩ (.slice Ar nr cr))).cell? ⟨xb, i * 6 + 1, none⟩ = _ := (hu6.cell0 (Nat.lt_of_lt_of_le HXL.out hu5.size) (by have := HXL.out; omega)).trans v1; have p2 : (((((((w5.setCell ⟨w2.heap.size, 0, none⟩ (.bool (heldD c'))).setCell ⟨w2.heap.size, 1, none⟩ (.int .i64 (ownD c'))).setCell ⟨w2.heap.size, 2, none⟩ (.int .i64 c'.soc)).setCell ⟨w2.heap.size, 3, none⟩ (.int .i64 c'.pas)).setCell ⟨w2.heap.size, 4, none⟩ (.slice Av nv cv)).setCell ⟨w2.heap.size, 5, none⟩ (.slice Ar nr cr))).cell? ⟨xb, i * 6 + 2, none⟩ = _ := (hu6.cell0 (Nat.lt_of_lt_of_le HXL.out hu5.size) (by have := HXL.out; omega)).trans v2; have p3 : (((((((w5.setCell ⟨w2.heap.size, 0, none⟩ (.bool (heldD c'))).setCell ⟨w2.heap.size, 1, none⟩ (.int .i64 (ownD c'))).setCell ⟨w2.heap.size, 2, none⟩ (.int .i64 c'.soc)).setCell ⟨w2.heap.size, 3, none⟩ (.int .i64 c'.pas)).setCell ⟨w2.heap.size, 4, none⟩ (.slice Av nv cv)).setCell ⟨w2.heap.size, 5, none⟩ (.slice Ar nr cr))).cell? ⟨xb, i * 6 + 3, none⟩ = _ := (hu6.cell0 (Nat.lt_of_lt_of_le HXL.out hu5.size) (by have := HXL.out; omega)).trans v3; have p4 : (((((((w5.setCell ⟨w2.heap.size, 0, none⟩ (.bool (heldD c'))).setCell ⟨w2.heap.size, 1, none⟩ (.int .i64 (ownD c'))).setCell ⟨w2.heap.size, 2, none⟩ (.int .i64 c'.soc)).setCell ⟨w2.heap.size, 3, none⟩ (.int .i64 c'.pas)).setCell ⟨w2.heap.size, 4, none⟩ (.slice Av nv cv)).setCell ⟨w2.heap.size, 5, none⟩ (.slice Ar nr cr))).cell? ⟨xb, i * 6 + 4, none⟩ = _ := (hu6.cell0 (Nat.lt_of_lt_of_le HXL.out hu5.size) (by have := HXL.out; omega)).trans v4; have p5 : (((((((w5.setCell ⟨w2.heap.size, 0, none⟩ (.bool (heldD c'))).setCell ⟨w2.heap.size, 1, none⟩ (.int .i64 (ownD c'))).setCell ⟨w2.heap.size, 2, none⟩ (.int .i64 c'.soc)).setCell ⟨w2.heap.size, 3, none⟩ (.int .i64 c'.pas)).setCell ⟨w2.heap.size, 4, none⟩ (.slice Av nv cv)).setCell ⟨w2.heap.size, 5, none⟩ (.slice Ar nr cr))).cell? ⟨xb, i * 6 + 5, none⟩ = _ := (hu6.cell0 (Nat.lt_of_lt_of_le HXL.out hu5.size) (by have := HXL.out; omega)).trans v5; have HU6 := Lib.hid hu6; have HY5 := Lib.hid hy5; clear hd5 hb5 hu5 hy5 hu6))
  · have hY6 := Blk.new w5 93 #[.bool (heldD c'), .int .i64 (ownD c'), .int .i64 c'.soc, .int .i64 c'.pas, .slice Av nv cv, .slice Ar nr cr]
    have h6 : But (fun x => x = w5.heap.size) w5 (w5.alloc (.cells #[.bool (heldD c'), .int .i64 (ownD c'), .int .i64 c'.soc, .int .i64 c'.pas, .slice Av nv cv, .slice Ar nr cr] 93)) := (But.refl _ _).alloc _
    have hu6 : But Nob w2 (w5.alloc (.cells #[.bool (heldD c'), .int .i64 (ownD c'), .int .i64 c'.soc, .int .i64 c'.pas, .slice Av nv cv, .slice Ar nr cr] 93)) := HU5.out.alloc _
    have HF9 := Lib.hid (HFIN.out _ w5 (w5.alloc (.cells #[.bool (heldD c'), .int .i64 (ownD c'), .int .i64 c'.soc, .int .i64 c'.pas, .slice Av nv cv, .slice Ar nr cr] 93)) w5.heap.size _ _ (HU5.out.below (B := w2.heap.size) (Nat.le_refl _) fun _ _ q => q.elim) H5.out (fun g hg q => ⟨q, by omega⟩) h6 HU5.out.size)
    clear v0 v1 v2 v3 v4 v5 y1 y2 y3 x0 x1 x2 x3 x4 x5 z0 z1 z2 z3 h6 H5 HU5
    generalize w5.alloc (.cells #[.bool (heldD c'), .int .i64 (ownD c'), .int .i64 c'.soc, .int .i64 c'.pas, .slice Av nv cv, .slice Ar nr cr] 93) = W6 at *
    generalize w5.heap.size = yb at *
    obtain ⟨x0, x1, x2, x3, x4, x5, hfz, y1, -⟩ := HPC.out W6 hu6
    have f0 := hfz (i * 6); have f1 := hfz (i * 6 + 1); have f2 := hfz (i * 6 + 2); have f3 := hfz (i * 6 + 3); have f4 := hfz (i * 6 + 4); have f5 := hfz (i * 6 + 5)
    have q0 := hY6.cell 0; have q1 := hY6.cell 1; have q2 := hY6.cell 2; have q3 := hY6.cell 3; have q4 := hY6.cell 4; have q5 := hY6.cell 5
    simp only [List.getElem?_toArray, List.getElem?_cons_zero, List.getElem?_cons_succ] at q0 q1 q2 q3 q4 q5
    have te : (er == er) = true := by simp
    have tg : (gb == gb) = true := by simp
    clear hfz hu6 hY6 HPC HFIN HDT
    go_wp2_with fail
    go_ret
    exact HF9.out
  · obtain ⟨W6, hW6⟩ : ∃ W6, W6 = ((((((w5.setCell ⟨w2.heap.size, 0, none⟩ (.bool (heldD c'))).setCell ⟨w2.heap.size, 1, none⟩ (.int .i64 (ownD c'))).setCell ⟨w2.heap.size, 2, none⟩ (.int .i64 c'.soc)).setCell ⟨w2.heap.size, 3, none⟩ (.int .i64 c'.pas)).setCell ⟨w2.heap.size, 4, none⟩ (.slice Av nv cv)).setCell ⟨w2.heap.size, 5, none⟩ (.slice Ar nr cr)) := ⟨_, rfl⟩
    have hY6 : Blk W6 w2.heap.size 93 #[.bool (heldD c'), .int .i64 (ownD c'), .int .i64 c'.soc, .int .i64 c'.pas, .slice Av nv cv, .slice Ar nr cr] := by rw [hW6]; exact stored6 HY5.out _ _ _ _ _ _
    have h6 : But (fun x => x = w2.heap.size) w5 W6 := by rw [hW6]; exact HU6.out
    have hu6 : But Nob w2 W6 := by
      refine But.of_below ((HU5.out.below (B := w2.heap.size) (Nat.le_refl _) fun _ _ q => q.elim).trans (h6.below (B := w2.heap.size) HU5.out.size fun _ _ q => by rw [q]; exact Nat.le_refl _))
    have HF9 := Lib.hid (HFIN.out _ w5 W6 w2.heap.size _ _ (HU5.out.below (B := w2.heap.size) (Nat.le_refl _) fun _ _ q => q.elim) H5.out (fun g hg q => by
      rcases q with q | q
      · have h1 := HD.out g q; have h2 := HSW.out; exact ⟨.inl q, by omega⟩
      · have h1 : w2.heap.size + 1 ≤ g := by
          have h2 : (w2.alloc (.cells #[.bool false, .int .i64 0, .int .i64 0, .int .i64 0, .slice none 0 0, .slice none 0 0] 93)).heap.size ≤ g := q
          simpa using h2
        exact ⟨.inr (by omega), by omega⟩) h6 (Nat.le_refl _))
    clear v0 v1 v2 v3 v4 v5 y1 y2 y3 x0 x1 x2 x3 x4 x5 z0 z1 z2 z3 h6 H5 HU5 HU6 HY5 s0 s1 s2 s3 s4 s5 r0 r1 r2 r3 r4 r5 t1 t2' t3 p0 p1 p2 p3 p4 p5
    rw [← hW6]
    clear hW6
    generalize w2.heap.size = yb at *
    obtain ⟨x0, x1, x2, x3, x4, x5, hfz, y1, -⟩ := HPC.out W6 hu6
    have f0 := hfz (i * 6); have f1 := hfz (i * 6 + 1); have f2 := hfz (i * 6 + 2); have f3 := hfz (i * 6 + 3); have f4 := hfz (i * 6 + 4); have f5 := hfz (i * 6 + 5)
    have q0 := hY6.cell 0; have q1 := hY6.cell 1; have q2 := hY6.cell 2; have q3 := hY6.cell 3; have q4 := hY6.cell 4; have q5 := hY6.cell 5
    simp only [List.getElem?_toArray, List.getElem?_cons_zero, List.getElem?_cons_succ] at q0 q1 q2 q3 q4 q5
    have te : (er == er) = true := by simp
    have tg : (gb == gb) = true := by simp
    clear hfz hu6 hY6 HPC HFIN HDT
    go_wp2_with fail
    go_ret
    exact HF9.out
end
end Go.Proofs.Ytdomgipbadimmaa
