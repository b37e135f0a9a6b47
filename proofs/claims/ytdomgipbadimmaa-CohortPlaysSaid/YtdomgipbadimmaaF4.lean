/- One thing done, by the code and by the document: Give at a lock that there is (layer 14). -/
import Derived.Test.YtdomgipbadimmaaF2
namespace Go.Proofs.Ytdomgipbadimmaa
open Go.RowKit
set_option maxRecDepth 100000

theorem dropW_len (z : Int) : ∀ l : List Ent, (dropW z l).length ≤ l.length
  | [] => Nat.le_refl _
  | e :: l => by
    have := dropW_len z l
    unfold dropW
    split <;> simp only [List.length_cons] <;> omega
section
variable {w0 W : World} {Z : Nat → Prop} {pb lb xb k n : Nat} {ks : List Coh}
set_option maxHeartbeats 16000000 in
theorem do_give_in (K i : Nat) (J L : Int) (h : TwoD w0 Z pb lb xb k ks W) (hn : ks.length = n) (hk : k ≤ 80) (hK : ¬ K % 5 < 2) (hi : i < n) : Calls Try.prog 15 #[.pointer (some ⟨pb, 0, none⟩), .slice (some ⟨xb, 0, none⟩) n n, .agg #[.int .u64 K, .int .i64 (i : Int), .int .i64 J, .int .i64 L]] W (DoP14 w0 Z W pb lb xb k n) := by
  obtain ⟨r, hr⟩ : ∃ r, K % 5 = r := ⟨_, rfl⟩
  have hm : (K : Int).tmod 5 = (r : Int) := by rw [Int.tmod_eq_emod_of_nonneg (by omega)]; omega
  have t2 : ¬ (r : Int) < 2 := by omega
  have i0 : (0 : Int) ≤ (i : Int) := by omega
  have i1 : (i : Int) < (n : Int) := by omega
  obtain ⟨lab, a, b, d⟩ := h.ex
  have HNE := Lib.hid b.ne
  obtain ⟨c, hc⟩ : ∃ c, ks[i]? = some c := ⟨_, List.getElem?_eq_getElem (by omega)⟩
  have hxl := b.lt
  have hal : But Nob W (W.alloc (.cells #[.int .u64 K, .int .i64 i, .int .i64 J, .int .i64 L] 45)) := (But.refl _ _).alloc _
  have hsz : (W.alloc (.cells #[.int .u64 K, .int .i64 i, .int .i64 J, .int .i64 L] 45)).heap.size = W.heap.size + 1 := by simp
  have hbx := Blk.new W 45 #[.int .u64 K, .int .i64 i, .int .i64 J, .int .i64 L]
  have a1 : CohL (CodeB w0 (fun x => Z x ∨ x = W.heap.size) xb) pb lb lab ks W := a.away fun k hk hB => ⟨hB.1, hB.2.1, fun q => q.elim hB.2.2 (fun e => by omega)⟩
  have a2 := a1.nob hal
  have b1 := b.but hal fun _ _ q => q
  have low1 : Below w0.heap.size w0 (W.alloc (.cells #[.int .u64 K, .int .i64 i, .int .i64 J, .int .i64 L] 45)) := h.low.trans (hal.below (B := w0.heap.size) h.low.size fun _ _ q => q.elim)
  obtain ⟨_, _, _, _, _, _, hcb, _, o1, _⟩ := b1.at hc
  have hcb9 : CohB c 900 := ⟨by have := hcb.pas; omega, by have := hcb.rnd; omega, fun x hx => by have := hcb.row x hx; omega⟩
  have PG : Hid (∀ t, Calls Try.prog 21 #[.pointer (some ⟨pb, 0, none⟩), .int .i64 (i : Int), .int .i64 t] (W.alloc (.cells #[.int .u64 K, .int .i64 i, .int .i64 J, .int .i64 L] 45)) fun e w' => GiveL (CodeB w0 (fun x => Z x ∨ x = W.heap.size) xb) pb lb ks i c t e w' ∧ But (CodeB w0 (fun x => Z x ∨ x = W.heap.size) xb) (W.alloc (.cells #[.int .u64 K, .int .i64 i, .int .i64 J, .int .i64 L] 45)) w') := fun t => giveL_any t a2 hc hcb9 (fun q hq => ⟨by have := h.low.size; omega, by omega, fun e => e.elim (fun e => by have := d q e; omega) (fun e => by omega)⟩)
  have HFR := Lib.hid (hal.nob (X := fun x => ¬ Z x))
  have HX := Lib.hid h.xlow; have HN := Lib.hid hn; have HC := Lib.hid hc; have HD := Lib.hid d; have HL1 := Lib.hid low1; have HB1 := Lib.hid b1; have HBX := Lib.hid hbx; have HSZ := Lib.hid hsz
  have HLW := Lib.hid h.low.size
  clear h a b d a1 a2 b1 low1 hal hbx hcb hcb9 hK hc hsz
  by_cases h4 : r < 4
  · have t4 : (r : Int) < 4 := by omega
    clear hr h4
    go_enter Try.func15, Try.ntmps15
    go_upto_region 12 with fail
    generalize W.alloc (.cells #[.int .u64 K, .int .i64 i, .int .i64 J, .int .i64 L] 45) = W1 at *
    have z1 := HBX.out.cell 1; have z2 := HBX.out.cell 2; have z3 := HBX.out.cell 3
    simp only [List.getElem?_toArray, List.getElem?_cons_zero, List.getElem?_cons_succ] at z1 z2 z3
    clear o1
    go_upto_region 13 with (go_at_call 21; (with_reducible refine (PG.out (ownD c)).mono ?_); rintro e9 w2 ⟨⟨rfl, lab', hcoh⟩, hbut⟩)
    have hb2 := HBX.out.but hbut (fun q => q.2.2 (.inr rfl))
    have b2 := HB1.out.but hbut (fun x q hB => q.elim (fun q => hB.2.2 (.inl q)) (fun q => hB.2.1 q))
    have low2 : Below w0.heap.size w0 w2 := HL1.out.trans (hbut.below (B := w0.heap.size) HL1.out.size fun _ _ q => q.1)
    obtain ⟨E, wv, rv, hdl, hrel, hEk, hcb, x0, x1, x2, x3, x4, x5⟩ := b2.at HC.out
    have z1 := hb2.cell 1
    simp only [List.getElem?_toArray, List.getElem?_cons_zero, List.getElem?_cons_succ] at z1
    obtain ⟨A1, n1, c1, rfl⟩ := hdl.wts.slice
    obtain ⟨A2, n2, c2, rfl⟩ := hdl.rnd.slice
    obtain ⟨c', hc'⟩ : ∃ x, (if isOfC c (ownD c) = true then giveC c else c) = x := ⟨_, rfl⟩
    obtain ⟨E', hE'⟩ : ∃ x, (if isOfC c (ownD c) = true then dropW (giveC c).soc E else E) = x := ⟨_, rfl⟩
    obtain ⟨nv', hnv⟩ : ∃ x, (if isOfC c (ownD c) = true ∧ goesC c = true then (giveC c).own else 0) = x := ⟨_, rfl⟩
    obtain ⟨gb, hgb⟩ : ∃ x, (isOfC c (ownD c) && goesC c) = x := ⟨_, rfl⟩
    obtain ⟨er, her⟩ : ∃ x : Int, (if isOfC c (ownD c) = true then 0 else 8) = x := ⟨_, rfl⟩
    have hrel' : RelC c' E' := by
      rw [← hc', ← hE']
      split
      · exact hrel.give
      · exact hrel
    have hcb' : CohB c' (k + 1) := by
      rw [← hc']
      split
      · exact give_b hcb
      · exact ⟨by have := hcb.pas; omega, Nat.le_succ_of_le hcb.rnd, fun x hx => Nat.le_succ_of_le (hcb.row x hx)⟩
    have hEl : E'.length ≤ k + 1 := by
      rw [← hE']
      split
      · exact Nat.le_trans (dropW_len _ _) (by omega)
      · omega
    have HDG : Hid (Calls Try.prog 42 #[.agg #[.bool (heldD c), .int .i64 (ownD c), .int .i64 c.soc, .int .i64 c.pas, .slice A1 n1 c1, .slice A2 n2 c2], .int .i64 (ownD c)] w2 (fun e w' => ∃ Av nv cv Ar nr cr, e = .returned (.tuple #[.agg #[.bool (heldD c'), .int .i64 (ownD c'), .int .i64 c'.soc, .int .i64 c'.pas, .slice Av nv cv, .slice Ar nr cr], .int .i64 nv', .bool gb, .int .i64 er]) ∧ DLk (Since Z w2) c' E' (.slice Av nv cv) (.slice Ar nr cr) w' ∧ Below w2.heap.size w2 w')) := by
      refine (dgive_any (ownD c) hdl hrel (by omega) (by have := hcb.rnd; unfold rndL; rw [List.length_map]; omega) (by have := hcb.pas; omega)).mono ?_
      rintro e w' ⟨wv, rv, rfl, hd, hb⟩
      rw [hc', hE'] at hd
      obtain ⟨Av, nv, cv, rfl⟩ := hd.wts.slice
      obtain ⟨Ar, nr, cr, rfl⟩ := hd.rnd.slice
      refine ⟨Av, nv, cv, Ar, nr, cr, ?_, hd, hb⟩
      rw [hc', hgb, hnv, her]; rfl
    rw [hc'] at hcoh
    rw [hnv, hgb, her]
    have HFIN : Hid (∀ D5 w5 W6 yb wv rv, Below w2.heap.size w2 w5 → DLk D5 c' E' wv rv w5 → (∀ g, g < w5.heap.size → D5 g → (Z g ∨ w2.heap.size ≤ g) ∧ g ≠ yb) → But (fun x => x = yb) w5 W6 → w2.heap.size ≤ yb → DoP14 w0 Z W pb lb xb k n (.returned (.bool true)) (put6 W6 xb (i * 6) (.bool (heldD c')) (.int .i64 (ownD c')) (.int .i64 c'.soc) (.int .i64 c'.pas) wv rv)) := fun D5 w5 W6 yb wv rv q1 q2 q3 q4 q5 =>
      ⟨rfl, ⟨ks.set i c', by rw [List.length_set]; exact HN.out, two_turn (fun x q => .inl q) hcoh b2 (fun x q => by have := HD.out x q; have := HSZ.out; have := hbut.size; omega) HX.out low2 (by rw [HN.out]; exact hi) q1 q2 q3 hrel' hEl hcb' q4 q5⟩, HFR.out.trans (frame_turn hbut HNE.out q1 q4 q5 _ _ _ _ _ _)⟩
    have HPC : Hid (∀ X, But Nob w2 X → X.cell? ⟨xb, i * 6, none⟩ = some (.bool (heldD c)) ∧ X.cell? ⟨xb, i * 6 + 1, none⟩ = some (.int .i64 (ownD c)) ∧ X.cell? ⟨xb, i * 6 + 2, none⟩ = some (.int .i64 c.soc) ∧ X.cell? ⟨xb, i * 6 + 3, none⟩ = some (.int .i64 c.pas) ∧ X.cell? ⟨xb, i * 6 + 4, none⟩ = some (.slice A1 n1 c1) ∧ X.cell? ⟨xb, i * 6 + 5, none⟩ = some (.slice A2 n2 c2) ∧ (∀ j, X.frozen? ⟨xb, j, none⟩ = false) ∧ X.cell? ⟨W.heap.size, 1, none⟩ = some (.int .i64 i)) := fun X hX => by
      have hl := b2.lt
      exact ⟨(hX.cell0 hl id).trans x0, (hX.cell0 hl id).trans x1, (hX.cell0 hl id).trans x2, (hX.cell0 hl id).trans x3, (hX.cell0 hl id).trans x4, (hX.cell0 hl id).trans x5, fun j => (b2.but hX fun _ _ q => q).free j, (hX.cell0 hb2.lt id).trans z1⟩
    generalize heldD c = b0 at *
    generalize ownD c = o at *
    generalize c.soc = b2' at *
    generalize c.pas = b3 at *
    clear hdl hrel hEk hcb hc' hE' hnv hgb her hcoh low2 b2 hbut PG HB1 HL1 HBX HC hb2 hrel' hcb' hEl
    go_upto_region 16 with (go_at_call 42; (with_reducible refine HDG.out.mono ?_); rintro e5 w5 ⟨Av, nv, cv, Ar, nr, cr, rfl, hd5, hb5⟩)
    have h6 : But (fun x => x = w5.heap.size) w5 (w5.alloc (.cells #[.bool (heldD c'), .int .i64 (ownD c'), .int .i64 c'.soc, .int .i64 c'.pas, .slice Av nv cv, .slice Ar nr cr] 93)) := (But.refl _ _).alloc _
    have hu6 : But Nob w2 (w5.alloc (.cells #[.bool (heldD c'), .int .i64 (ownD c'), .int .i64 c'.soc, .int .i64 c'.pas, .slice Av nv cv, .slice Ar nr cr] 93)) := (But.of_below (X := Nob) hb5).alloc _
    have hY6 := Blk.new w5 93 #[.bool (heldD c'), .int .i64 (ownD c'), .int .i64 c'.soc, .int .i64 c'.pas, .slice Av nv cv, .slice Ar nr cr]
    have HF9 := Lib.hid (HFIN.out _ w5 (w5.alloc (.cells #[.bool (heldD c'), .int .i64 (ownD c'), .int .i64 c'.soc, .int .i64 c'.pas, .slice Av nv cv, .slice Ar nr cr] 93)) w5.heap.size _ _ hb5 hd5 (fun g hg q => ⟨q, by omega⟩) h6 hb5.size)
    clear x0 x1 x2 x3 x4 x5 z1 hd5 hb5 h6
    generalize w5.alloc (.cells #[.bool (heldD c'), .int .i64 (ownD c'), .int .i64 c'.soc, .int .i64 c'.pas, .slice Av nv cv, .slice Ar nr cr] 93) = W6 at *
    generalize w5.heap.size = yb at *
    obtain ⟨x0, x1, x2, x3, x4, x5, hfz, z1⟩ := HPC.out W6 hu6
    have f0 := hfz (i * 6); have f1 := hfz (i * 6 + 1); have f2 := hfz (i * 6 + 2); have f3 := hfz (i * 6 + 3); have f4 := hfz (i * 6 + 4); have f5 := hfz (i * 6 + 5)
    have q0 := hY6.cell 0; have q1 := hY6.cell 1; have q2 := hY6.cell 2; have q3 := hY6.cell 3; have q4 := hY6.cell 4; have q5 := hY6.cell 5
    simp only [List.getElem?_toArray, List.getElem?_cons_zero, List.getElem?_cons_succ] at q0 q1 q2 q3 q4 q5
    have te : (er == er) = true := by simp
    have tn : (nv' == nv') = true := by simp
    have tg : (gb == gb) = true := by simp
    clear hfz hu6 hY6 HPC HFIN HDG
    go_wp2_with fail
    go_ret
    exact HF9.out
  · have t4 : ¬ (r : Int) < 4 := by omega
    clear hr h4
    go_enter Try.func15, Try.ntmps15
    go_upto_region 12 with fail
    generalize W.alloc (.cells #[.int .u64 K, .int .i64 i, .int .i64 J, .int .i64 L] 45) = W1 at *
    have z1 := HBX.out.cell 1; have z2 := HBX.out.cell 2; have z3 := HBX.out.cell 3
    simp only [List.getElem?_toArray, List.getElem?_cons_zero, List.getElem?_cons_succ] at z1 z2 z3
    clear o1
    go_upto_region 13 with (go_at_call 21; (with_reducible refine (PG.out J).mono ?_); rintro e9 w2 ⟨⟨rfl, lab', hcoh⟩, hbut⟩)
    have hb2 := HBX.out.but hbut (fun q => q.2.2 (.inr rfl))
    have b2 := HB1.out.but hbut (fun x q hB => q.elim (fun q => hB.2.2 (.inl q)) (fun q => hB.2.1 q))
    have low2 : Below w0.heap.size w0 w2 := HL1.out.trans (hbut.below (B := w0.heap.size) HL1.out.size fun _ _ q => q.1)
    obtain ⟨E, wv, rv, hdl, hrel, hEk, hcb, x0, x1, x2, x3, x4, x5⟩ := b2.at HC.out
    have z1 := hb2.cell 1
    simp only [List.getElem?_toArray, List.getElem?_cons_zero, List.getElem?_cons_succ] at z1
    obtain ⟨A1, n1, c1, rfl⟩ := hdl.wts.slice
    obtain ⟨A2, n2, c2, rfl⟩ := hdl.rnd.slice
    obtain ⟨c', hc'⟩ : ∃ x, (if isOfC c J = true then giveC c else c) = x := ⟨_, rfl⟩
    obtain ⟨E', hE'⟩ : ∃ x, (if isOfC c J = true then dropW (giveC c).soc E else E) = x := ⟨_, rfl⟩
    obtain ⟨nv', hnv⟩ : ∃ x, (if isOfC c J = true ∧ goesC c = true then (giveC c).own else 0) = x := ⟨_, rfl⟩
    obtain ⟨gb, hgb⟩ : ∃ x, (isOfC c J && goesC c) = x := ⟨_, rfl⟩
    obtain ⟨er, her⟩ : ∃ x : Int, (if isOfC c J = true then 0 else 8) = x := ⟨_, rfl⟩
    have hrel' : RelC c' E' := by
      rw [← hc', ← hE']
      split
      · exact hrel.give
      · exact hrel
    have hcb' : CohB c' (k + 1) := by
      rw [← hc']
      split
      · exact give_b hcb
      · exact ⟨by have := hcb.pas; omega, Nat.le_succ_of_le hcb.rnd, fun x hx => Nat.le_succ_of_le (hcb.row x hx)⟩
    have hEl : E'.length ≤ k + 1 := by
      rw [← hE']
      split
      · exact Nat.le_trans (dropW_len _ _) (by omega)
      · omega
    have HDG : Hid (Calls Try.prog 42 #[.agg #[.bool (heldD c), .int .i64 (ownD c), .int .i64 c.soc, .int .i64 c.pas, .slice A1 n1 c1, .slice A2 n2 c2], .int .i64 J] w2 (fun e w' => ∃ Av nv cv Ar nr cr, e = .returned (.tuple #[.agg #[.bool (heldD c'), .int .i64 (ownD c'), .int .i64 c'.soc, .int .i64 c'.pas, .slice Av nv cv, .slice Ar nr cr], .int .i64 nv', .bool gb, .int .i64 er]) ∧ DLk (Since Z w2) c' E' (.slice Av nv cv) (.slice Ar nr cr) w' ∧ Below w2.heap.size w2 w')) := by
      refine (dgive_any J hdl hrel (by omega) (by have := hcb.rnd; unfold rndL; rw [List.length_map]; omega) (by have := hcb.pas; omega)).mono ?_
      rintro e w' ⟨wv, rv, rfl, hd, hb⟩
      rw [hc', hE'] at hd
      obtain ⟨Av, nv, cv, rfl⟩ := hd.wts.slice
      obtain ⟨Ar, nr, cr, rfl⟩ := hd.rnd.slice
      refine ⟨Av, nv, cv, Ar, nr, cr, ?_, hd, hb⟩
      rw [hc', hgb, hnv, her]; rfl
    rw [hc'] at hcoh
    rw [hnv, hgb, her]
    have HFIN : Hid (∀ D5 w5 W6 yb wv rv, Below w2.heap.size w2 w5 → DLk D5 c' E' wv rv w5 → (∀ g, g < w5.heap.size → D5 g → (Z g ∨ w2.heap.size ≤ g) ∧ g ≠ yb) → But (fun x => x = yb) w5 W6 → w2.heap.size ≤ yb → DoP14 w0 Z W pb lb xb k n (.returned (.bool true)) (put6 W6 xb (i * 6) (.bool (heldD c')) (.int .i64 (ownD c')) (.int .i64 c'.soc) (.int .i64 c'.pas) wv rv)) := fun D5 w5 W6 yb wv rv q1 q2 q3 q4 q5 =>
      ⟨rfl, ⟨ks.set i c', by rw [List.length_set]; exact HN.out, two_turn (fun x q => .inl q) hcoh b2 (fun x q => by have := HD.out x q; have := HSZ.out; have := hbut.size; omega) HX.out low2 (by rw [HN.out]; exact hi) q1 q2 q3 hrel' hEl hcb' q4 q5⟩, HFR.out.trans (frame_turn hbut HNE.out q1 q4 q5 _ _ _ _ _ _)⟩
    have HPC : Hid (∀ X, But Nob w2 X → X.cell? ⟨xb, i * 6, none⟩ = some (.bool (heldD c)) ∧ X.cell? ⟨xb, i * 6 + 1, none⟩ = some (.int .i64 (ownD c)) ∧ X.cell? ⟨xb, i * 6 + 2, none⟩ = some (.int .i64 c.soc) ∧ X.cell? ⟨xb, i * 6 + 3, none⟩ = some (.int .i64 c.pas) ∧ X.cell? ⟨xb, i * 6 + 4, none⟩ = some (.slice A1 n1 c1) ∧ X.cell? ⟨xb, i * 6 + 5, none⟩ = some (.slice A2 n2 c2) ∧ (∀ j, X.frozen? ⟨xb, j, none⟩ = false) ∧ X.cell? ⟨W.heap.size, 1, none⟩ = some (.int .i64 i)) := fun X hX => by
      have hl := b2.lt
      exact ⟨(hX.cell0 hl id).trans x0, (hX.cell0 hl id).trans x1, (hX.cell0 hl id).trans x2, (hX.cell0 hl id).trans x3, (hX.cell0 hl id).trans x4, (hX.cell0 hl id).trans x5, fun j => (b2.but hX fun _ _ q => q).free j, (hX.cell0 hb2.lt id).trans z1⟩
    generalize heldD c = b0 at *
    generalize ownD c = o at *
    generalize c.soc = b2' at *
    generalize c.pas = b3 at *
    clear hdl hrel hEk hcb hc' hE' hnv hgb her hcoh low2 b2 hbut PG HB1 HL1 HBX HC hb2 hrel' hcb' hEl
    go_upto_region 16 with (go_at_call 42; (with_reducible refine HDG.out.mono ?_); rintro e5 w5 ⟨Av, nv, cv, Ar, nr, cr, rfl, hd5, hb5⟩)
    have h6 : But (fun x => x = w5.heap.size) w5 (w5.alloc (.cells #[.bool (heldD c'), .int .i64 (ownD c'), .int .i64 c'.soc, .int .i64 c'.pas, .slice Av nv cv, .slice Ar nr cr] 93)) := (But.refl _ _).alloc _
    have hu6 : But Nob w2 (w5.alloc (.cells #[.bool (heldD c'), .int .i64 (ownD c'), .int .i64 c'.soc, .int .i64 c'.pas, .slice Av nv cv, .slice Ar nr cr] 93)) := (But.of_below (X := Nob) hb5).alloc _
    have hY6 := Blk.new w5 93 #[.bool (heldD c'), .int .i64 (ownD c'), .int .i64 c'.soc, .int .i64 c'.pas, .slice Av nv cv, .slice Ar nr cr]
    have HF9 := Lib.hid (HFIN.out _ w5 (w5.alloc (.cells #[.bool (heldD c'), .int .i64 (ownD c'), .int .i64 c'.soc, .int .i64 c'.pas, .slice Av nv cv, .slice Ar nr cr] 93)) w5.heap.size _ _ hb5 hd5 (fun g hg q => ⟨q, by omega⟩) h6 hb5.size)
    clear x0 x1 x2 x3 x4 x5 z1 hd5 hb5 h6
    generalize w5.alloc (.cells #[.bool (heldD c'), .int .i64 (ownD c'), .int .i64 c'.soc, .int .i64 c'.pas, .slice Av nv cv, .slice Ar nr cr] 93) = W6 at *
    generalize w5.heap.size = yb at *
    obtain ⟨x0, x1, x2, x3, x4, x5, hfz, z1⟩ := HPC.out W6 hu6
    have f0 := hfz (i * 6); have f1 := hfz (i * 6 + 1); have f2 := hfz (i * 6 + 2); have f3 := hfz (i * 6 + 3); have f4 := hfz (i * 6 + 4); have f5 := hfz (i * 6 + 5)
    have q0 := hY6.cell 0; have q1 := hY6.cell 1; have q2 := hY6.cell 2; have q3 := hY6.cell 3; have q4 := hY6.cell 4; have q5 := hY6.cell 5
    simp only [List.getElem?_toArray, List.getElem?_cons_zero, List.getElem?_cons_succ] at q0 q1 q2 q3 q4 q5
    have te : (er == er) = true := by simp
    have tn : (nv' == nv') = true := by simp
    have tg : (gb == gb) = true := by simp
    clear hfz hu6 hY6 HPC HFIN HDG
    go_wp2_with fail
    go_ret
    exact HF9.out
end
end Go.Proofs.Ytdomgipbadimmaa
