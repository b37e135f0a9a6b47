/- What an event does to a machine: a task's events (layer 19): printed by wip/src19/gen_kr.py. -/
import Derived.Test.YtilaalleiiakoaaDoorKr
import Derived.Deep.RegionHeld
import Derived.OrdersHeld
namespace Go.Proofs.YtilaalleiiakoaaDoor
open Go.RowKit
set_option maxRecDepth 100000

set_option maxHeartbeats 4000000 in
theorem turn_task {w : World} {B : Nat} {F O : Value} {f : Fl} {PA : Option Addr} {ps : List PR} (h : OwnF w B F O f.ts f.ow) (pcap : Nat) (hl : f.ts.length ≤ 1000) (hG : Gnd w B PA ps) (kd tk cpu a b : Int) (hk : kd ≠ 17 ∧ kd ≠ 18 ∧ kd ≠ 19 ∧ kd ≠ 20 ∧ kd ≠ 1 ∧ kd ≠ 14 ∧ kd ≠ 15 ∧ kd ≠ 16 ∧ kd ≠ 9 ∧ kd ≠ 10) :
    Calls Tryd.prog 25 #[flV F O f.p f.tm, .slice PA ps.length pcap, evV ⟨kd, tk, cpu, a, b⟩] w (FlG w B F O f (turnP f ps ⟨kd, tk, cpu, a, b⟩)) := by
  have hfr := FrU.new w F O f.p f.tm ⟨kd, tk, cpu, a, b⟩ #[.slice none 0 0, .int .u64 0, .int .u64 0, .int .u64 0, .int .u64 0, .int .u64 0, .int .u64 0, .int .u64 0, .int .u64 0, .int .u64 0, .int .u64 0, .int .u64 0, .int .u64 0, .int .u64 0, .int .u64 0, .int .u64 0, .int .u64 0, .slice none 0 0, .int .i64 0] rfl
  obtain ⟨oF, oO⟩ := h.one
  have HH := Lib.hid h
  obtain ⟨R, hR⟩ : ∃ R, turnP f ps ⟨kd, tk, cpu, a, b⟩ = R := ⟨_, rfl⟩
  have HR := Lib.hid hR
  rw [hR]
  clear h hR
  obtain ⟨FA, fc, hFA⟩ : ∃ FA fc, F = .slice FA f.ts.length fc := by
    obtain ⟨FA, fc, e, -⟩ := own_tsIn HH.out.tk
    exact ⟨FA, fc, e⟩
  obtain ⟨m, hm⟩ : ∃ m, f.ts.length = m := ⟨_, rfl⟩
  rw [hm] at hFA
  have HM := Lib.hid hm
  clear hm
  subst hFA
  dsimp only at hfr
  go_enter Tryd.func25, Tryd.ntmps25
  go_upto_region 1 with fail
  generalize ((w.alloc (.cells (flL (.slice FA m fc) O f.p f.tm).toArray 30)).alloc (.cells #[.int .i64 kd, .int .i64 tk, .int .i64 cpu, .int .i64 a, .int .i64 b] 36)).alloc (.cells #[.slice none 0 0, .int .u64 0, .int .u64 0, .int .u64 0, .int .u64 0, .int .u64 0, .int .u64 0, .int .u64 0, .int .u64 0, .int .u64 0, .int .u64 0, .int .u64 0, .int .u64 0, .int .u64 0, .int .u64 0, .int .u64 0, .int .u64 0, .slice none 0 0, .int .i64 0] 30) = W at *
  obtain ⟨e0, e1, e2, e3, e4⟩ := hfr.ev
  dsimp only at e0 e1 e2 e3 e4
  obtain ⟨old, hbr, hold⟩ := hfr.br
  have HBR := Lib.hid hbr; have HBF := Lib.hid hfr.bf; have HOL := Lib.hid hold; have HB := Lib.hid hfr.bl
  have HLT : Hid (∀ k, OwnB (.slice FA m fc) O k → k < w.heap.size) := fun k hk => (HH.out.lt hk).2
  have HO := Lib.hid (HH.out.below hfr.bl)
  clear hbr hold hfr
  have HQ : Hid (w.heap.size + 1 + 1 < W.heap.size ∧ ∀ k, OwnB (.slice FA m fc) O k → k ≠ w.heap.size ∧ k ≠ w.heap.size + 1 ∧ k ≠ w.heap.size + 1 + 1) := ⟨HBR.out.lt, fun k hk => by have := HLT.out k hk; omega⟩
  obtain ⟨q0, hq0⟩ : ∃ q, w.heap.size = q := ⟨_, rfl⟩
  obtain ⟨q1, hq1⟩ : ∃ q, w.heap.size + 1 = q := ⟨_, rfl⟩
  obtain ⟨q2, hq2⟩ : ∃ q, w.heap.size + 1 + 1 = q := ⟨_, rfl⟩
  have HQE : Hid (q0 < q1 ∧ q1 < q2 ∧ w.heap.size ≤ q2 ∧ q2 < W.heap.size) := ⟨by omega, by omega, by omega, by have := HBR.out.lt; omega⟩
  rw [hq2, hq1, hq0] at HQ
  rw [hq1] at e0 e1 e2 e3 e4
  rw [hq2] at HBR
  rw [hq0] at HBF
  rw [hq2, hq1, hq0]
  clear hq0 hq1 hq2
  have HS : Hid (∀ Y X, (∀ k, Y k → k ≠ q0 ∧ k ≠ q1) → But Y W X → (X.cell? ⟨q1, 0, none⟩ = some (.int .i64 kd) ∧ X.cell? ⟨q1, 1, none⟩ = some (.int .i64 tk) ∧ X.cell? ⟨q1, 2, none⟩ = some (.int .i64 cpu) ∧ X.cell? ⟨q1, 3, none⟩ = some (.int .i64 a) ∧ X.cell? ⟨q1, 4, none⟩ = some (.int .i64 b) ∧ X.cell? ⟨q0, 17, none⟩ = some O) ∧ X.rangeAt q0 0 (flL (.slice FA m fc) O f.p f.tm)) := fun Y X hY hb => by
    have n1 : ¬ Y q1 := fun q => (hY _ q).2 rfl
    have n0 : ¬ Y q0 := fun q => (hY _ q).1 rfl
    have l1 := lt_of_cell e0
    have hf := Blk.but HBF.out hb n0
    exact ⟨⟨(hb.cell0 l1 n1).trans e0, (hb.cell0 l1 n1).trans e1, (hb.cell0 l1 n1).trans e2, (hb.cell0 l1 n1).trans e3, (hb.cell0 l1 n1).trans e4, BF.c17 hf⟩, BF.all hf⟩
  have HIT := Lib.hid (isTask_any FA m fc O f.p f.tm tk W.drew)
  have HRE : Hid (R = if 0 ≤ tk ∧ tk < (m : Int) then (f.ts[tk.toNat]?.bind (taskP f ps ⟨kd, tk, cpu, a, b⟩)).map fun y => { f with ts := f.ts.set tk.toNat y } else none) := by
    show _ = _
    rw [← HR.out, ← HM.out]
    obtain ⟨a1, a2, a3, a4, a5, a6, a7, a8, a9, a10⟩ := hk
    unfold turnP
    dsimp only
    rw [if_neg (by omega), if_neg a5, if_neg a6, if_neg a7, if_neg a8, if_neg a9, if_neg a10]; rfl
  have k17 : (kd == 17) = false := by simpa using hk.1
  have k18 : (kd == 18) = false := by simpa using hk.2.1
  have k19 : (kd == 19) = false := by simpa using hk.2.2.1
  have k20 : (kd == 20) = false := by simpa using hk.2.2.2.1
  have k1 : (kd == 1) = false := by simpa using hk.2.2.2.2.1
  have k14 : (kd == 14) = false := by simpa using hk.2.2.2.2.2.1
  have k15 : (kd == 15) = false := by simpa using hk.2.2.2.2.2.2.1
  have k16 : (kd == 16) = false := by simpa using hk.2.2.2.2.2.2.2.1
  have k9 : (kd == 9) = false := by simpa using hk.2.2.2.2.2.2.2.2.1
  have k10 : (kd == 10) = false := by simpa using hk.2.2.2.2.2.2.2.2.2
  clear HR hk
  go_upto_region 19 with fail
  clear k17 k18 k19 k20 k1 k14 k15 k16 k9 k10
  by_cases hi : 0 ≤ tk ∧ tk < (m : Int)
  · rw [show decide (0 ≤ tk ∧ tk < (m : Int)) = true by simpa using hi] at HIT
    obtain ⟨i, rfl⟩ := Int.eq_ofNat_of_zero_le hi.1
    have him : i < f.ts.length := by have := HM.out; omega
    obtain ⟨x, hx⟩ : ∃ x, f.ts[i]? = some x := ⟨_, List.getElem?_eq_getElem him⟩
    obtain ⟨g, hg⟩ : ∃ g, FA = some ⟨g, 0, none⟩ := by
      rcases rowForm HH.out.tk with ⟨-, e⟩ | ⟨g, cap, e⟩
      · omega
      · simp only [Value.slice.injEq] at e; exact ⟨g, e.1⟩
    subst hg
    obtain ⟨R2, hR2⟩ : ∃ R2, taskP f ps ⟨kd, i, cpu, a, b⟩ x = R2 := ⟨_, rfl⟩
    have HRY : Hid (R = R2.map fun y => { f with ts := f.ts.set i y }) := by
      show _ = _
      rw [HRE.out, if_pos hi, show ((i : Int)).toNat = i by omega, hx, ← hR2]; rfl
    have HTT : Hid (∀ X, But Nob W X → Calls Tryd.prog 42 #[.agg (flL (.slice (some ⟨g, 0, none⟩) m fc) O f.p f.tm).toArray, .slice PA ps.length pcap, .agg #[.int .i64 kd, .int .i64 i, .int .i64 cpu, .int .i64 a, .int .i64 b]] X (TaskG X B g fc O f.ts f.ow i R2)) := fun X hb => by
      have ho := HO.out.but hb fun _ _ q => q
      rw [← HM.out] at ho ⊢
      rw [← hR2]
      exact turnTask_any ho hx hl pcap (hG.below ((HB.out.mono hG.le).trans (hb.below (Nat.le_trans hG.le HB.out.size) fun _ _ q => q.elim))) f.p f.tm kd cpu a b
    clear hi HRE hR2 hx him hG
    refine wp_region_held_drew (S := fun X => (X.cell? ⟨q1, 0, none⟩ = some (.int .i64 kd) ∧ X.cell? ⟨q1, 1, none⟩ = some (.int .i64 i) ∧ X.cell? ⟨q1, 2, none⟩ = some (.int .i64 cpu) ∧ X.cell? ⟨q1, 3, none⟩ = some (.int .i64 a) ∧ X.cell? ⟨q1, 4, none⟩ = some (.int .i64 b) ∧ X.cell? ⟨q0, 17, none⟩ = some O) ∧ X.rangeAt q0 0 (flL (.slice (some ⟨g, 0, none⟩) m fc) O f.p f.tm)) (by kernel_rfl) (HS.out Nob _ (fun _ q => q.elim) ((But.refl _ _).drew)) (fun hHeld => ?_)
    show wpAnyH _ _ _ _ _ _ _ _ _
    try dsimp only at hHeld
    refine wpAnyH_take (i := 0) (v := .agg (flL (.slice (some ⟨g, 0, none⟩) m fc) O f.p f.tm).toArray) rfl (by kernel_rfl) (by kernel_rfl) (by kernel_rfl) (fun _ _ _ h => h) (yieldsIf_load_mid (by rfl) 30 (.tmp 3) rfl q0 0 rfl (flL (.slice (some ⟨g, 0, none⟩) m fc) O f.p f.tm) _ (fun X' h => h.2) under30 rfl (by rw [infoFlat, flL_len])) hHeld ?_
    go_simp
    refine wpAnyH_take (i := 1) (v := .agg (flL (.slice (some ⟨g, 0, none⟩) m fc) O f.p f.tm).toArray) rfl (by kernel_rfl) (by kernel_rfl) (by kernel_rfl) (fun _ _ _ h => h) (yieldsIf_load_mid (by rfl) 30 (.tmp 3) rfl q0 0 rfl (flL (.slice (some ⟨g, 0, none⟩) m fc) O f.p f.tm) _ (fun X' h => h.2) under30 rfl (by rw [infoFlat, flL_len])) hHeld ?_
    go_simp
    refine wpAnyH_take (i := 2) (v := ?_) rfl (by kernel_rfl) (by kernel_rfl) (by kernel_rfl) (fun _ _ _ h => h) (Or.inl ⟨by rfl, fun X hX => by (obtain ⟨⟨z0, z1, z2, z3, z4, z5⟩, z6⟩ := hX; go_simp <;> with_reducible rfl)⟩) hHeld ?_
    go_simp
    refine wpAnyH_take (i := 3) (v := ?_) rfl (by kernel_rfl) (by kernel_rfl) (by kernel_rfl) (fun _ _ _ h => h) (Or.inl ⟨by rfl, fun X hX => by (obtain ⟨⟨z0, z1, z2, z3, z4, z5⟩, z6⟩ := hX; go_simp <;> with_reducible rfl)⟩) hHeld ?_
    go_simp
    refine wpAnyH_ready (rs := [4]) (by kernel_rfl) (by simp) (AllReadyH.cons rfl (fun K hK => ?_) AllReadyH.nil)
    go_simp
    go_at_call 29; (with_reducible refine HIT.out.mono ?_); rintro e w3 ⟨rfl, h3⟩; have hb3 := (((But.refl Nob W).drew).trans (But.of_below h3)); have HB3 := Lib.hid hb3; have hs3 := HS.out Nob w3 (fun _ q => q.elim) hb3; clear h3 hb3
    (try (go_wp2_with fail))
    refine hK.out _ _ hs3 (fun hHeld => ?_)
    clear hK K
    (try go_simp)
    refine wpAnyH_take (i := 5) (v := ?_) rfl (by kernel_rfl) (by kernel_rfl) (by kernel_rfl) (fun _ _ _ h => h) (Or.inl ⟨by rfl, fun X hX => by (obtain ⟨⟨z0, z1, z2, z3, z4, z5⟩, z6⟩ := hX; go_simp <;> with_reducible rfl)⟩) hHeld ?_
    go_simp
    refine wpAnyH_take (i := 6) (v := .agg (flL (.slice (some ⟨g, 0, none⟩) m fc) O f.p f.tm).toArray) rfl (by kernel_rfl) (by kernel_rfl) (by kernel_rfl) (fun _ _ _ h => h) (yieldsIf_load_mid (by rfl) 30 (.tmp 3) rfl q0 0 rfl (flL (.slice (some ⟨g, 0, none⟩) m fc) O f.p f.tm) _ (fun X' h => h.2) under30 rfl (by rw [infoFlat, flL_len])) hHeld ?_
    go_simp
    refine wpAnyH_take (i := 7) (v := ?_) rfl (by kernel_rfl) (by kernel_rfl) (by kernel_rfl) (fun _ _ _ h => h) (Or.inl ⟨by rfl, fun X hX => by (obtain ⟨⟨z0, z1, z2, z3, z4, z5⟩, z6⟩ := hX; go_simp <;> with_reducible rfl)⟩) hHeld ?_
    go_simp
    refine wpAnyH_take (i := 8) (v := ?_) rfl (by kernel_rfl) (by kernel_rfl) (by kernel_rfl) (fun _ _ _ h => h) (Or.inl ⟨by rfl, fun X hX => by (obtain ⟨⟨z0, z1, z2, z3, z4, z5⟩, z6⟩ := hX; go_simp <;> with_reducible rfl)⟩) hHeld ?_
    go_simp
    refine wpAnyH_ready (rs := [9]) (by kernel_rfl) (by simp) (AllReadyH.cons rfl (fun K hK => ?_) AllReadyH.nil)
    go_simp
    go_at_call 42; (with_reducible refine (HTT.out _ HB3.out).mono ?_); rintro e w5 ⟨rfl, h5⟩; have hb5 : But (OwnB (.slice (some ⟨g, 0, none⟩) m fc) O) w3 w5 := h5.but.mono fun k _ q => .inl (by rw [q]; rfl); have hbw := (HB3.out.mono fun _ _ q => q.elim).trans hb5; have HB5 := Lib.hid hbw; have H5 := Lib.hid h5; have HBR5 := Lib.hid (HBR.out.but hbw fun q => (HQ.out.2 _ q).2.2 rfl); have HS5 : Hid (∀ X, But (fun k => k = q2) w5 X → _ ∧ _) := fun X hb => HS.out (fun k => OwnB (.slice (some ⟨g, 0, none⟩) m fc) O k ∨ k = q2) X (fun k hk => by rcases hk with q | q; exact ⟨(HQ.out.2 _ q).1, (HQ.out.2 _ q).2.1⟩; have := HQE.out; exact ⟨by omega, by omega⟩) ((hbw.mono fun _ _ q => .inl q).trans (hb.mono fun _ _ q => .inr q)); have hs5 := HS.out (OwnB (.slice (some ⟨g, 0, none⟩) m fc) O) w5 (fun k hk => ⟨(HQ.out.2 _ hk).1, (HQ.out.2 _ hk).2.1⟩) hbw; clear h5 hb5 hbw
    (try (go_wp2_with fail))
    refine hK.out _ _ hs5 (fun hHeld => ?_)
    clear hK K
    (try go_simp)
    refine wpAnyH_take (i := 10) (v := ?_) rfl (by kernel_rfl) (by kernel_rfl) (by kernel_rfl) (fun _ _ _ h => h) (Or.inl ⟨by rfl, fun X hX => by (obtain ⟨⟨z0, z1, z2, z3, z4, z5⟩, z6⟩ := hX; go_simp <;> with_reducible rfl)⟩) hHeld ?_
    go_simp
    refine wpAnyH_ready (rs := [11]) (by kernel_rfl) (by simp) (AllReadyH.cons rfl (fun K hK => ?_) AllReadyH.nil)
    refine step_st_flat rfl (.tmp 6) (.tmp 83) rfl q2 rfl rfl oF oO old HBR5.out HOL.out ?_
    refine hK.out _ _ (HS5.out _ ((But.refl (fun k => k = q2) _).row _ _ (.inl rfl))) (fun hHeld => ?_)
    clear hK K
    (try go_simp)
    refine wpAnyH_ready (rs := [12]) (by kernel_rfl) (by simp) (AllReadyH.cons rfl (fun K hK => ?_) AllReadyH.nil)
    go_simp
    refine hK.out _ _ hHeld (fun hHeld => ?_)
    clear hK K
    refine wpAnyH_done (by kernel_rfl) ?_ _
    go_wp2_with fail
    refine ret_flat2 rfl q2 rfl (BF.row HBR5.out) rfl ?_
    have e := HRY.out
    subst e
    have h3o : OwnF w3 B (.slice (some ⟨g, 0, none⟩) m fc) O f.ts f.ow := HO.out.but HB3.out fun _ _ q => q
    have h9 : OwnF w5 B (.slice (some ⟨g, 0, none⟩) m fc) O ((R2.map fun y => { f with ts := f.ts.set i y }).getD f).ts ((R2.map fun y => { f with ts := f.ts.set i y }).getD f).ow := by
      rcases H5.out with ⟨rfl, hb⟩ | ⟨y, rfl, ho, -⟩
      · exact h3o.below hb
      · rw [HM.out] at ho; exact ho
    have h8 := FlG.stored (R := R2.map fun y => { f with ts := f.ts.set i y }) (F' := .slice (some ⟨g, 0, none⟩) m fc) (cs := (flL (.slice (some ⟨g, 0, none⟩) m fc) O f.p f.tm).toArray) HH.out HB.out h9 HB5.out (fun k hk => .inl hk) HQE.out.2.2.1 HQE.out.2.2.2
    cases R2 <;> exact h8
  · rw [show decide (0 ≤ tk ∧ tk < (m : Int)) = false by simpa using hi] at HIT
    have HRY : Hid (R = none) := by show _ = _; rw [HRE.out, if_neg hi]
    clear hi HRE
    refine wp_region_held_drew (S := fun X => (X.cell? ⟨q1, 0, none⟩ = some (.int .i64 kd) ∧ X.cell? ⟨q1, 1, none⟩ = some (.int .i64 tk) ∧ X.cell? ⟨q1, 2, none⟩ = some (.int .i64 cpu) ∧ X.cell? ⟨q1, 3, none⟩ = some (.int .i64 a) ∧ X.cell? ⟨q1, 4, none⟩ = some (.int .i64 b) ∧ X.cell? ⟨q0, 17, none⟩ = some O) ∧ X.rangeAt q0 0 (flL (.slice FA m fc) O f.p f.tm)) (by kernel_rfl) (HS.out Nob _ (fun _ q => q.elim) ((But.refl _ _).drew)) (fun hHeld => ?_)
    show wpAnyH _ _ _ _ _ _ _ _ _
    try dsimp only at hHeld
    refine wpAnyH_take (i := 0) (v := .agg (flL (.slice FA m fc) O f.p f.tm).toArray) rfl (by kernel_rfl) (by kernel_rfl) (by kernel_rfl) (fun _ _ _ h => h) (yieldsIf_load_mid (by rfl) 30 (.tmp 3) rfl q0 0 rfl (flL (.slice FA m fc) O f.p f.tm) _ (fun X' h => h.2) under30 rfl (by rw [infoFlat, flL_len])) hHeld ?_
    go_simp
    refine wpAnyH_take (i := 1) (v := .agg (flL (.slice FA m fc) O f.p f.tm).toArray) rfl (by kernel_rfl) (by kernel_rfl) (by kernel_rfl) (fun _ _ _ h => h) (yieldsIf_load_mid (by rfl) 30 (.tmp 3) rfl q0 0 rfl (flL (.slice FA m fc) O f.p f.tm) _ (fun X' h => h.2) under30 rfl (by rw [infoFlat, flL_len])) hHeld ?_
    go_simp
    refine wpAnyH_take (i := 2) (v := ?_) rfl (by kernel_rfl) (by kernel_rfl) (by kernel_rfl) (fun _ _ _ h => h) (Or.inl ⟨by rfl, fun X hX => by (obtain ⟨⟨z0, z1, z2, z3, z4, z5⟩, z6⟩ := hX; go_simp <;> with_reducible rfl)⟩) hHeld ?_
    go_simp
    refine wpAnyH_take (i := 3) (v := ?_) rfl (by kernel_rfl) (by kernel_rfl) (by kernel_rfl) (fun _ _ _ h => h) (Or.inl ⟨by rfl, fun X hX => by (obtain ⟨⟨z0, z1, z2, z3, z4, z5⟩, z6⟩ := hX; go_simp <;> with_reducible rfl)⟩) hHeld ?_
    go_simp
    refine wpAnyH_ready (rs := [4]) (by kernel_rfl) (by simp) (AllReadyH.cons rfl (fun K hK => ?_) AllReadyH.nil)
    go_simp
    go_at_call 29; (with_reducible refine HIT.out.mono ?_); rintro e w3 ⟨rfl, h3⟩; have hb3 := (((But.refl Nob W).drew).trans (But.of_below h3)); have HB3 := Lib.hid hb3; have hs3 := HS.out Nob w3 (fun _ q => q.elim) hb3; clear h3 hb3
    (try (go_wp2_with fail))
    refine hK.out _ _ hs3 (fun hHeld => ?_)
    clear hK K
    (try go_simp)
    refine wpAnyH_take (i := 5) (v := ?_) rfl (by kernel_rfl) (by kernel_rfl) (by kernel_rfl) (fun _ _ _ h => h) (Or.inl ⟨by rfl, fun X hX => by (obtain ⟨⟨z0, z1, z2, z3, z4, z5⟩, z6⟩ := hX; go_simp <;> with_reducible rfl)⟩) hHeld ?_
    go_simp
    refine wpAnyH_take (i := 6) (v := undef) rfl (by kernel_rfl) (by kernel_rfl) (by kernel_rfl) (fun _ _ _ h => h) (Or.inr ⟨by rfl, rfl⟩) hHeld ?_
    go_simp
    refine wpAnyH_take (i := 7) (v := undef) rfl (by kernel_rfl) (by kernel_rfl) (by kernel_rfl) (fun _ _ _ h => h) (Or.inr ⟨by rfl, rfl⟩) hHeld ?_
    go_simp
    refine wpAnyH_take (i := 8) (v := undef) rfl (by kernel_rfl) (by kernel_rfl) (by kernel_rfl) (fun _ _ _ h => h) (Or.inr ⟨by rfl, rfl⟩) hHeld ?_
    go_simp
    refine wpAnyH_take (i := 9) (v := undef) rfl (by kernel_rfl) (by kernel_rfl) (by kernel_rfl) (fun _ _ _ h => h) (Or.inr ⟨by rfl, rfl⟩) hHeld ?_
    go_simp
    refine wpAnyH_take (i := 10) (v := ?_) rfl (by kernel_rfl) (by kernel_rfl) (by kernel_rfl) (fun _ _ _ h => h) (Or.inl ⟨by rfl, fun X hX => by (obtain ⟨⟨z0, z1, z2, z3, z4, z5⟩, z6⟩ := hX; go_simp <;> with_reducible rfl)⟩) hHeld ?_
    go_simp
    have HBR5 := Lib.hid (HBR.out.but HB3.out fun q => q)
    have HS5 : Hid (∀ X, But (fun k => k = q2) w3 X → _ ∧ _) := fun X hb => HS.out (fun k => k = q2) X (fun k hk => by have := HQE.out; omega) ((HB3.out.mono fun _ _ q => q.elim).trans hb)
    refine wpAnyH_ready (rs := [11]) (by kernel_rfl) (by simp) (AllReadyH.cons rfl (fun K hK => ?_) AllReadyH.nil)
    refine step_st_flat rfl (.tmp 6) (.tmp 83) rfl q2 rfl rfl oF oO old HBR5.out HOL.out ?_
    refine hK.out _ _ (HS5.out _ ((But.refl (fun k => k = q2) _).row _ _ (.inl rfl))) (fun hHeld => ?_)
    clear hK K
    (try go_simp)
    refine wpAnyH_ready (rs := [12]) (by kernel_rfl) (by simp) (AllReadyH.cons rfl (fun K hK => ?_) AllReadyH.nil)
    go_simp
    refine hK.out _ _ hHeld (fun hHeld => ?_)
    clear hK K
    refine wpAnyH_done (by kernel_rfl) ?_ _
    go_wp2_with fail
    refine ret_flat2 rfl q2 rfl (BF.row HBR5.out) rfl ?_
    have e := HRY.out
    subst e
    exact FlG.stored (R := none) HH.out HB.out (HO.out.but HB3.out fun _ _ q => q) HB3.out.nob (fun k hk => .inl hk) HQE.out.2.2.1 HQE.out.2.2.2
end Go.Proofs.YtilaalleiiakoaaDoor
