/- One event, a machine with lists of its own behind it (layer 19): printed by wip/src19/gen_kw.py. -/
import Derived.Test.YtdelddkpbdnckaaDoorKt
import Derived.Deep.RegionHeld
import Derived.OrdersHeld
namespace Go.Proofs.YtdelddkpbdnckaaDoor
open Go.RowKit
set_option maxRecDepth 100000

/-- The machine behind an event, if that may be. -/
def NexG (w : World) (f : Fl) (R : Option Fl) (e : Ending) (w' : World) : Prop :=
  ∃ F O, e = .returned (.tuple #[flV F O (R.getD f).p (R.getD f).tm, .bool R.isSome]) ∧ OwnF w' w.heap.size F O (R.getD f).ts (R.getD f).ow ∧ Below w.heap.size w w'
section
variable {w : World} {B : Nat} {F O : Value} {f : Fl} {PA : Option Addr} {ps : List PR}
set_option maxHeartbeats 4000000 in
theorem next_any (h : InF w F O f.ts f.ow) (pcap : Nat) (hl : f.ts.length ≤ 1000) (hm : f.ow.length ≤ 1000) (hG : Gnd w B PA ps) (ht : In64F f.tm) (e : EvP) (he : In64F e.a) :
    Calls Tryd.prog 14 #[flV F O f.p f.tm, .slice PA ps.length pcap, evV e] w (NexG w f (turnP f ps e)) := by
  have hfr := FrU.new w F O f.p f.tm e #[.slice none 0 0, .int .u64 0, .int .u64 0, .int .u64 0, .int .u64 0, .int .u64 0, .int .u64 0, .int .u64 0, .int .u64 0, .int .u64 0, .int .u64 0, .int .u64 0, .int .u64 0, .int .u64 0, .int .u64 0, .int .u64 0, .int .u64 0, .slice none 0 0, .int .i64 0] rfl
  have HH := Lib.hid h
  obtain ⟨R, hR⟩ : ∃ R, turnP f ps e = R := ⟨_, rfl⟩
  have HTU : Hid (∀ X F' O', Below w.heap.size w X → OwnF X w.heap.size F' O' f.ts f.ow → Calls Tryd.prog 25 #[.agg (flL F' O' f.p f.tm).toArray, .slice PA ps.length pcap, .agg #[.int .i64 e.kd, .int .i64 e.tk, .int .i64 e.cpu, .int .i64 e.a, .int .i64 e.b]] X (FlG X B F' O' f R)) := fun X F' O' hX ho => by
    rw [← hR]; exact turn_any (ho.raise fun k hk => Nat.le_trans hG.le (ho.lt hk).1) pcap hl (hG.below (hX.mono hG.le)) ht e he
  rw [hR]
  clear h hR
  go_enter Tryd.func14, Tryd.ntmps14
  go_upto_region 1 with fail
  generalize ((w.alloc (.cells (flL F O f.p f.tm).toArray 30)).alloc (.cells #[.int .i64 e.kd, .int .i64 e.tk, .int .i64 e.cpu, .int .i64 e.a, .int .i64 e.b] 36)).alloc (.cells #[.slice none 0 0, .int .u64 0, .int .u64 0, .int .u64 0, .int .u64 0, .int .u64 0, .int .u64 0, .int .u64 0, .int .u64 0, .int .u64 0, .int .u64 0, .int .u64 0, .int .u64 0, .int .u64 0, .int .u64 0, .int .u64 0, .int .u64 0, .slice none 0 0, .int .i64 0] 30) = W at *
  have HFR := Lib.hid hfr
  obtain ⟨e0, e1, e2, e3, e4⟩ := hfr.ev
  obtain ⟨old, hbr, hold⟩ := hfr.br
  have HOL := Lib.hid hold; have HBR := Lib.hid hbr
  have HAN : Hid (∀ X, Below W.heap.size W X → Calls Tryd.prog 24 #[.agg (flL F O f.p f.tm).toArray] X (AneG X f.p f.tm f.ts f.ow)) := fun X hX => anew_any ((HH.out.below HFR.out.bl).below hX) hl hm
  have HB := Lib.hid hfr.bl; have HBF := Lib.hid hfr.bf
  clear hbr hold hfr
  obtain ⟨q0, hq0⟩ : ∃ q, w.heap.size = q := ⟨_, rfl⟩
  obtain ⟨q1, hq1⟩ : ∃ q, w.heap.size + 1 = q := ⟨_, rfl⟩
  obtain ⟨q2, hq2⟩ : ∃ q, w.heap.size + 1 + 1 = q := ⟨_, rfl⟩
  have HQE : Hid (w.heap.size = q0 ∧ q0 < q1 ∧ q1 < q2 ∧ w.heap.size ≤ q2 ∧ q2 < W.heap.size) := ⟨hq0, by omega, by omega, by omega, by have := HBR.out.lt; omega⟩
  rw [hq1] at e0 e1 e2 e3 e4
  rw [hq2] at HBR
  rw [hq0] at HBF
  rw [hq2, hq1, hq0]
  clear hq0 hq1 hq2
  have HS : Hid (∀ Y X, (∀ k, Y k → k ≠ q0 ∧ k ≠ q1) → But Y W X → (X.cell? ⟨q1, 0, none⟩ = some (.int .i64 e.kd) ∧ X.cell? ⟨q1, 1, none⟩ = some (.int .i64 e.tk) ∧ X.cell? ⟨q1, 2, none⟩ = some (.int .i64 e.cpu) ∧ X.cell? ⟨q1, 3, none⟩ = some (.int .i64 e.a) ∧ X.cell? ⟨q1, 4, none⟩ = some (.int .i64 e.b)) ∧ X.rangeAt q0 0 (flL F O f.p f.tm)) := fun Y X hY hb => by
    have n1 : ¬ Y q1 := fun q => (hY _ q).2 rfl
    have n0 : ¬ Y q0 := fun q => (hY _ q).1 rfl
    have l1 := lt_of_cell e0
    have hf := Blk.but HBF.out hb n0
    exact ⟨⟨(hb.cell0 l1 n1).trans e0, (hb.cell0 l1 n1).trans e1, (hb.cell0 l1 n1).trans e2, (hb.cell0 l1 n1).trans e3, (hb.cell0 l1 n1).trans e4⟩, BF.all hf⟩
  refine wp_region_held_drew (S := fun X => (X.cell? ⟨q1, 0, none⟩ = some (.int .i64 e.kd) ∧ X.cell? ⟨q1, 1, none⟩ = some (.int .i64 e.tk) ∧ X.cell? ⟨q1, 2, none⟩ = some (.int .i64 e.cpu) ∧ X.cell? ⟨q1, 3, none⟩ = some (.int .i64 e.a) ∧ X.cell? ⟨q1, 4, none⟩ = some (.int .i64 e.b)) ∧ X.rangeAt q0 0 (flL F O f.p f.tm)) (by kernel_rfl) (HS.out Nob _ (fun _ q => q.elim) ((But.refl _ _).drew)) (fun hHeld => ?_)
  show wpAnyH _ _ _ _ _ _ _ _ _
  try dsimp only at hHeld
  refine wpAnyH_take (i := 0) (v := .agg (flL F O f.p f.tm).toArray) rfl (by kernel_rfl) (by kernel_rfl) (by kernel_rfl) (fun _ _ _ h => h) (yieldsIf_load_mid (by rfl) 30 (.tmp 3) rfl q0 0 rfl (flL F O f.p f.tm) _ (fun X' h => h.2) under30 rfl (by rw [infoFlat, flL_len])) hHeld ?_
  go_simp
  refine wpAnyH_take (i := 2) (v := ?_) rfl (by kernel_rfl) (by kernel_rfl) (by kernel_rfl) (fun _ _ _ h => h) (Or.inl ⟨by rfl, fun X hX => by (obtain ⟨⟨z0, z1, z2, z3, z4⟩, z6⟩ := hX; go_simp <;> with_reducible rfl)⟩) hHeld ?_
  go_simp
  refine wpAnyH_take (i := 3) (v := ?_) rfl (by kernel_rfl) (by kernel_rfl) (by kernel_rfl) (fun _ _ _ h => h) (Or.inl ⟨by rfl, fun X hX => by (obtain ⟨⟨z0, z1, z2, z3, z4⟩, z6⟩ := hX; go_simp <;> with_reducible rfl)⟩) hHeld ?_
  go_simp
  refine wpAnyH_ready (rs := [1]) (by kernel_rfl) (by simp) (AllReadyH.cons rfl (fun K hK => ?_) AllReadyH.nil)
  go_simp
  go_at_call 24; (with_reducible refine (HAN.out _ ((Below.refl _ _).drew)).mono ?_); rintro er w3 ⟨F3, O3, rfl, h3, hb3⟩; have hb33 := ((Below.refl W.heap.size W).drew).trans hb3; have HB3 := Lib.hid hb33; have hs3 := HS.out Nob w3 (fun _ q => q.elim) (But.of_below hb33); have hBw3 := HB.out.trans (hb33.mono HB.out.size); have HB33 := Lib.hid hBw3; have h3w := h3.raise (C := w.heap.size) (fun k hk => Nat.le_trans HB.out.size (h3.lt hk).1); have HTU3 := Lib.hid (HTU.out w3 F3 O3 hBw3 h3w); have HL3 : Hid (∀ k, OwnB F3 O3 k → W.heap.size ≤ k) := fun k hk => (h3.lt hk).1; have H3L := Lib.hid h3.one; clear h3 hb3 hb33 hBw3 h3w
  (try (go_wp2_with fail))
  refine hK.out _ _ hs3 (fun hHeld => ?_)
  clear hK K
  (try go_simp)
  refine wpAnyH_ready (rs := [4]) (by kernel_rfl) (by simp) (AllReadyH.cons rfl (fun K hK => ?_) AllReadyH.nil)
  go_simp
  go_at_call 25; (with_reducible refine HTU3.out.mono ?_); rintro er w5 ⟨F5, rfl, h5, hb5, hk5⟩; have hbw := ((But.of_below (X := OwnB F3 O3) HB3.out).trans hb5); have HB5 := Lib.hid hbw; have HBX := Lib.hid ((But.of_below (X := OwnB F3 O3) HB33.out).trans hb5); have HBR5 := Lib.hid (HBR.out.but hbw fun q => by have := HL3.out _ q; have := HQE.out; omega); have hY : ∀ k, OwnB F3 O3 k → k ≠ q0 ∧ k ≠ q1 := (fun k hk => by have := HL3.out k hk; have := HQE.out; omega); have hs5 := HS.out (OwnB F3 O3) w5 hY hbw; have HS5 : Hid (∀ X, But (fun k => k = q2) w5 X → _ ∧ _) := fun X hb => HS.out (fun k => OwnB F3 O3 k ∨ k = q2) X (fun k hk => by rcases hk with q | q; exact hY k q; have := HQE.out; exact ⟨by omega, by omega⟩) ((hbw.mono fun _ _ q => .inl q).trans (hb.mono fun _ _ q => .inr q)); have H5 := Lib.hid h5; have HK5 := Lib.hid hk5; obtain ⟨oF5, oO5⟩ := h5.one; clear h5 hb5 hbw hk5 hY
  (try (go_wp2_with fail))
  refine hK.out _ _ hs5 (fun hHeld => ?_)
  clear hK K
  (try go_simp)
  refine wpAnyH_take (i := 5) (v := ?_) rfl (by kernel_rfl) (by kernel_rfl) (by kernel_rfl) (fun _ _ _ h => h) (Or.inl ⟨by rfl, fun X hX => by (obtain ⟨⟨z0, z1, z2, z3, z4⟩, z6⟩ := hX; go_simp <;> with_reducible rfl)⟩) hHeld ?_
  go_simp
  refine wpAnyH_take (i := 6) (v := ?_) rfl (by kernel_rfl) (by kernel_rfl) (by kernel_rfl) (fun _ _ _ h => h) (Or.inl ⟨by rfl, fun X hX => by (obtain ⟨⟨z0, z1, z2, z3, z4⟩, z6⟩ := hX; go_simp <;> with_reducible rfl)⟩) hHeld ?_
  go_simp
  refine wpAnyH_ready (rs := [7]) (by kernel_rfl) (by simp) (AllReadyH.cons rfl (fun K hK => ?_) AllReadyH.nil)
  refine step_st_flat rfl (.tmp 6) (.tmp 13) rfl q2 rfl rfl oF5 oO5 old HBR5.out HOL.out ?_
  refine hK.out _ _ (HS5.out _ ((But.refl (fun k => k = q2) _).row _ _ (.inl rfl))) (fun hHeld => ?_)
  clear hK K
  (try go_simp)
  refine wpAnyH_ready (rs := [8]) (by kernel_rfl) (by simp) (AllReadyH.cons rfl (fun K hK => ?_) AllReadyH.nil)
  go_simp
  refine hK.out _ _ hHeld (fun hHeld => ?_)
  clear hK K
  refine wpAnyH_done (by kernel_rfl) ?_ _
  go_wp2_with fail
  refine ret_flat2 rfl q2 rfl (BF.row HBR5.out) rfl ?_
  have hlow : ∀ k, OwnB F5 O3 k → W.heap.size ≤ k := fun k hk => by
    rcases hk with q | q
    · rcases HK5.out k q with q | q
      · exact HL3.out k (.inl q)
      · have := HB3.out.size; omega
    · exact HL3.out k (.inr q)
  refine ⟨F5, O3, rfl, (H5.out.row q2 _ fun k hk q => ?_).raise fun k hk => ?_, ?_⟩
  · have := hlow k hk; have := HQE.out; omega
  · have := hlow k hk; have := HB.out.size; omega
  · refine ((HBX.out.row q2 _ (.inr HQE.out.2.2.2.1))).below (Nat.le_refl _) fun k _ q => ?_
    have := HL3.out k q; have := HB.out.size; omega
end
end Go.Proofs.YtdelddkpbdnckaaDoor
