/- An event that dispatches a task (layer 19): printed by wip/src19/gen_ki.py. -/
import Derived.Test.YtilaalleiiakoaaDoorKg
import Derived.Deep.RegionHeld
import Derived.OrdersHeld
namespace Go.Proofs.YtilaalleiiakoaaDoor
open Go.RowKit
set_option maxRecDepth 100000

set_option maxHeartbeats 4000000 in
theorem tt_2 {w : World} {B g cap : Nat} {O : Value} {ts : List FT} {ow : List Int} {i : Nat} {x : FT} {PA : Option Addr} {ps : List PR} (h : OwnF w B (.slice (some ⟨g, 0, none⟩) ts.length cap) O ts ow) (hx : ts[i]? = some x) (hl : ts.length ≤ 1000) (pcap : Nat) (p : Nat → Bool) (t cpu a b : Int) :
    Calls Tryd.prog 42 #[flV (.slice (some ⟨g, 0, none⟩) ts.length cap) O p t, .slice PA ps.length pcap, evV ⟨2, i, cpu, a, b⟩] w (TaskG w B g cap O ts ow i (taskP ⟨ts, p, ow, t⟩ ps ⟨2, i, cpu, a, b⟩ x)) := by
  have hF := Fro.new w (.slice (some ⟨g, 0, none⟩) ts.length cap) O p t ⟨2, i, cpu, a, b⟩ g (i * 8)
  obtain ⟨R, hR⟩ : ∃ R, taskP ⟨ts, p, ow, t⟩ ps ⟨2, i, cpu, a, b⟩ x = R := ⟨_, rfl⟩
  have HR := Lib.hid hR
  rw [hR]
  have hil := (List.getElem?_eq_some_iff.1 hx).1
  have c0 := BF.c0 ((Blk.new w 30 (flL (.slice (some ⟨g, 0, none⟩) ts.length cap) O p t).toArray).alloc (.cells #[.int .i64 2, .int .i64 i, .int .i64 cpu, .int .i64 a, .int .i64 b] 36))
  have i0 : (0 : Int) ≤ (i : Int) := by omega
  have i1 : (i : Int) < (ts.length : Int) := by omega
  have HH := Lib.hid h; have HX := Lib.hid hx
  obtain ⟨N, hN⟩ : ∃ N, ts.length = N := ⟨_, rfl⟩
  unfold flV
  obtain ⟨X, hX⟩ : ∃ X, flL (.slice (some ⟨g, 0, none⟩) ts.length cap) O p t = X := ⟨_, rfl⟩
  clear h hx hR
  have hF2 : Fro w (((w.alloc (.cells X.toArray 30)).alloc (.cells #[.int .i64 2, .int .i64 i, .int .i64 cpu, .int .i64 a, .int .i64 b] 36)).alloc (.cells #[.pointer (some ⟨g, i * 8, none⟩)] 91)) (.slice (some ⟨g, 0, none⟩) ts.length cap) O p t ⟨2, i, cpu, a, b⟩ g (i * 8) := by rw [← hX]; exact hF
  have HF := Lib.hid hF2
  rw [hX] at c0 ⊢
  rw [hN] at c0 i1
  have HXX := Lib.hid hX; have HNN := Lib.hid hN
  clear hX hN hF hF2
  go_enter Tryd.func42, Tryd.ntmps42
  go_upto_region 4 with fail
  generalize ((w.alloc (.cells X.toArray 30)).alloc (.cells #[.int .i64 2, .int .i64 i, .int .i64 cpu, .int .i64 a, .int .i64 b] 36)).alloc (.cells #[.pointer (some ⟨g, i * 8, none⟩)] 91) = W at *
  have HB := Lib.hid HF.out.bl
  have HO := Lib.hid (HH.out.below HF.out.bl)
  obtain ⟨e0, e1, e2, e3, e4⟩ := HF.out.ev
  have qp : W.cell? ⟨w.heap.size + 1 + 1, 0, none⟩ = some (.pointer (some ⟨g, i * 8, none⟩)) := HF.out.bp.cell 0
  have hc := HO.out.cells HX.out
  have n6 : W.cell? ⟨g, i * 8 + 6, none⟩ = some (.int .i64 x.st) := hc 6 _ rfl
  have n7 : W.cell? ⟨g, i * 8 + 7, none⟩ = some (.int .i64 x.on) := hc 7 _ rfl
  have HRA : W.rangeAt w.heap.size 0 X := by rw [← HXX.out]; exact BF.all HF.out.bf
  have HXL : Hid ((Tryd.prog.info? 30).map (·.size) = some X.length) := by show _ = _; rw [← HXX.out, flL_len]; exact infoFlat
  have hTS : TsIn W.drew (some ⟨g, 0, none⟩) ts := by
    obtain ⟨A', cap', hA', hT⟩ := own_tsIn HO.out.tk
    simp only [Value.slice.injEq, true_and] at hA'
    obtain ⟨rfl, rfl⟩ := hA'
    exact hT.below ((Below.refl _ _).drew)
  have hIF := isFree_any _ ts cap O p t cpu hl hTS
  unfold flV at hIF
  rw [HXX.out] at hIF
  have HIF := Lib.hid hIF
  have HRG := Lib.hid HRA
  have h01 : w.heap.size ≠ g := by have h9 : g < w.heap.size := (HH.out.lt (.inl rfl)).2; omega
  have HSF : Hid (∀ W', But (fun k => k = g) W W' → W'.rangeAt w.heap.size 0 X) := fun W' hb j u hj => by
    have c := HRG.out j u hj
    exact (hb.cell0 (lt_of_cell c) h01).trans c
  clear hIF hTS HRA HXX h01
  have hgl : g < w.heap.size := (HH.out.lt (.inl rfl)).2
  have hgq : w.heap.size + 1 ≠ g ∧ w.heap.size + 1 + 1 ≠ g := by omega
  have HGQ := Lib.hid hgq
  clear c0 i0 i1 hil HNN hc hgq hgl
  generalize w.heap.size + 1 + 1 = q2 at *
  generalize w.heap.size + 1 = q1 at *
  have HGO : Hid (∀ W' bq, Below W.heap.size W W' → Calls Tryd.prog 53 #[.bool bq, .int .i64 2, .int .i64 cpu, .pointer (some ⟨q2, 0, none⟩)] W' (TaskG W' B g cap O ts ow i (if bq = true then some { x with st := 2, on := cpu } else none))) := fun W' bq hb => goes_any (HO.out.below hb) HX.out bq (2) (cpu) q2 ((hb.cell (p := ⟨q2, 0, none⟩) (lt_of_cell qp)).trans qp)
  have HS : Hid (∀ W', But (fun k => k = g) W W' → W'.cell? ⟨q1, 2, none⟩ = some (.int .i64 cpu) ∧ W'.cell? ⟨q1, 3, none⟩ = some (.int .i64 a) ∧ W'.cell? ⟨q1, 4, none⟩ = some (.int .i64 b) ∧ W'.cell? ⟨q2, 0, none⟩ = some (.pointer (some ⟨g, i * 8, none⟩))) := fun W' hb =>
    ⟨(hb.cell0 (lt_of_cell e2) HGQ.out.1).trans e2, (hb.cell0 (lt_of_cell e2) HGQ.out.1).trans e3, (hb.cell0 (lt_of_cell e2) HGQ.out.1).trans e4, (hb.cell0 (lt_of_cell qp) HGQ.out.2).trans qp⟩
  have HIS := Lib.hid (is_any x 1 a q2 g (i * 8) W.drew qp n6 n7)
  obtain ⟨bi, hbi⟩ : ∃ bi, decide (x.st = 1 ∧ x.on = a) = bi := ⟨_, rfl⟩
  obtain ⟨bf, hbf⟩ : ∃ bf, (hasP p cpu && !busyP ts cpu) = bf := ⟨_, rfl⟩
  rw [hbi] at HIS
  rw [hbf] at HIF
  have HRE : Hid (R = if (bi && bf) = true then some { x with st := 2, on := cpu } else none) := by
    show _ = _
    rw [← HR.out]
    rw [← hbi, ← hbf]
    unfold taskP
    rw [if_pos rfl]
    congr 1
    simp only [Bool.and_eq_true, decide_eq_true_eq, Bool.not_eq_true', eq_iff_iff]
    exact ⟨fun ⟨a, b, c, d⟩ => ⟨⟨a, b⟩, c, d⟩, fun ⟨⟨a, b⟩, c, d⟩ => ⟨a, b, c, d⟩⟩
  clear hbi hbf HR
  generalize hq0 : w.heap.size = q0 at HSF HRG ⊢
  clear hq0
  go_upto_region 6 with fail
  cases bi with
  | false =>
    refine wp_region_held_drew (S := fun X' => (X'.cell? ⟨q1, 2, none⟩ = some (.int .i64 cpu) ∧ X'.cell? ⟨q1, 3, none⟩ = some (.int .i64 a) ∧ X'.cell? ⟨q1, 4, none⟩ = some (.int .i64 b) ∧ X'.cell? ⟨q2, 0, none⟩ = some (.pointer (some ⟨g, i * 8, none⟩))) ∧ X'.rangeAt q0 0 X) (by kernel_rfl) ⟨⟨e2, e3, e4, qp⟩, HRG.out⟩ (fun hHeld => ?_)
    show wpAnyH _ _ _ _ _ _ _ _ _
    try dsimp only at hHeld
    refine wpAnyH_take (i := 0) (v := ?_) rfl (by kernel_rfl) (by kernel_rfl) (by kernel_rfl) (fun _ _ _ h => h) (Or.inl ⟨by rfl, fun X hX => by (obtain ⟨⟨z0, z1, z2, z3⟩, z4⟩ := hX; go_simp <;> with_reducible rfl)⟩) hHeld ?_
    go_simp
    refine wpAnyH_take (i := 1) (v := ?_) rfl (by kernel_rfl) (by kernel_rfl) (by kernel_rfl) (fun _ _ _ h => h) (Or.inl ⟨by rfl, fun X hX => by (obtain ⟨⟨z0, z1, z2, z3⟩, z4⟩ := hX; go_simp <;> with_reducible rfl)⟩) hHeld ?_
    go_simp
    refine wpAnyH_take (i := 2) (v := ?_) rfl (by kernel_rfl) (by kernel_rfl) (by kernel_rfl) (fun _ _ _ h => h) (Or.inl ⟨by rfl, fun X hX => by (obtain ⟨⟨z0, z1, z2, z3⟩, z4⟩ := hX; go_simp <;> with_reducible rfl)⟩) hHeld ?_
    go_simp
    refine wpAnyH_take (i := 3) (v := ?_) rfl (by kernel_rfl) (by kernel_rfl) (by kernel_rfl) (fun _ _ _ h => h) (Or.inl ⟨by rfl, fun X hX => by (obtain ⟨⟨z0, z1, z2, z3⟩, z4⟩ := hX; go_simp <;> with_reducible rfl)⟩) hHeld ?_
    go_simp
    refine wpAnyH_take (i := 11) (v := ?_) rfl (by kernel_rfl) (by kernel_rfl) (by kernel_rfl) (fun _ _ _ h => h) (Or.inl ⟨by rfl, fun X hX => by (obtain ⟨⟨z0, z1, z2, z3⟩, z4⟩ := hX; go_simp <;> with_reducible rfl)⟩) hHeld ?_
    go_simp
    refine wpAnyH_take (i := 12) (v := ?_) rfl (by kernel_rfl) (by kernel_rfl) (by kernel_rfl) (fun _ _ _ h => h) (Or.inl ⟨by rfl, fun X hX => by (obtain ⟨⟨z0, z1, z2, z3⟩, z4⟩ := hX; go_simp <;> with_reducible rfl)⟩) hHeld ?_
    go_simp
    refine wpAnyH_ready (rs := [4]) (by kernel_rfl) (by simp) (AllReadyH.cons rfl (fun K hK => ?_) AllReadyH.nil)
    go_simp
    go_at_call 52; (with_reducible refine HIS.out.mono ?_); rintro e w3 ⟨rfl, rfl⟩
    (try (go_wp2_with fail))
    refine hK.out _ _ hHeld (fun hHeld => ?_)
    clear hK K
    (try go_simp)
    refine wpAnyH_take (i := 5) (v := ?_) rfl (by kernel_rfl) (by kernel_rfl) (by kernel_rfl) (fun _ _ _ h => h) (Or.inl ⟨by rfl, fun X hX => by (obtain ⟨⟨z0, z1, z2, z3⟩, z4⟩ := hX; go_simp <;> with_reducible rfl)⟩) hHeld ?_
    go_simp
    refine wpAnyH_take (i := 6) (v := undef) rfl (by kernel_rfl) (by kernel_rfl) (by kernel_rfl) (fun _ _ _ h => h) (Or.inr ⟨by rfl, rfl⟩) hHeld ?_
    go_simp
    refine wpAnyH_take (i := 7) (v := undef) rfl (by kernel_rfl) (by kernel_rfl) (by kernel_rfl) (fun _ _ _ h => h) (Or.inr ⟨by rfl, rfl⟩) hHeld ?_
    go_simp
    refine wpAnyH_take (i := 8) (v := undef) rfl (by kernel_rfl) (by kernel_rfl) (by kernel_rfl) (fun _ _ _ h => h) (Or.inr ⟨by rfl, rfl⟩) hHeld ?_
    go_simp
    refine wpAnyH_take (i := 9) (v := undef) rfl (by kernel_rfl) (by kernel_rfl) (by kernel_rfl) (fun _ _ _ h => h) (Or.inr ⟨by rfl, rfl⟩) hHeld ?_
    go_simp
    refine wpAnyH_take (i := 10) (v := ?_) rfl (by kernel_rfl) (by kernel_rfl) (by kernel_rfl) (fun _ _ _ h => h) (Or.inl ⟨by rfl, fun X hX => by (obtain ⟨⟨z0, z1, z2, z3⟩, z4⟩ := hX; go_simp <;> with_reducible rfl)⟩) hHeld ?_
    go_simp
    refine wpAnyH_ready (rs := [13]) (by kernel_rfl) (by simp) (AllReadyH.cons rfl (fun K hK => ?_) AllReadyH.nil)
    go_simp
    go_at_call 53; (with_reducible refine (HGO.out _ false ((Below.refl _ _).drew)).mono ?_); rintro e w5 ⟨rfl, h5⟩; have HT5 := Lib.hid h5; have hs5 := And.intro (HS.out w5 ((But.of_below ((Below.refl _ _).drew)).trans h5.but)) (HSF.out w5 ((But.of_below ((Below.refl _ _).drew)).trans h5.but)); clear h5
    (try (go_wp2_with fail))
    refine hK.out _ _ hs5 (fun hHeld => ?_)
    clear hK K
    (try go_simp)
    refine wpAnyH_ready (rs := [14]) (by kernel_rfl) (by simp) (AllReadyH.cons rfl (fun K hK => ?_) AllReadyH.nil)
    go_simp
    refine hK.out _ _ hHeld (fun hHeld => ?_)
    clear hK K
    refine wpAnyH_done (by kernel_rfl) ?_ _
    go_wp2_with fail
    go_ret
    have e := HRE.out
    simp only [Bool.false_and, Bool.false_eq_true, ↓reduceIte] at e
    have ht := HT5.out
    simp only [Bool.false_eq_true, ↓reduceIte] at ht
    subst e
    exact ⟨rfl, ht.from HB.out.drew⟩
  | true =>
    cases bf with
    | false =>
      refine wp_region_held_drew (S := fun X' => (X'.cell? ⟨q1, 2, none⟩ = some (.int .i64 cpu) ∧ X'.cell? ⟨q1, 3, none⟩ = some (.int .i64 a) ∧ X'.cell? ⟨q1, 4, none⟩ = some (.int .i64 b) ∧ X'.cell? ⟨q2, 0, none⟩ = some (.pointer (some ⟨g, i * 8, none⟩))) ∧ X'.rangeAt q0 0 X) (by kernel_rfl) ⟨⟨e2, e3, e4, qp⟩, HRG.out⟩ (fun hHeld => ?_)
      show wpAnyH _ _ _ _ _ _ _ _ _
      try dsimp only at hHeld
      refine wpAnyH_take (i := 0) (v := ?_) rfl (by kernel_rfl) (by kernel_rfl) (by kernel_rfl) (fun _ _ _ h => h) (Or.inl ⟨by rfl, fun X hX => by (obtain ⟨⟨z0, z1, z2, z3⟩, z4⟩ := hX; go_simp <;> with_reducible rfl)⟩) hHeld ?_
      go_simp
      refine wpAnyH_take (i := 1) (v := ?_) rfl (by kernel_rfl) (by kernel_rfl) (by kernel_rfl) (fun _ _ _ h => h) (Or.inl ⟨by rfl, fun X hX => by (obtain ⟨⟨z0, z1, z2, z3⟩, z4⟩ := hX; go_simp <;> with_reducible rfl)⟩) hHeld ?_
      go_simp
      refine wpAnyH_take (i := 2) (v := ?_) rfl (by kernel_rfl) (by kernel_rfl) (by kernel_rfl) (fun _ _ _ h => h) (Or.inl ⟨by rfl, fun X hX => by (obtain ⟨⟨z0, z1, z2, z3⟩, z4⟩ := hX; go_simp <;> with_reducible rfl)⟩) hHeld ?_
      go_simp
      refine wpAnyH_take (i := 3) (v := ?_) rfl (by kernel_rfl) (by kernel_rfl) (by kernel_rfl) (fun _ _ _ h => h) (Or.inl ⟨by rfl, fun X hX => by (obtain ⟨⟨z0, z1, z2, z3⟩, z4⟩ := hX; go_simp <;> with_reducible rfl)⟩) hHeld ?_
      go_simp
      refine wpAnyH_take (i := 11) (v := ?_) rfl (by kernel_rfl) (by kernel_rfl) (by kernel_rfl) (fun _ _ _ h => h) (Or.inl ⟨by rfl, fun X hX => by (obtain ⟨⟨z0, z1, z2, z3⟩, z4⟩ := hX; go_simp <;> with_reducible rfl)⟩) hHeld ?_
      go_simp
      refine wpAnyH_take (i := 12) (v := ?_) rfl (by kernel_rfl) (by kernel_rfl) (by kernel_rfl) (fun _ _ _ h => h) (Or.inl ⟨by rfl, fun X hX => by (obtain ⟨⟨z0, z1, z2, z3⟩, z4⟩ := hX; go_simp <;> with_reducible rfl)⟩) hHeld ?_
      go_simp
      refine wpAnyH_ready (rs := [4]) (by kernel_rfl) (by simp) (AllReadyH.cons rfl (fun K hK => ?_) AllReadyH.nil)
      go_simp
      go_at_call 52; (with_reducible refine HIS.out.mono ?_); rintro e w3 ⟨rfl, rfl⟩
      (try (go_wp2_with fail))
      refine hK.out _ _ hHeld (fun hHeld => ?_)
      clear hK K
      (try go_simp)
      refine wpAnyH_take (i := 5) (v := ?_) rfl (by kernel_rfl) (by kernel_rfl) (by kernel_rfl) (fun _ _ _ h => h) (Or.inl ⟨by rfl, fun X hX => by (obtain ⟨⟨z0, z1, z2, z3⟩, z4⟩ := hX; go_simp <;> with_reducible rfl)⟩) hHeld ?_
      go_simp
      refine wpAnyH_take (i := 6) (v := .agg X.toArray) rfl (by kernel_rfl) (by kernel_rfl) (by kernel_rfl) (fun _ _ _ h => h) (yieldsIf_load_mid (by rfl) 30 (.tmp 3) rfl q0 0 rfl X _ (fun X' h => h.2) Tryd.underlying30 rfl HXL.out) hHeld ?_
      go_simp
      refine wpAnyH_take (i := 7) (v := ?_) rfl (by kernel_rfl) (by kernel_rfl) (by kernel_rfl) (fun _ _ _ h => h) (Or.inl ⟨by rfl, fun X hX => by (obtain ⟨⟨z0, z1, z2, z3⟩, z4⟩ := hX; go_simp <;> with_reducible rfl)⟩) hHeld ?_
      go_simp
      refine wpAnyH_take (i := 8) (v := ?_) rfl (by kernel_rfl) (by kernel_rfl) (by kernel_rfl) (fun _ _ _ h => h) (Or.inl ⟨by rfl, fun X hX => by (obtain ⟨⟨z0, z1, z2, z3⟩, z4⟩ := hX; go_simp <;> with_reducible rfl)⟩) hHeld ?_
      go_simp
      refine wpAnyH_ready (rs := [9]) (by kernel_rfl) (by simp) (AllReadyH.cons rfl (fun K hK => ?_) AllReadyH.nil)
      go_simp
      go_at_call 50; (with_reducible refine HIF.out.mono ?_); rintro e w4 ⟨rfl, h4⟩; have h44 := ((Below.refl W.heap.size W).drew).trans h4; have HB4 := Lib.hid h44; have hs4 := And.intro (HS.out w4 (But.of_below h44)) (HSF.out w4 (But.of_below h44)); clear h4 h44
      (try (go_wp2_with fail))
      refine hK.out _ _ hs4 (fun hHeld => ?_)
      clear hK K
      (try go_simp)
      refine wpAnyH_take (i := 10) (v := ?_) rfl (by kernel_rfl) (by kernel_rfl) (by kernel_rfl) (fun _ _ _ h => h) (Or.inl ⟨by rfl, fun X hX => by (obtain ⟨⟨z0, z1, z2, z3⟩, z4⟩ := hX; go_simp <;> with_reducible rfl)⟩) hHeld ?_
      go_simp
      refine wpAnyH_ready (rs := [13]) (by kernel_rfl) (by simp) (AllReadyH.cons rfl (fun K hK => ?_) AllReadyH.nil)
      go_simp
      go_at_call 53; (with_reducible refine (HGO.out _ false HB4.out).mono ?_); rintro e w5 ⟨rfl, h5⟩; have HT5 := Lib.hid h5; have hs5 := And.intro (HS.out w5 ((But.of_below HB4.out).trans h5.but)) (HSF.out w5 ((But.of_below HB4.out).trans h5.but)); clear h5
      (try (go_wp2_with fail))
      refine hK.out _ _ hs5 (fun hHeld => ?_)
      clear hK K
      (try go_simp)
      refine wpAnyH_ready (rs := [14]) (by kernel_rfl) (by simp) (AllReadyH.cons rfl (fun K hK => ?_) AllReadyH.nil)
      go_simp
      refine hK.out _ _ hHeld (fun hHeld => ?_)
      clear hK K
      refine wpAnyH_done (by kernel_rfl) ?_ _
      go_wp2_with fail
      go_ret
      have e := HRE.out
      simp only [Bool.true_and, Bool.false_eq_true, ↓reduceIte] at e
      have ht := HT5.out
      simp only [Bool.false_eq_true, ↓reduceIte] at ht
      subst e
      exact ⟨rfl, ht.from (HB.out.trans (HB4.out.mono HB.out.size))⟩
    | true =>
      refine wp_region_held_drew (S := fun X' => (X'.cell? ⟨q1, 2, none⟩ = some (.int .i64 cpu) ∧ X'.cell? ⟨q1, 3, none⟩ = some (.int .i64 a) ∧ X'.cell? ⟨q1, 4, none⟩ = some (.int .i64 b) ∧ X'.cell? ⟨q2, 0, none⟩ = some (.pointer (some ⟨g, i * 8, none⟩))) ∧ X'.rangeAt q0 0 X) (by kernel_rfl) ⟨⟨e2, e3, e4, qp⟩, HRG.out⟩ (fun hHeld => ?_)
      show wpAnyH _ _ _ _ _ _ _ _ _
      try dsimp only at hHeld
      refine wpAnyH_take (i := 0) (v := ?_) rfl (by kernel_rfl) (by kernel_rfl) (by kernel_rfl) (fun _ _ _ h => h) (Or.inl ⟨by rfl, fun X hX => by (obtain ⟨⟨z0, z1, z2, z3⟩, z4⟩ := hX; go_simp <;> with_reducible rfl)⟩) hHeld ?_
      go_simp
      refine wpAnyH_take (i := 1) (v := ?_) rfl (by kernel_rfl) (by kernel_rfl) (by kernel_rfl) (fun _ _ _ h => h) (Or.inl ⟨by rfl, fun X hX => by (obtain ⟨⟨z0, z1, z2, z3⟩, z4⟩ := hX; go_simp <;> with_reducible rfl)⟩) hHeld ?_
      go_simp
      refine wpAnyH_take (i := 2) (v := ?_) rfl (by kernel_rfl) (by kernel_rfl) (by kernel_rfl) (fun _ _ _ h => h) (Or.inl ⟨by rfl, fun X hX => by (obtain ⟨⟨z0, z1, z2, z3⟩, z4⟩ := hX; go_simp <;> with_reducible rfl)⟩) hHeld ?_
      go_simp
      refine wpAnyH_take (i := 3) (v := ?_) rfl (by kernel_rfl) (by kernel_rfl) (by kernel_rfl) (fun _ _ _ h => h) (Or.inl ⟨by rfl, fun X hX => by (obtain ⟨⟨z0, z1, z2, z3⟩, z4⟩ := hX; go_simp <;> with_reducible rfl)⟩) hHeld ?_
      go_simp
      refine wpAnyH_take (i := 11) (v := ?_) rfl (by kernel_rfl) (by kernel_rfl) (by kernel_rfl) (fun _ _ _ h => h) (Or.inl ⟨by rfl, fun X hX => by (obtain ⟨⟨z0, z1, z2, z3⟩, z4⟩ := hX; go_simp <;> with_reducible rfl)⟩) hHeld ?_
      go_simp
      refine wpAnyH_take (i := 12) (v := ?_) rfl (by kernel_rfl) (by kernel_rfl) (by kernel_rfl) (fun _ _ _ h => h) (Or.inl ⟨by rfl, fun X hX => by (obtain ⟨⟨z0, z1, z2, z3⟩, z4⟩ := hX; go_simp <;> with_reducible rfl)⟩) hHeld ?_
      go_simp
      refine wpAnyH_ready (rs := [4]) (by kernel_rfl) (by simp) (AllReadyH.cons rfl (fun K hK => ?_) AllReadyH.nil)
      go_simp
      go_at_call 52; (with_reducible refine HIS.out.mono ?_); rintro e w3 ⟨rfl, rfl⟩
      (try (go_wp2_with fail))
      refine hK.out _ _ hHeld (fun hHeld => ?_)
      clear hK K
      (try go_simp)
      refine wpAnyH_take (i := 5) (v := ?_) rfl (by kernel_rfl) (by kernel_rfl) (by kernel_rfl) (fun _ _ _ h => h) (Or.inl ⟨by rfl, fun X hX => by (obtain ⟨⟨z0, z1, z2, z3⟩, z4⟩ := hX; go_simp <;> with_reducible rfl)⟩) hHeld ?_
      go_simp
      refine wpAnyH_take (i := 6) (v := .agg X.toArray) rfl (by kernel_rfl) (by kernel_rfl) (by kernel_rfl) (fun _ _ _ h => h) (yieldsIf_load_mid (by rfl) 30 (.tmp 3) rfl q0 0 rfl X _ (fun X' h => h.2) Tryd.underlying30 rfl HXL.out) hHeld ?_
      go_simp
      refine wpAnyH_take (i := 7) (v := ?_) rfl (by kernel_rfl) (by kernel_rfl) (by kernel_rfl) (fun _ _ _ h => h) (Or.inl ⟨by rfl, fun X hX => by (obtain ⟨⟨z0, z1, z2, z3⟩, z4⟩ := hX; go_simp <;> with_reducible rfl)⟩) hHeld ?_
      go_simp
      refine wpAnyH_take (i := 8) (v := ?_) rfl (by kernel_rfl) (by kernel_rfl) (by kernel_rfl) (fun _ _ _ h => h) (Or.inl ⟨by rfl, fun X hX => by (obtain ⟨⟨z0, z1, z2, z3⟩, z4⟩ := hX; go_simp <;> with_reducible rfl)⟩) hHeld ?_
      go_simp
      refine wpAnyH_ready (rs := [9]) (by kernel_rfl) (by simp) (AllReadyH.cons rfl (fun K hK => ?_) AllReadyH.nil)
      go_simp
      go_at_call 50; (with_reducible refine HIF.out.mono ?_); rintro e w4 ⟨rfl, h4⟩; have h44 := ((Below.refl W.heap.size W).drew).trans h4; have HB4 := Lib.hid h44; have hs4 := And.intro (HS.out w4 (But.of_below h44)) (HSF.out w4 (But.of_below h44)); clear h4 h44
      (try (go_wp2_with fail))
      refine hK.out _ _ hs4 (fun hHeld => ?_)
      clear hK K
      (try go_simp)
      refine wpAnyH_take (i := 10) (v := ?_) rfl (by kernel_rfl) (by kernel_rfl) (by kernel_rfl) (fun _ _ _ h => h) (Or.inl ⟨by rfl, fun X hX => by (obtain ⟨⟨z0, z1, z2, z3⟩, z4⟩ := hX; go_simp <;> with_reducible rfl)⟩) hHeld ?_
      go_simp
      refine wpAnyH_ready (rs := [13]) (by kernel_rfl) (by simp) (AllReadyH.cons rfl (fun K hK => ?_) AllReadyH.nil)
      go_simp
      go_at_call 53; (with_reducible refine (HGO.out _ true HB4.out).mono ?_); rintro e w5 ⟨rfl, h5⟩; have HT5 := Lib.hid h5; have hs5 := And.intro (HS.out w5 ((But.of_below HB4.out).trans h5.but)) (HSF.out w5 ((But.of_below HB4.out).trans h5.but)); clear h5
      (try (go_wp2_with fail))
      refine hK.out _ _ hs5 (fun hHeld => ?_)
      clear hK K
      (try go_simp)
      refine wpAnyH_ready (rs := [14]) (by kernel_rfl) (by simp) (AllReadyH.cons rfl (fun K hK => ?_) AllReadyH.nil)
      go_simp
      refine hK.out _ _ hHeld (fun hHeld => ?_)
      clear hK K
      refine wpAnyH_done (by kernel_rfl) ?_ _
      go_wp2_with fail
      go_ret
      have e := HRE.out
      simp only [Bool.and_self, ↓reduceIte] at e
      have ht := HT5.out
      simp only [↓reduceIte] at ht
      subst e
      exact ⟨rfl, ht.from (HB.out.trans (HB4.out.mono HB.out.size))⟩
end Go.Proofs.YtilaalleiiakoaaDoor
