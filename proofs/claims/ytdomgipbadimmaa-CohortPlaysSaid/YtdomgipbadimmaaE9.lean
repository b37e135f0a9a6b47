/- The document's Give: it leaves its socket (layer 14). -/
import Derived.Test.YtdomgipbadimmaaE8
namespace Go.Proofs.Ytdomgipbadimmaa
open Go.RowKit
set_option maxRecDepth 100000

section
variable {D : Nat → Prop} {c : Coh} {E : List Ent} {wv rv : Value} {W w' : World} {t : Int}
theorem toldR_len (z : Int) (c : Coh) (E : List Ent) : (toldR z c E).length ≤ (rndL c).length := by
  unfold toldR
  split
  · exact List.length_filter_le _ _
  · exact Nat.le_refl _
set_option maxHeartbeats 32000000 in
theorem dgive_leave (t : Int) (h : DLk D c E wv rv W) (hr : RelC c E) (hi : isOfC c t = true) (hot : c.own = t) (hn : c.own ≠ -1) (h1 : ¬ (0 ≤ ownI c ∧ (c.pas < 3 ∨ othI c < 0))) (h2 : 0 ≤ othI c) (hE0 : 0 < E.length) (hE : E.length ≤ 900) (hR : (rndL c).length ≤ 900) : Calls Try.prog 42 #[.agg (dcells c wv rv).toArray, .int .i64 t] W (DGiveP D c E t W) := by
  obtain ⟨zt, x, xs, hzs, h01, hw, hrel, ho', hs', hp', hl'⟩ := hr.leave h1 h2
  have hg : goesC c = true := by rw [hr.none, show (E.length == 0) = false from beq_false_of_ne (by omega)]; rfl
  obtain ⟨ow, how⟩ : ∃ b, decide (0 ≤ ownI c) = b := ⟨_, rfl⟩
  have hhas : ((rndL c).any fun x => x == c.soc) = ow := by rw [← own_has]; exact how
  rw [how] at hl'
  have hcond : ow = true → ¬ c.pas < 3 ∧ (rndL c).length ≠ 1 := fun q => by
    have ho : 0 ≤ ownI c := by rw [q] at how; simpa using how
    exact ⟨fun a => h1 ⟨ho, .inl a⟩, fun a => h1 ⟨ho, .inr ((oth_none hr.ok ho).2 a)⟩⟩
  have hsec : (rndL c)[0]? = some c.soc → ow = true := fun q => by
    rw [← hhas, List.any_eq_true]
    exact ⟨c.soc, List.mem_of_getElem? q, by simp⟩
  have hx1 : x ≠ -1 := by
    have hmem : x ∈ wof zt E := by rw [hw]; simp
    obtain ⟨e, he, e1, _⟩ := wof_mem hmem
    obtain ⟨r, hr1, _, hm⟩ := hr.row he
    have := hr.ok.tsk r hr1 _ hm
    omega
  obtain ⟨A1, c1, rfl, hc1, -, -⟩ := h.ent
  obtain ⟨A2, c2, rfl, hc2, -, hnum⟩ := h.rnd.num
  have HF : Hid (∀ v r w', DLk (Since D W) (giveC c) (dropW zt E) v r w' → Below W.heap.size W w' → DGiveP D c E t W (.returned (.tuple #[.agg #[.bool true, .int .i64 x, .int .i64 zt, .int .i64 0, v, r], .int .i64 x, .bool true, .int .i64 0])) w') := fun v r w' hd hb => by
    have := dgivep_on hi hg rfl ho' (by rw [hs']) hd hb
    unfold dcells at this
    have hq : (giveC c).own ≠ -1 := by rw [ho']; exact hx1
    rw [heldD_yes hq, ownD_yes hq, ho', hs', hp'] at this
    exact this
  have h' : DLk (InOld D W) c E (.slice A1 E.length c1) (.slice A2 (rndL c).length c2) W := h.mono fun g hg q => ⟨q, hg⟩
  have HD := Lib.hid h'
  have PT : Hid (∀ W4, Below W.heap.size W W4 → Calls Try.prog 63 #[.agg #[.bool true, .int .i64 c.own, .int .i64 c.soc, .int .i64 c.pas, .slice A1 E.length c1, .slice A2 (rndL c).length c2], .int .i64 zt] W4 fun e w' => ∃ Av nv cv Ar nr cr, e = .returned (.agg #[.bool true, .int .i64 x, .int .i64 c.soc, .int .i64 c.pas, .slice Av nv cv, .slice Ar nr cr]) ∧ (SIn (Since (InOld D W) W4) (.slice Av nv cv) (dropW zt E).length (entC (dropW zt E)) w' ∧ SIn (Since (InOld D W) W4) (.slice Ar nr cr) (toldR zt c E).length (numC (toldR zt c E)) w') ∧ Below W4.heap.size W4 w') := fun W4 hb => dtold_at zt x xs hw (HD.out.below hb) hn hE hR
  have PH : Hid (∀ W4, Below W.heap.size W W4 → Calls Try.prog 62 #[.slice A2 (rndL c).length c2, .int .i64 c.soc] W4 fun e w' => e = .returned (.bool ow) ∧ W4 = w') := fun W4 hb => by
    have := has14_any c.soc (HD.out.below hb).rnd (by omega)
    rwa [hhas] at this
  obtain ⟨n, hnn⟩ : ∃ n, E.length = n := ⟨_, rfl⟩
  obtain ⟨m, hmm⟩ : ∃ m, (rndL c).length = m := ⟨_, rfl⟩
  have HMK : Hid (∀ W4 w5, W.heap.size + 2 ≤ W4.heap.size → ∀ Av nv cv Ar nr cr, SIn (Since (InOld D W) W4) (.slice Av nv cv) (dropW zt E).length (entC (dropW zt E)) w5 ∧ SIn (Since (InOld D W) W4) (.slice Ar nr cr) (toldR zt c E).length (numC (toldR zt c E)) w5 → SIn (Apart D W w5) (.slice Av nv cv) (dropW zt E).length (entC (dropW zt E)) w5 ∧ SIn (Apart D W w5) (.slice Ar nr cr) (toldR zt c E).length (numC (toldR zt c E)) w5) := fun W4 w5 hb Av nv cv Ar nr cr ⟨q1, q2⟩ =>
    ⟨q1.mono fun g hg q => apart_of hb hg q, q2.mono fun g hg q => apart_of hb hg q⟩
  have HRL := Lib.hid hR
  have HNB : Hid (∀ (i : Nat) (y : Int), (rndL c)[i]? = some y → ∃ g, A2 = some ⟨g, 0, none⟩ ∧ ((W.alloc (.cells #[.bool true, .int .i64 t, .int .i64 c.soc, .int .i64 c.pas, .slice A1 E.length c1, .slice A2 (rndL c).length c2] 93)).alloc (.cells #[.bool false, .int .i64 0, .int .i64 0, .int .i64 0, .slice none 0 0, .slice none 0 0] 93)).cell? ⟨g, i, none⟩ = some (.int .i64 y)) := fun i y hy => by
    obtain ⟨g, e, l0, f0⟩ := hnum i y hy
    have hb9 : Below W.heap.size W ((W.alloc (.cells #[.bool true, .int .i64 t, .int .i64 c.soc, .int .i64 c.pas, .slice A1 E.length c1, .slice A2 (rndL c).length c2] 93)).alloc (.cells #[.bool false, .int .i64 0, .int .i64 0, .int .i64 0, .slice none 0 0, .slice none 0 0] 93)) := ((Below.refl _ _).alloc (Nat.le_refl _) _).alloc (by simp) _
    exact ⟨g, e, (hb9.cell (p := ⟨g, i, none⟩) l0).trans f0⟩
  have hlt : ∀ (i : Nat) (y : Int), (rndL c)[i]? = some y → i < (rndL c).length := fun i y hy => (List.getElem?_eq_some_iff.1 hy).1
  unfold dcells
  rw [heldD_yes hn, ownD_yes hn, hot]
  rw [hot] at PT
  rw [hnn, hmm] at PT
  rw [hmm] at PH hcond hR hlt
  rw [hnn, hmm] at HNB
  rw [hnn] at hE hE0
  rw [hnn, hmm]
  generalize c.soc = b2 at *
  generalize hb3 : c.pas = b3 at *
  have tt : (t != t) = false := by simp
  have tn : ((n : Int) == 0) = false := by simp; omega
  have tz : (zt == b2) = false := by simpa using hzs
  show Calls _ _ #[.agg #[.bool true, .int .i64 t, .int .i64 b2, .int .i64 b3, .slice A1 n c1, .slice A2 m c2], _] _ _
  clear h hr hi hot hn h1 h2 hw hrel ho' hs' hp' hg hhas hx1 hnn hmm hc1 hb3 how hzs hnum h'
  have hb1 : Below W.heap.size W ((W.alloc (.cells #[.bool true, .int .i64 t, .int .i64 b2, .int .i64 b3, .slice A1 n c1, .slice A2 m c2] 93)).alloc (.cells #[.bool false, .int .i64 0, .int .i64 0, .int .i64 0, .slice none 0 0, .slice none 0 0] 93)) := ((Below.refl _ _).alloc (Nat.le_refl _) _).alloc (by simp) _
  have HX1 : Hid (Blk ((W.alloc (.cells #[.bool true, .int .i64 t, .int .i64 b2, .int .i64 b3, .slice A1 n c1, .slice A2 m c2] 93)).alloc (.cells #[.bool false, .int .i64 0, .int .i64 0, .int .i64 0, .slice none 0 0, .slice none 0 0] 93)) W.heap.size 93 #[.bool true, .int .i64 t, .int .i64 b2, .int .i64 b3, .slice A1 n c1, .slice A2 m c2]) := (Blk.new W _ _).alloc _
  have HR1 : Hid (Blk ((W.alloc (.cells #[.bool true, .int .i64 t, .int .i64 b2, .int .i64 b3, .slice A1 n c1, .slice A2 m c2] 93)).alloc (.cells #[.bool false, .int .i64 0, .int .i64 0, .int .i64 0, .slice none 0 0, .slice none 0 0] 93)) (W.heap.size + 1) 93 #[.bool false, .int .i64 0, .int .i64 0, .int .i64 0, .slice none 0 0, .slice none 0 0]) := blk_new2 W _ _ _
  have P1 := Lib.hid (PH.out _ hb1)
  have P2 := Lib.hid (PT.out _ hb1)
  have HB1 := Lib.hid hb1
  clear hb1 PH PT
  go_enter Try.func42, Try.ntmps42
  go_upto_region 6 with (go_at_call 62; (with_reducible refine P1.out.mono ?_); rintro e9 w9 ⟨rfl, rfl⟩)
  clear P1
  cases ow with
  | false =>
    have h0 : (rndL c)[0]? = some zt := h01.resolve_right fun q => by have := hsec q.1; cases this
    obtain ⟨g2, rfl, i0⟩ := HNB.out 0 zt h0
    have hm0 := hlt 0 _ h0
    have j0 : (0 : Int) < (m : Int) := by omega
    have HRN : Hid (rndL (giveC c) = toldR zt c E) := by show _ = _; rw [hl', if_neg (by simp)]
    clear h01 hsec hcond h0 hlt hl' hm0
    go_upto_region 14 with (go_at_call 63; (with_reducible refine P2.out.mono ?_); rintro e9 w5 ⟨Av, nv, cv, Ar, nr, cr, rfl, hs, hb5⟩)
    have hd5 := HMK.out _ _ (by simp) _ _ _ _ _ _ hs
    have hR5 := HR1.out.below hb5 HR1.out.lt
    have hX5 := HX1.out.below hb5 HX1.out.lt
    have hlr := hR5.lt
    have hb5' := HB1.out.trans (hb5.mono HB1.out.size)
    have hal : Below w5.heap.size w5 (w5.alloc (.cells #[.bool true, .int .i64 x, .int .i64 b2, .int .i64 b3, .slice Av nv cv, .slice Ar nr cr] 93)) := (Below.refl _ _).alloc (Nat.le_refl _) _
    have hv6 := hd5.1.below hal
    have hr6 := hd5.2.below hal
    have hR6 := hR5.below hal hlr
    have hX6 := hX5.below hal hX5.lt
    have hb6 := hb5'.trans (hal.mono hb5'.size)
    have hY6 := Blk.new w5 93 #[.bool true, .int .i64 x, .int .i64 b2, .int .i64 b3, .slice Av nv cv, .slice Ar nr cr]
    have hszw := hb5'.size
    clear hd5 hR5 hX5 hb5' hal hs hb5
    generalize w5.alloc (.cells #[.bool true, .int .i64 x, .int .i64 b2, .int .i64 b3, .slice Av nv cv, .slice Ar nr cr] 93) = W6 at *
    have hap : ∀ g, Apart D W w5 g → Since D W g ∧ g ≠ W.heap.size + 1 ∧ g < w5.heap.size := fun g q => q
    generalize Apart D W w5 = D5 at *
    generalize w5.heap.size = yb at *
    have y2 := hY6.cell 2; have y3 := hY6.cell 3; have yf2 := hY6.free 2; have yf3 := hY6.free 3
    simp only [List.getElem?_toArray, List.getElem?_cons_zero, List.getElem?_cons_succ] at y2 y3
    have HV6 := Lib.hid hv6; have HR6' := Lib.hid hr6; have HAP := Lib.hid hap; have HR6 := Lib.hid hR6; have HX6 := Lib.hid hX6; have HB6 := Lib.hid hb6; have HY6 := Lib.hid hY6; have HLR := Lib.hid hlr; have HSW := Lib.hid hszw
    clear hap hv6 hr6 hR6 hX6 hb6 hY6 hlr hszw
    go_upto_region 25 with fail
    have hY : Blk ((W6.setCell ⟨yb, 2, none⟩ (.int .i64 zt)).setCell ⟨yb, 3, none⟩ (.int .i64 0)) yb 93 #[.bool true, .int .i64 x, .int .i64 zt, .int .i64 0, .slice Av nv cv, .slice Ar nr cr] := (HY6.out.set_ 2 _).set_ 3 _
    have hR : Blk ((W6.setCell ⟨yb, 2, none⟩ (.int .i64 zt)).setCell ⟨yb, 3, none⟩ (.int .i64 0)) (W.heap.size + 1) 93 #[.bool false, .int .i64 0, .int .i64 0, .int .i64 0, .slice none 0 0, .slice none 0 0] := (HR6.out.far (p := ⟨yb, 2, none⟩) (show W.heap.size + 1 ≠ yb by have := HLR.out; omega) _).far (p := ⟨yb, 3, none⟩) (show W.heap.size + 1 ≠ yb by have := HLR.out; omega) _
    have hX : Blk ((W6.setCell ⟨yb, 2, none⟩ (.int .i64 zt)).setCell ⟨yb, 3, none⟩ (.int .i64 0)) W.heap.size 93 #[.bool true, .int .i64 t, .int .i64 b2, .int .i64 b3, .slice A1 n c1, .slice (some ⟨g2, 0, none⟩) m c2] := (HX6.out.far (p := ⟨yb, 2, none⟩) (show W.heap.size ≠ yb by have := HLR.out; omega) _).far (p := ⟨yb, 3, none⟩) (show W.heap.size ≠ yb by have := HLR.out; omega) _
    have hu7 : But (fun x => x = yb) W6 ((W6.setCell ⟨yb, 2, none⟩ (.int .i64 zt)).setCell ⟨yb, 3, none⟩ (.int .i64 0)) := ((But.refl (fun x => x = yb) W6).set ⟨yb, 2, none⟩ _ (.inl rfl)).set ⟨yb, 3, none⟩ _ (.inl rfl)
    have hb : Below W.heap.size W ((W6.setCell ⟨yb, 2, none⟩ (.int .i64 zt)).setCell ⟨yb, 3, none⟩ (.int .i64 0)) := (HB6.out.setCell (p := ⟨yb, 2, none⟩) HSW.out _).setCell (p := ⟨yb, 3, none⟩) HSW.out _
    generalize ((W6.setCell ⟨yb, 2, none⟩ (.int .i64 zt)).setCell ⟨yb, 3, none⟩ (.int .i64 0)) = W7 at *
    have hv7 := HV6.out.but hu7 (fun g hg e => by have := (HAP.out g hg).2.2; omega)
    have hr7 := HR6'.out.but hu7 (fun g hg e => by have := (HAP.out g hg).2.2; omega)
    clear hu7 y2 y3 yf2 yf3
    have hfin : ∀ g, D5 g → Since D W g ∧ g ≠ W.heap.size + 1 := fun g q => ⟨(HAP.out g q).1, (HAP.out g q).2.1⟩
    have hdl : DLk D5 (giveC c) (dropW zt E) (.slice Av nv cv) (.slice Ar nr cr) W7 := ⟨hv7, by rw [HRN.out]; exact hr7⟩
    clear hv7 hr7 hX
    have q0 := hY.cell 0; have q1 := hY.cell 1; have q2 := hY.cell 2; have q3 := hY.cell 3; have q4 := hY.cell 4; have q5 := hY.cell 5
    simp only [List.getElem?_toArray, List.getElem?_cons_zero, List.getElem?_cons_succ] at q0 q1 q2 q3 q4 q5
    have r0 := hR.free 0; have r1 := hR.free 1; have r2 := hR.free 2; have r3 := hR.free 3; have r4 := hR.free 4; have r5 := hR.free 5
    have z0 := hR.cell 0; have z1 := hR.cell 1; have z2 := hR.cell 2; have z3 := hR.cell 3; have z4 := hR.cell 4; have z5 := hR.cell 5
    simp only [List.getElem?_toArray, List.getElem?_cons_zero, List.getElem?_cons_succ] at z0 z1 z2 z3 z4 z5
    have hne : ¬ W.heap.size + 1 = yb := by have := HLR.out; omega
    have hne2 : ¬ yb = W.heap.size + 1 := by have := HLR.out; omega
    obtain ⟨WS, hWS⟩ : ∃ WS, WS = ((((((W7.setCell ⟨W.heap.size + 1, 0, none⟩ (.bool true)).setCell ⟨W.heap.size + 1, 1, none⟩ (.int .i64 x)).setCell ⟨W.heap.size + 1, 2, none⟩ (.int .i64 zt)).setCell ⟨W.heap.size + 1, 3, none⟩ (.int .i64 0)).setCell ⟨W.heap.size + 1, 4, none⟩ (.slice Av nv cv)).setCell ⟨W.heap.size + 1, 5, none⟩ (.slice Ar nr cr)) := ⟨_, rfl⟩
    have hst : Blk WS (W.heap.size + 1) 93 #[.bool true, .int .i64 x, .int .i64 zt, .int .i64 0, .slice Av nv cv, .slice Ar nr cr] := by rw [hWS]; exact stored6 hR _ _ _ _ _ _
    have hb10 : Below W.heap.size W WS := by rw [hWS]; exact below6 hb (Nat.le_succ _) _ _ _ _ _ _
    have hu10 : But (fun x => x = W.heap.size + 1) W7 WS := by rw [hWS]; exact but6 (X := fun x => x = W.heap.size + 1) (But.refl _ W7) rfl _ _ _ _ _ _
    have hn10 : But Nob WS WS.drew := (But.refl Nob WS).drew
    have x1 : ((((((((W7.setCell ⟨W.heap.size + 1, 0, none⟩ (.bool true)).setCell ⟨W.heap.size + 1, 1, none⟩ (.int .i64 x)).setCell ⟨W.heap.size + 1, 2, none⟩ (.int .i64 zt)).setCell ⟨W.heap.size + 1, 3, none⟩ (.int .i64 0)).setCell ⟨W.heap.size + 1, 4, none⟩ (.slice Av nv cv)).setCell ⟨W.heap.size + 1, 5, none⟩ (.slice Ar nr cr))).drew).cell? ⟨yb, 1, none⟩ = some (.int .i64 x) := by
      rw [← hWS]
      exact (hn10.cell0 (j := 1) (Nat.lt_of_lt_of_le hY.lt hu10.size) id).trans ((hu10.cell0 (j := 1) hY.lt hne2).trans q1)
    have hd10 : DLk (Since D W) (giveC c) (dropW zt E) (.slice Av nv cv) (.slice Ar nr cr) WS.drew := ((hdl.but hu10 (fun g hg e => (hfin g hg).2 e)).mono (D' := Since D W) fun g _ q => (hfin g q).1).but hn10 fun _ _ q => q
    have HF9 := Lib.hid (HF.out _ _ WS.drew hd10 (hb10.trans (hn10.below (B := W.heap.size) hb10.size fun _ _ q => q.elim)))
    have HST := Lib.hid (hst.but hn10 id)
    have HWS := Lib.hid hWS
    clear hY hR hb hst hb10 hu10 hn10 hd10 hWS hdl hfin
    go_region
    rw [← HWS.out]
    go_wp2_with fail
    refine bodyPost_ret (results_lock4 rfl _ _ (W.heap.size + 1) _ rfl HST.out rfl) rfl ?_
    exact HF9.out
  | true =>
    obtain ⟨hc3, hcm⟩ := hcond rfl
    have tm : ((m : Int) == 1) = false := by simp; omega
    have HRN : Hid (rndL (giveC c) = ((toldR zt c E).filter fun y => y != b2) ++ [b2]) := by show _ = _; rw [hl', if_pos rfl]
    clear hcond hcm hsec hl'
    rcases h01 with h0 | ⟨h0, h1⟩
    · obtain ⟨g2, rfl, i0⟩ := HNB.out 0 zt h0
      have hm0 := hlt 0 _ h0
      have j0 : (0 : Int) < (m : Int) := by omega
      clear h0 hlt hm0
      go_upto_region 14 with (go_at_call 63; (with_reducible refine P2.out.mono ?_); rintro e9 w5 ⟨Av, nv, cv, Ar, nr, cr, rfl, hs, hb5⟩)
      have hd5 := HMK.out _ _ (by simp) _ _ _ _ _ _ hs
      have hR5 := HR1.out.below hb5 HR1.out.lt
      have hX5 := HX1.out.below hb5 HX1.out.lt
      have hlr := hR5.lt
      have hb5' := HB1.out.trans (hb5.mono HB1.out.size)
      have hal : Below w5.heap.size w5 (w5.alloc (.cells #[.bool true, .int .i64 x, .int .i64 b2, .int .i64 b3, .slice Av nv cv, .slice Ar nr cr] 93)) := (Below.refl _ _).alloc (Nat.le_refl _) _
      have hv6 := hd5.1.below hal
      have hr6 := hd5.2.below hal
      have hR6 := hR5.below hal hlr
      have hX6 := hX5.below hal hX5.lt
      have hb6 := hb5'.trans (hal.mono hb5'.size)
      have hY6 := Blk.new w5 93 #[.bool true, .int .i64 x, .int .i64 b2, .int .i64 b3, .slice Av nv cv, .slice Ar nr cr]
      have hszw := hb5'.size
      clear hd5 hR5 hX5 hb5' hal hs hb5
      generalize w5.alloc (.cells #[.bool true, .int .i64 x, .int .i64 b2, .int .i64 b3, .slice Av nv cv, .slice Ar nr cr] 93) = W6 at *
      have hap : ∀ g, Apart D W w5 g → Since D W g ∧ g ≠ W.heap.size + 1 ∧ g < w5.heap.size := fun g q => q
      generalize Apart D W w5 = D5 at *
      generalize w5.heap.size = yb at *
      have y2 := hY6.cell 2; have y3 := hY6.cell 3; have yf2 := hY6.free 2; have yf3 := hY6.free 3
      simp only [List.getElem?_toArray, List.getElem?_cons_zero, List.getElem?_cons_succ] at y2 y3
      have HV6 := Lib.hid hv6; have HR6' := Lib.hid hr6; have HAP := Lib.hid hap; have HR6 := Lib.hid hR6; have HX6 := Lib.hid hX6; have HB6 := Lib.hid hb6; have HY6 := Lib.hid hY6; have HLR := Lib.hid hlr; have HSW := Lib.hid hszw
      clear hap hv6 hr6 hR6 hX6 hb6 hY6 hlr hszw
      go_upto_region 17 with fail
      have hY : Blk ((W6.setCell ⟨yb, 2, none⟩ (.int .i64 zt)).setCell ⟨yb, 3, none⟩ (.int .i64 0)) yb 93 #[.bool true, .int .i64 x, .int .i64 zt, .int .i64 0, .slice Av nv cv, .slice Ar nr cr] := (HY6.out.set_ 2 _).set_ 3 _
      have hR : Blk ((W6.setCell ⟨yb, 2, none⟩ (.int .i64 zt)).setCell ⟨yb, 3, none⟩ (.int .i64 0)) (W.heap.size + 1) 93 #[.bool false, .int .i64 0, .int .i64 0, .int .i64 0, .slice none 0 0, .slice none 0 0] := (HR6.out.far (p := ⟨yb, 2, none⟩) (show W.heap.size + 1 ≠ yb by have := HLR.out; omega) _).far (p := ⟨yb, 3, none⟩) (show W.heap.size + 1 ≠ yb by have := HLR.out; omega) _
      have hX : Blk ((W6.setCell ⟨yb, 2, none⟩ (.int .i64 zt)).setCell ⟨yb, 3, none⟩ (.int .i64 0)) W.heap.size 93 #[.bool true, .int .i64 t, .int .i64 b2, .int .i64 b3, .slice A1 n c1, .slice (some ⟨g2, 0, none⟩) m c2] := (HX6.out.far (p := ⟨yb, 2, none⟩) (show W.heap.size ≠ yb by have := HLR.out; omega) _).far (p := ⟨yb, 3, none⟩) (show W.heap.size ≠ yb by have := HLR.out; omega) _
      have hu7 : But (fun x => x = yb) W6 ((W6.setCell ⟨yb, 2, none⟩ (.int .i64 zt)).setCell ⟨yb, 3, none⟩ (.int .i64 0)) := ((But.refl (fun x => x = yb) W6).set ⟨yb, 2, none⟩ _ (.inl rfl)).set ⟨yb, 3, none⟩ _ (.inl rfl)
      have hb : Below W.heap.size W ((W6.setCell ⟨yb, 2, none⟩ (.int .i64 zt)).setCell ⟨yb, 3, none⟩ (.int .i64 0)) := (HB6.out.setCell (p := ⟨yb, 2, none⟩) HSW.out _).setCell (p := ⟨yb, 3, none⟩) HSW.out _
      generalize ((W6.setCell ⟨yb, 2, none⟩ (.int .i64 zt)).setCell ⟨yb, 3, none⟩ (.int .i64 0)) = W7 at *
      have hv7 := HV6.out.but hu7 (fun g hg e => by have := (HAP.out g hg).2.2; omega)
      have hr7 := HR6'.out.but hu7 (fun g hg e => by have := (HAP.out g hg).2.2; omega)
      clear hu7 y2 y3 yf2 yf3
      have y5 := hY.cell 5
      simp only [List.getElem?_toArray, List.getElem?_cons_zero, List.getElem?_cons_succ] at y5
      obtain ⟨Ar', cr', hre, -, -, hnum⟩ := hr7.num
      obtain ⟨l2, hl2⟩ : ∃ l, (toldR zt c E).length = l := ⟨_, rfl⟩
      rw [hl2] at hre
      simp only [Value.slice.injEq] at hre
      obtain ⟨rfl, rfl, rfl⟩ := hre
      have hl9 : nr ≤ 900 := by rw [← hl2]; exact Nat.le_trans (toldR_len _ _ _) HRL.out
      have hcr : nr ≤ cr := by
        obtain ⟨A', cap', e1, e2, _⟩ := hr7
        rw [hl2] at e1 e2
        simp only [Value.slice.injEq] at e1
        obtain ⟨_, _, rfl⟩ := e1
        exact e2
      have HL2 := Lib.hid hl2; have HNUM := Lib.hid hnum; have HV7 := Lib.hid hv7; have HY7 := Lib.hid hY; have HR7 := Lib.hid hR; have HX7 := Lib.hid hX; have HB7 := Lib.hid hb
      clear hl2 hnum hv7 hr7 hY hR hX hb
      go_wp2_with fail
      clear y5
      go_loopw [12, 80] (fun rv iv wr => ∃ (k2 : Nat) (r : Value), r = rv ∧ iv = .int .i64 k2 ∧ k2 ≤ nr ∧ MineN W7.heap.size r (((toldR zt c E).take k2).filter fun y => y != b2) wr ∧ Below W7.heap.size W7 wr) (fun _ iv _ => nr - (intOf iv).toNat)
      case atStart => exact ⟨0, _, rfl, rfl, Nat.zero_le _, mineN_nil _ _, Below.refl _ _⟩
      case round =>
        obtain ⟨k2, r, rfl, rfl, hk2, hn, hu⟩ := hrel
        have HU := Lib.hid hu; have HNM := Lib.hid hn
        have s2 := (HX7.out.below hu HX7.out.lt).cell 2
        simp only [List.getElem?_toArray, List.getElem?_cons_zero, List.getElem?_cons_succ] at s2
        have HLN : Hid ((((toldR zt c E).take k2).filter fun y => y != b2).length ≤ 900) := by
          show _ ≤ _
          have h1 := List.length_filter_le (fun y => y != b2) ((toldR zt c E).take k2)
          rw [List.length_take, HL2.out] at h1; omega
        clear hn
        by_cases hlt2 : k2 < nr
        · obtain ⟨y, hy⟩ : ∃ y, (toldR zt c E)[k2]? = some y := ⟨_, List.getElem?_eq_getElem (by rw [HL2.out]; exact hlt2)⟩
          obtain ⟨g, rfl, l0, f0⟩ := HNUM.out k2 y hy
          have g0 := (hu.cell (p := ⟨g, k2, none⟩) l0).trans f0
          have HLT2 := Lib.hid hlt2
          have k0 : (0 : Int) ≤ (k2 : Int) := by omega
          have k1 : (k2 : Int) < (nr : Int) := by omega
          have k3 : (k2 : Int) < (cr : Int) := by omega
          have hfl : (((toldR zt c E).take (k2 + 1)).filter fun y => y != b2) = (((toldR zt c E).take k2).filter fun y => y != b2) ++ (if y != b2 then [y] else []) := by
            rw [List.take_add_one, hy, List.filter_append]
            cases hq : (y != b2) <;> simp [hq]
          clear l0 f0 hy hu hlt2
          by_cases q : y = b2
          · have tq : (y != b2) = false := by simpa using q
            rw [tq, if_neg (by simp), List.append_nil] at hfl
            have HFL := Lib.hid hfl
            clear q hfl
            go_wp2_with fail
            go_roundw
            case rel => exact ⟨k2 + 1, _, rfl, by go_num, by have := HLT2.out; omega, by rw [HFL.out]; exact HNM.out, HU.out⟩
            case measure => have := HLT2.out; simp [intOf]; omega
          · have tq : (y != b2) = true := by simpa using q
            rw [tq, if_pos rfl] at hfl
            have HFL := Lib.hid hfl
            have hb7 : Below wr.heap.size wr (wr.alloc (.cells #[.int .i64 y] 3)) := (Below.refl _ _).alloc (Nat.le_refl _) _
            have HO12 := Lib.hid (MineN.on HNM.out hb7)
            have HC12 := Lib.hid (HU.out.trans (hb7.mono HU.out.size))
            have hbs := (Blk.new wr 3 #[.int .i64 y]).cell 0
            simp only [List.getElem?_toArray, List.getElem?_cons_zero] at hbs
            have HBS := Lib.hid hbs
            clear hb7 hbs q hfl HU HNM
            go_wp2_with (at_builtin; refine haltC ?_)
            refine Lib.hid ?_
            refine app_num rfl (.tmp 88) (.tmp 90) rfl W7.heap.size r (((toldR zt c E).take k2).filter fun y => y != b2) rfl HO12.out _ y rfl HBS.out (by have := HLN.out; omega) HC12.out.size ?_
            intro v13 w13 own13 gr13 bk13
            have hc13 : Below W7.heap.size W7 w13 := HC12.out.trans ((Below.refl _ _).grown gr13 HC12.out.size fun k hk => (World.ownsRow.lt HO12.out k hk).1)
            have own13' : MineN W7.heap.size v13 (((toldR zt c E).take (k2 + 1)).filter fun y => y != b2) w13 := by rw [HFL.out]; exact own13
            have HN14 := Lib.hid own13'; have HU14 := Lib.hid hc13
            clear own13 own13' gr13 bk13 hc13 HO12 HC12 HBS
            go_wp2_with fail
            go_roundw
            case rel => exact ⟨k2 + 1, _, rfl, by go_num, by have := HLT2.out; omega, HN14.out, HU14.out⟩
            case measure => have := HLT2.out; simp [intOf]; omega
        · have hkm : k2 = nr := by omega
          have tk2 : ¬ (k2 : Int) < (nr : Int) := by omega
          have hte : (toldR zt c E).take k2 = toldR zt c E := List.take_of_length_le (by rw [HL2.out]; omega)
          have hn9 := HNM.out
          have hln := HLN.out
          rw [hte] at hn9 hln
          have hb7 : Below wr.heap.size wr (wr.alloc (.cells #[.int .i64 b2] 3)) := (Below.refl _ _).alloc (Nat.le_refl _) _
          have HO12 := Lib.hid (MineN.on hn9 hb7)
          have HC12 := Lib.hid (hu.trans (hb7.mono hu.size))
          have hbs := (Blk.new wr 3 #[.int .i64 b2]).cell 0
          simp only [List.getElem?_toArray, List.getElem?_cons_zero] at hbs
          have HBS := Lib.hid hbs
          have HLN2 := Lib.hid hln
          clear hb7 hbs hkm hte hn9 hln HNM hu HLN
          go_wp2_with (at_builtin; refine haltC ?_)
          refine Lib.hid ?_
          refine app_num rfl (.tmp 93) (.tmp 96) rfl W7.heap.size r ((toldR zt c E).filter fun y => y != b2) rfl HO12.out _ b2 rfl HBS.out (by have := HLN2.out; omega) HC12.out.size ?_
          intro v13 w13 own13 gr13 bk13
          have hc13 : Below W7.heap.size W7 w13 := HC12.out.trans ((Below.refl _ _).grown gr13 HC12.out.size fun k hk => (World.ownsRow.lt HO12.out k hk).1)
          obtain ⟨g13, cap13, hv13, hg13⟩ := MineN.form own13 (by simp)
          generalize (((toldR zt c E).filter fun y => y != b2) ++ [b2]).length = ln at hv13
          subst hv13
          have hY13 := HY7.out.below hc13 HY7.out.lt
          have hR13 := HR7.out.below hc13 HR7.out.lt
          have y6 := hY13.cell 5; have yf := hY13.free 5
          simp only [List.getElem?_toArray, List.getElem?_cons_zero, List.getElem?_cons_succ] at y6
          have HY13 := Lib.hid hY13; have HR13 := Lib.hid hR13; have HO13 := Lib.hid own13; have HC13 := Lib.hid hc13; have HG13 := Lib.hid hg13
          clear own13 gr13 bk13 hc13 hY13 hR13 hg13 HO12 HC12 HBS
          go_upto_region 25 with fail
          have hY : Blk (w13.setCell ⟨yb, 5, none⟩ (.slice (some ⟨g13, 0, none⟩) ln cap13)) yb 93 #[.bool true, .int .i64 x, .int .i64 zt, .int .i64 0, .slice Av nv cv, .slice (some ⟨g13, 0, none⟩) ln cap13] := HY13.out.set_ 5 _
          have hR : Blk (w13.setCell ⟨yb, 5, none⟩ (.slice (some ⟨g13, 0, none⟩) ln cap13)) (W.heap.size + 1) 93 #[.bool false, .int .i64 0, .int .i64 0, .int .i64 0, .slice none 0 0, .slice none 0 0] := HR13.out.far (p := ⟨yb, 5, none⟩) (show W.heap.size + 1 ≠ yb by have := HLR.out; omega) _
          have hu13 := (But.refl (fun x => x = yb) w13).set ⟨yb, 5, none⟩ (.slice (some ⟨g13, 0, none⟩) ln cap13) (.inl rfl)
          have hN14 : MineN W7.heap.size (.slice (some ⟨g13, 0, none⟩) ln cap13) (((toldR zt c E).filter fun y => y != b2) ++ [b2]) (w13.setCell ⟨yb, 5, none⟩ (.slice (some ⟨g13, 0, none⟩) ln cap13)) := World.ownsRow.kept HO13.out (row := some yb) ⟨rfl, rfl, rfl, by simp, fun k hk hne => Below.heap_setCell w13 ⟨yb, 5, none⟩ _ k (fun e => hne (by rw [e]))⟩ (.inr (by intro e; have e' : some g13 = some yb := e; cases e'; have := HY7.out.lt; have := HG13.out; omega))
          have hb : Below W.heap.size W (w13.setCell ⟨yb, 5, none⟩ (.slice (some ⟨g13, 0, none⟩) ln cap13)) := (HB7.out.trans (HC13.out.mono HB7.out.size)).setCell (p := ⟨yb, 5, none⟩) HSW.out _
          have hv14 := (HV7.out.below HC13.out).but hu13 (fun g hg e => by have := (HAP.out g hg).2.2; omega)
          generalize w13.setCell ⟨yb, 5, none⟩ (.slice (some ⟨g13, 0, none⟩) ln cap13) = W14 at *
          obtain ⟨D9, hD9⟩ : ∃ D9 : Nat → Prop, D9 = fun g => D5 g ∨ W7.heap.size ≤ g := ⟨_, rfl⟩
          have hfin : ∀ g, D9 g → Since D W g ∧ g ≠ W.heap.size + 1 := fun g q => by
            rw [hD9] at q
            rcases q with q | q
            · exact ⟨(HAP.out g q).1, (HAP.out g q).2.1⟩
            · have := HY7.out.lt; have := HLR.out; have := HB7.out.size
              exact ⟨.inr (by omega), by omega⟩
          have hdl : DLk D9 (giveC c) (dropW zt E) (.slice Av nv cv) (.slice (some ⟨g13, 0, none⟩) ln cap13) W14 := ⟨hv14.mono (fun g _ q => by rw [hD9]; exact .inl q), by rw [HRN.out]; exact (SIn.of_owns hN14).mono (fun g _ q => by rw [hD9]; exact .inr q)⟩
          clear hv14 hN14 hu13 y6 yf
          have q0 := hY.cell 0; have q1 := hY.cell 1; have q2 := hY.cell 2; have q3 := hY.cell 3; have q4 := hY.cell 4; have q5 := hY.cell 5
          simp only [List.getElem?_toArray, List.getElem?_cons_zero, List.getElem?_cons_succ] at q0 q1 q2 q3 q4 q5
          have r0 := hR.free 0; have r1 := hR.free 1; have r2 := hR.free 2; have r3 := hR.free 3; have r4 := hR.free 4; have r5 := hR.free 5
          have z0 := hR.cell 0; have z1 := hR.cell 1; have z2 := hR.cell 2; have z3 := hR.cell 3; have z4 := hR.cell 4; have z5 := hR.cell 5
          simp only [List.getElem?_toArray, List.getElem?_cons_zero, List.getElem?_cons_succ] at z0 z1 z2 z3 z4 z5
          have hne : ¬ W.heap.size + 1 = yb := by have := HLR.out; omega
          have hne2 : ¬ yb = W.heap.size + 1 := by have := HLR.out; omega
          obtain ⟨WS, hWS⟩ : ∃ WS, WS = ((((((W14.setCell ⟨W.heap.size + 1, 0, none⟩ (.bool true)).setCell ⟨W.heap.size + 1, 1, none⟩ (.int .i64 x)).setCell ⟨W.heap.size + 1, 2, none⟩ (.int .i64 zt)).setCell ⟨W.heap.size + 1, 3, none⟩ (.int .i64 0)).setCell ⟨W.heap.size + 1, 4, none⟩ (.slice Av nv cv)).setCell ⟨W.heap.size + 1, 5, none⟩ (.slice (some ⟨g13, 0, none⟩) ln cap13)) := ⟨_, rfl⟩
          have hst : Blk WS (W.heap.size + 1) 93 #[.bool true, .int .i64 x, .int .i64 zt, .int .i64 0, .slice Av nv cv, .slice (some ⟨g13, 0, none⟩) ln cap13] := by rw [hWS]; exact stored6 hR _ _ _ _ _ _
          have hb10 : Below W.heap.size W WS := by rw [hWS]; exact below6 hb (Nat.le_succ _) _ _ _ _ _ _
          have hu10 : But (fun x => x = W.heap.size + 1) W14 WS := by rw [hWS]; exact but6 (X := fun x => x = W.heap.size + 1) (But.refl _ W14) rfl _ _ _ _ _ _
          have hn10 : But Nob WS WS.drew := (But.refl Nob WS).drew
          have x1 : ((((((((W14.setCell ⟨W.heap.size + 1, 0, none⟩ (.bool true)).setCell ⟨W.heap.size + 1, 1, none⟩ (.int .i64 x)).setCell ⟨W.heap.size + 1, 2, none⟩ (.int .i64 zt)).setCell ⟨W.heap.size + 1, 3, none⟩ (.int .i64 0)).setCell ⟨W.heap.size + 1, 4, none⟩ (.slice Av nv cv)).setCell ⟨W.heap.size + 1, 5, none⟩ (.slice (some ⟨g13, 0, none⟩) ln cap13))).drew).cell? ⟨yb, 1, none⟩ = some (.int .i64 x) := by
            rw [← hWS]
            exact (hn10.cell0 (j := 1) (Nat.lt_of_lt_of_le hY.lt hu10.size) id).trans ((hu10.cell0 (j := 1) hY.lt hne2).trans q1)
          have hd10 : DLk (Since D W) (giveC c) (dropW zt E) (.slice Av nv cv) (.slice (some ⟨g13, 0, none⟩) ln cap13) WS.drew := ((hdl.but hu10 (fun g hg e => (hfin g hg).2 e)).mono (D' := Since D W) fun g _ q => (hfin g q).1).but hn10 fun _ _ q => q
          have HF9 := Lib.hid (HF.out _ _ WS.drew hd10 (hb10.trans (hn10.below (B := W.heap.size) hb10.size fun _ _ q => q.elim)))
          have HST := Lib.hid (hst.but hn10 id)
          have HWS := Lib.hid hWS
          clear hY hR hb hst hb10 hu10 hn10 hd10 hWS hdl hfin
          go_region
          rw [← HWS.out]
          go_wp2_with fail
          refine bodyPost_ret (results_lock4 rfl _ _ (W.heap.size + 1) _ rfl HST.out rfl) rfl ?_
          exact HF9.out
    · obtain ⟨g2, rfl, i0⟩ := HNB.out 0 b2 h0
      obtain ⟨g3, e3, i1⟩ := HNB.out 1 zt h1
      cases e3
      have hm0 := hlt 1 _ h1
      have j0 : (0 : Int) < (m : Int) := by omega
      have j1 : (1 : Int) < (m : Int) := by omega
      have tb : (b2 == b2) = true := by simp
      clear h0 h1 hlt hm0
      go_upto_region 14 with (go_at_call 63; (with_reducible refine P2.out.mono ?_); rintro e9 w5 ⟨Av, nv, cv, Ar, nr, cr, rfl, hs, hb5⟩)
      have hd5 := HMK.out _ _ (by simp) _ _ _ _ _ _ hs
      have hR5 := HR1.out.below hb5 HR1.out.lt
      have hX5 := HX1.out.below hb5 HX1.out.lt
      have hlr := hR5.lt
      have hb5' := HB1.out.trans (hb5.mono HB1.out.size)
      have hal : Below w5.heap.size w5 (w5.alloc (.cells #[.bool true, .int .i64 x, .int .i64 b2, .int .i64 b3, .slice Av nv cv, .slice Ar nr cr] 93)) := (Below.refl _ _).alloc (Nat.le_refl _) _
      have hv6 := hd5.1.below hal
      have hr6 := hd5.2.below hal
      have hR6 := hR5.below hal hlr
      have hX6 := hX5.below hal hX5.lt
      have hb6 := hb5'.trans (hal.mono hb5'.size)
      have hY6 := Blk.new w5 93 #[.bool true, .int .i64 x, .int .i64 b2, .int .i64 b3, .slice Av nv cv, .slice Ar nr cr]
      have hszw := hb5'.size
      clear hd5 hR5 hX5 hb5' hal hs hb5
      generalize w5.alloc (.cells #[.bool true, .int .i64 x, .int .i64 b2, .int .i64 b3, .slice Av nv cv, .slice Ar nr cr] 93) = W6 at *
      have hap : ∀ g, Apart D W w5 g → Since D W g ∧ g ≠ W.heap.size + 1 ∧ g < w5.heap.size := fun g q => q
      generalize Apart D W w5 = D5 at *
      generalize w5.heap.size = yb at *
      have y2 := hY6.cell 2; have y3 := hY6.cell 3; have yf2 := hY6.free 2; have yf3 := hY6.free 3
      simp only [List.getElem?_toArray, List.getElem?_cons_zero, List.getElem?_cons_succ] at y2 y3
      have HV6 := Lib.hid hv6; have HR6' := Lib.hid hr6; have HAP := Lib.hid hap; have HR6 := Lib.hid hR6; have HX6 := Lib.hid hX6; have HB6 := Lib.hid hb6; have HY6 := Lib.hid hY6; have HLR := Lib.hid hlr; have HSW := Lib.hid hszw
      clear hap hv6 hr6 hR6 hX6 hb6 hY6 hlr hszw
      go_upto_region 17 with fail
      have hY : Blk ((W6.setCell ⟨yb, 2, none⟩ (.int .i64 zt)).setCell ⟨yb, 3, none⟩ (.int .i64 0)) yb 93 #[.bool true, .int .i64 x, .int .i64 zt, .int .i64 0, .slice Av nv cv, .slice Ar nr cr] := (HY6.out.set_ 2 _).set_ 3 _
      have hR : Blk ((W6.setCell ⟨yb, 2, none⟩ (.int .i64 zt)).setCell ⟨yb, 3, none⟩ (.int .i64 0)) (W.heap.size + 1) 93 #[.bool false, .int .i64 0, .int .i64 0, .int .i64 0, .slice none 0 0, .slice none 0 0] := (HR6.out.far (p := ⟨yb, 2, none⟩) (show W.heap.size + 1 ≠ yb by have := HLR.out; omega) _).far (p := ⟨yb, 3, none⟩) (show W.heap.size + 1 ≠ yb by have := HLR.out; omega) _
      have hX : Blk ((W6.setCell ⟨yb, 2, none⟩ (.int .i64 zt)).setCell ⟨yb, 3, none⟩ (.int .i64 0)) W.heap.size 93 #[.bool true, .int .i64 t, .int .i64 b2, .int .i64 b3, .slice A1 n c1, .slice (some ⟨g2, 0, none⟩) m c2] := (HX6.out.far (p := ⟨yb, 2, none⟩) (show W.heap.size ≠ yb by have := HLR.out; omega) _).far (p := ⟨yb, 3, none⟩) (show W.heap.size ≠ yb by have := HLR.out; omega) _
      have hu7 : But (fun x => x = yb) W6 ((W6.setCell ⟨yb, 2, none⟩ (.int .i64 zt)).setCell ⟨yb, 3, none⟩ (.int .i64 0)) := ((But.refl (fun x => x = yb) W6).set ⟨yb, 2, none⟩ _ (.inl rfl)).set ⟨yb, 3, none⟩ _ (.inl rfl)
      have hb : Below W.heap.size W ((W6.setCell ⟨yb, 2, none⟩ (.int .i64 zt)).setCell ⟨yb, 3, none⟩ (.int .i64 0)) := (HB6.out.setCell (p := ⟨yb, 2, none⟩) HSW.out _).setCell (p := ⟨yb, 3, none⟩) HSW.out _
      generalize ((W6.setCell ⟨yb, 2, none⟩ (.int .i64 zt)).setCell ⟨yb, 3, none⟩ (.int .i64 0)) = W7 at *
      have hv7 := HV6.out.but hu7 (fun g hg e => by have := (HAP.out g hg).2.2; omega)
      have hr7 := HR6'.out.but hu7 (fun g hg e => by have := (HAP.out g hg).2.2; omega)
      clear hu7 y2 y3 yf2 yf3
      have y5 := hY.cell 5
      simp only [List.getElem?_toArray, List.getElem?_cons_zero, List.getElem?_cons_succ] at y5
      obtain ⟨Ar', cr', hre, -, -, hnum⟩ := hr7.num
      obtain ⟨l2, hl2⟩ : ∃ l, (toldR zt c E).length = l := ⟨_, rfl⟩
      rw [hl2] at hre
      simp only [Value.slice.injEq] at hre
      obtain ⟨rfl, rfl, rfl⟩ := hre
      have hl9 : nr ≤ 900 := by rw [← hl2]; exact Nat.le_trans (toldR_len _ _ _) HRL.out
      have hcr : nr ≤ cr := by
        obtain ⟨A', cap', e1, e2, _⟩ := hr7
        rw [hl2] at e1 e2
        simp only [Value.slice.injEq] at e1
        obtain ⟨_, _, rfl⟩ := e1
        exact e2
      have HL2 := Lib.hid hl2; have HNUM := Lib.hid hnum; have HV7 := Lib.hid hv7; have HY7 := Lib.hid hY; have HR7 := Lib.hid hR; have HX7 := Lib.hid hX; have HB7 := Lib.hid hb
      clear hl2 hnum hv7 hr7 hY hR hX hb
      go_wp2_with fail
      clear y5
      go_loopw [12, 80] (fun rv iv wr => ∃ (k2 : Nat) (r : Value), r = rv ∧ iv = .int .i64 k2 ∧ k2 ≤ nr ∧ MineN W7.heap.size r (((toldR zt c E).take k2).filter fun y => y != b2) wr ∧ Below W7.heap.size W7 wr) (fun _ iv _ => nr - (intOf iv).toNat)
      case atStart => exact ⟨0, _, rfl, rfl, Nat.zero_le _, mineN_nil _ _, Below.refl _ _⟩
      case round =>
        obtain ⟨k2, r, rfl, rfl, hk2, hn, hu⟩ := hrel
        have HU := Lib.hid hu; have HNM := Lib.hid hn
        have s2 := (HX7.out.below hu HX7.out.lt).cell 2
        simp only [List.getElem?_toArray, List.getElem?_cons_zero, List.getElem?_cons_succ] at s2
        have HLN : Hid ((((toldR zt c E).take k2).filter fun y => y != b2).length ≤ 900) := by
          show _ ≤ _
          have h1 := List.length_filter_le (fun y => y != b2) ((toldR zt c E).take k2)
          rw [List.length_take, HL2.out] at h1; omega
        clear hn
        by_cases hlt2 : k2 < nr
        · obtain ⟨y, hy⟩ : ∃ y, (toldR zt c E)[k2]? = some y := ⟨_, List.getElem?_eq_getElem (by rw [HL2.out]; exact hlt2)⟩
          obtain ⟨g, rfl, l0, f0⟩ := HNUM.out k2 y hy
          have g0 := (hu.cell (p := ⟨g, k2, none⟩) l0).trans f0
          have HLT2 := Lib.hid hlt2
          have k0 : (0 : Int) ≤ (k2 : Int) := by omega
          have k1 : (k2 : Int) < (nr : Int) := by omega
          have k3 : (k2 : Int) < (cr : Int) := by omega
          have hfl : (((toldR zt c E).take (k2 + 1)).filter fun y => y != b2) = (((toldR zt c E).take k2).filter fun y => y != b2) ++ (if y != b2 then [y] else []) := by
            rw [List.take_add_one, hy, List.filter_append]
            cases hq : (y != b2) <;> simp [hq]
          clear l0 f0 hy hu hlt2
          by_cases q : y = b2
          · have tq : (y != b2) = false := by simpa using q
            rw [tq, if_neg (by simp), List.append_nil] at hfl
            have HFL := Lib.hid hfl
            clear q hfl
            go_wp2_with fail
            go_roundw
            case rel => exact ⟨k2 + 1, _, rfl, by go_num, by have := HLT2.out; omega, by rw [HFL.out]; exact HNM.out, HU.out⟩
            case measure => have := HLT2.out; simp [intOf]; omega
          · have tq : (y != b2) = true := by simpa using q
            rw [tq, if_pos rfl] at hfl
            have HFL := Lib.hid hfl
            have hb7 : Below wr.heap.size wr (wr.alloc (.cells #[.int .i64 y] 3)) := (Below.refl _ _).alloc (Nat.le_refl _) _
            have HO12 := Lib.hid (MineN.on HNM.out hb7)
            have HC12 := Lib.hid (HU.out.trans (hb7.mono HU.out.size))
            have hbs := (Blk.new wr 3 #[.int .i64 y]).cell 0
            simp only [List.getElem?_toArray, List.getElem?_cons_zero] at hbs
            have HBS := Lib.hid hbs
            clear hb7 hbs q hfl HU HNM
            go_wp2_with (at_builtin; refine haltC ?_)
            refine Lib.hid ?_
            refine app_num rfl (.tmp 88) (.tmp 90) rfl W7.heap.size r (((toldR zt c E).take k2).filter fun y => y != b2) rfl HO12.out _ y rfl HBS.out (by have := HLN.out; omega) HC12.out.size ?_
            intro v13 w13 own13 gr13 bk13
            have hc13 : Below W7.heap.size W7 w13 := HC12.out.trans ((Below.refl _ _).grown gr13 HC12.out.size fun k hk => (World.ownsRow.lt HO12.out k hk).1)
            have own13' : MineN W7.heap.size v13 (((toldR zt c E).take (k2 + 1)).filter fun y => y != b2) w13 := by rw [HFL.out]; exact own13
            have HN14 := Lib.hid own13'; have HU14 := Lib.hid hc13
            clear own13 own13' gr13 bk13 hc13 HO12 HC12 HBS
            go_wp2_with fail
            go_roundw
            case rel => exact ⟨k2 + 1, _, rfl, by go_num, by have := HLT2.out; omega, HN14.out, HU14.out⟩
            case measure => have := HLT2.out; simp [intOf]; omega
        · have hkm : k2 = nr := by omega
          have tk2 : ¬ (k2 : Int) < (nr : Int) := by omega
          have hte : (toldR zt c E).take k2 = toldR zt c E := List.take_of_length_le (by rw [HL2.out]; omega)
          have hn9 := HNM.out
          have hln := HLN.out
          rw [hte] at hn9 hln
          have hb7 : Below wr.heap.size wr (wr.alloc (.cells #[.int .i64 b2] 3)) := (Below.refl _ _).alloc (Nat.le_refl _) _
          have HO12 := Lib.hid (MineN.on hn9 hb7)
          have HC12 := Lib.hid (hu.trans (hb7.mono hu.size))
          have hbs := (Blk.new wr 3 #[.int .i64 b2]).cell 0
          simp only [List.getElem?_toArray, List.getElem?_cons_zero] at hbs
          have HBS := Lib.hid hbs
          have HLN2 := Lib.hid hln
          clear hb7 hbs hkm hte hn9 hln HNM hu HLN
          go_wp2_with (at_builtin; refine haltC ?_)
          refine Lib.hid ?_
          refine app_num rfl (.tmp 93) (.tmp 96) rfl W7.heap.size r ((toldR zt c E).filter fun y => y != b2) rfl HO12.out _ b2 rfl HBS.out (by have := HLN2.out; omega) HC12.out.size ?_
          intro v13 w13 own13 gr13 bk13
          have hc13 : Below W7.heap.size W7 w13 := HC12.out.trans ((Below.refl _ _).grown gr13 HC12.out.size fun k hk => (World.ownsRow.lt HO12.out k hk).1)
          obtain ⟨g13, cap13, hv13, hg13⟩ := MineN.form own13 (by simp)
          generalize (((toldR zt c E).filter fun y => y != b2) ++ [b2]).length = ln at hv13
          subst hv13
          have hY13 := HY7.out.below hc13 HY7.out.lt
          have hR13 := HR7.out.below hc13 HR7.out.lt
          have y6 := hY13.cell 5; have yf := hY13.free 5
          simp only [List.getElem?_toArray, List.getElem?_cons_zero, List.getElem?_cons_succ] at y6
          have HY13 := Lib.hid hY13; have HR13 := Lib.hid hR13; have HO13 := Lib.hid own13; have HC13 := Lib.hid hc13; have HG13 := Lib.hid hg13
          clear own13 gr13 bk13 hc13 hY13 hR13 hg13 HO12 HC12 HBS
          go_upto_region 25 with fail
          have hY : Blk (w13.setCell ⟨yb, 5, none⟩ (.slice (some ⟨g13, 0, none⟩) ln cap13)) yb 93 #[.bool true, .int .i64 x, .int .i64 zt, .int .i64 0, .slice Av nv cv, .slice (some ⟨g13, 0, none⟩) ln cap13] := HY13.out.set_ 5 _
          have hR : Blk (w13.setCell ⟨yb, 5, none⟩ (.slice (some ⟨g13, 0, none⟩) ln cap13)) (W.heap.size + 1) 93 #[.bool false, .int .i64 0, .int .i64 0, .int .i64 0, .slice none 0 0, .slice none 0 0] := HR13.out.far (p := ⟨yb, 5, none⟩) (show W.heap.size + 1 ≠ yb by have := HLR.out; omega) _
          have hu13 := (But.refl (fun x => x = yb) w13).set ⟨yb, 5, none⟩ (.slice (some ⟨g13, 0, none⟩) ln cap13) (.inl rfl)
          have hN14 : MineN W7.heap.size (.slice (some ⟨g13, 0, none⟩) ln cap13) (((toldR zt c E).filter fun y => y != b2) ++ [b2]) (w13.setCell ⟨yb, 5, none⟩ (.slice (some ⟨g13, 0, none⟩) ln cap13)) := World.ownsRow.kept HO13.out (row := some yb) ⟨rfl, rfl, rfl, by simp, fun k hk hne => Below.heap_setCell w13 ⟨yb, 5, none⟩ _ k (fun e => hne (by rw [e]))⟩ (.inr (by intro e; have e' : some g13 = some yb := e; cases e'; have := HY7.out.lt; have := HG13.out; omega))
          have hb : Below W.heap.size W (w13.setCell ⟨yb, 5, none⟩ (.slice (some ⟨g13, 0, none⟩) ln cap13)) := (HB7.out.trans (HC13.out.mono HB7.out.size)).setCell (p := ⟨yb, 5, none⟩) HSW.out _
          have hv14 := (HV7.out.below HC13.out).but hu13 (fun g hg e => by have := (HAP.out g hg).2.2; omega)
          generalize w13.setCell ⟨yb, 5, none⟩ (.slice (some ⟨g13, 0, none⟩) ln cap13) = W14 at *
          obtain ⟨D9, hD9⟩ : ∃ D9 : Nat → Prop, D9 = fun g => D5 g ∨ W7.heap.size ≤ g := ⟨_, rfl⟩
          have hfin : ∀ g, D9 g → Since D W g ∧ g ≠ W.heap.size + 1 := fun g q => by
            rw [hD9] at q
            rcases q with q | q
            · exact ⟨(HAP.out g q).1, (HAP.out g q).2.1⟩
            · have := HY7.out.lt; have := HLR.out; have := HB7.out.size
              exact ⟨.inr (by omega), by omega⟩
          have hdl : DLk D9 (giveC c) (dropW zt E) (.slice Av nv cv) (.slice (some ⟨g13, 0, none⟩) ln cap13) W14 := ⟨hv14.mono (fun g _ q => by rw [hD9]; exact .inl q), by rw [HRN.out]; exact (SIn.of_owns hN14).mono (fun g _ q => by rw [hD9]; exact .inr q)⟩
          clear hv14 hN14 hu13 y6 yf
          have q0 := hY.cell 0; have q1 := hY.cell 1; have q2 := hY.cell 2; have q3 := hY.cell 3; have q4 := hY.cell 4; have q5 := hY.cell 5
          simp only [List.getElem?_toArray, List.getElem?_cons_zero, List.getElem?_cons_succ] at q0 q1 q2 q3 q4 q5
          have r0 := hR.free 0; have r1 := hR.free 1; have r2 := hR.free 2; have r3 := hR.free 3; have r4 := hR.free 4; have r5 := hR.free 5
          have z0 := hR.cell 0; have z1 := hR.cell 1; have z2 := hR.cell 2; have z3 := hR.cell 3; have z4 := hR.cell 4; have z5 := hR.cell 5
          simp only [List.getElem?_toArray, List.getElem?_cons_zero, List.getElem?_cons_succ] at z0 z1 z2 z3 z4 z5
          have hne : ¬ W.heap.size + 1 = yb := by have := HLR.out; omega
          have hne2 : ¬ yb = W.heap.size + 1 := by have := HLR.out; omega
          obtain ⟨WS, hWS⟩ : ∃ WS, WS = ((((((W14.setCell ⟨W.heap.size + 1, 0, none⟩ (.bool true)).setCell ⟨W.heap.size + 1, 1, none⟩ (.int .i64 x)).setCell ⟨W.heap.size + 1, 2, none⟩ (.int .i64 zt)).setCell ⟨W.heap.size + 1, 3, none⟩ (.int .i64 0)).setCell ⟨W.heap.size + 1, 4, none⟩ (.slice Av nv cv)).setCell ⟨W.heap.size + 1, 5, none⟩ (.slice (some ⟨g13, 0, none⟩) ln cap13)) := ⟨_, rfl⟩
          have hst : Blk WS (W.heap.size + 1) 93 #[.bool true, .int .i64 x, .int .i64 zt, .int .i64 0, .slice Av nv cv, .slice (some ⟨g13, 0, none⟩) ln cap13] := by rw [hWS]; exact stored6 hR _ _ _ _ _ _
          have hb10 : Below W.heap.size W WS := by rw [hWS]; exact below6 hb (Nat.le_succ _) _ _ _ _ _ _
          have hu10 : But (fun x => x = W.heap.size + 1) W14 WS := by rw [hWS]; exact but6 (X := fun x => x = W.heap.size + 1) (But.refl _ W14) rfl _ _ _ _ _ _
          have hn10 : But Nob WS WS.drew := (But.refl Nob WS).drew
          have x1 : ((((((((W14.setCell ⟨W.heap.size + 1, 0, none⟩ (.bool true)).setCell ⟨W.heap.size + 1, 1, none⟩ (.int .i64 x)).setCell ⟨W.heap.size + 1, 2, none⟩ (.int .i64 zt)).setCell ⟨W.heap.size + 1, 3, none⟩ (.int .i64 0)).setCell ⟨W.heap.size + 1, 4, none⟩ (.slice Av nv cv)).setCell ⟨W.heap.size + 1, 5, none⟩ (.slice (some ⟨g13, 0, none⟩) ln cap13))).drew).cell? ⟨yb, 1, none⟩ = some (.int .i64 x) := by
            rw [← hWS]
            exact (hn10.cell0 (j := 1) (Nat.lt_of_lt_of_le hY.lt hu10.size) id).trans ((hu10.cell0 (j := 1) hY.lt hne2).trans q1)
          have hd10 : DLk (Since D W) (giveC c) (dropW zt E) (.slice Av nv cv) (.slice (some ⟨g13, 0, none⟩) ln cap13) WS.drew := ((hdl.but hu10 (fun g hg e => (hfin g hg).2 e)).mono (D' := Since D W) fun g _ q => (hfin g q).1).but hn10 fun _ _ q => q
          have HF9 := Lib.hid (HF.out _ _ WS.drew hd10 (hb10.trans (hn10.below (B := W.heap.size) hb10.size fun _ _ q => q.elim)))
          have HST := Lib.hid (hst.but hn10 id)
          have HWS := Lib.hid hWS
          clear hY hR hb hst hb10 hu10 hn10 hd10 hWS hdl hfin
          go_region
          rw [← HWS.out]
          go_wp2_with fail
          refine bodyPost_ret (results_lock4 rfl _ _ (W.heap.size + 1) _ rfl HST.out rfl) rfl ?_
          exact HF9.out
end
end Go.Proofs.Ytdomgipbadimmaa
