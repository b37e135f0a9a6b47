/- The document's Give: it stays in its socket (layer 14). -/
import Derived.Test.YtdomgipbadimmaaE7
namespace Go.Proofs.Ytdomgipbadimmaa
open Go.RowKit
set_option maxRecDepth 100000

section
variable {D : Nat → Prop} {c : Coh} {E : List Ent} {wv rv : Value} {W w' : World} {t : Int}
/-- Blocks that are there, of D; blocks of D or new ones, but for the result's. -/
def InOld (D : Nat → Prop) (W : World) (g : Nat) : Prop := D g ∧ g < W.heap.size
def Apart (D : Nat → Prop) (W w : World) (g : Nat) : Prop := Since D W g ∧ g ≠ W.heap.size + 1 ∧ g < w.heap.size
theorem apart_of {W4 w5 : World} {g : Nat} (hb : W.heap.size + 2 ≤ W4.heap.size) (hg : g < w5.heap.size) (q : Since (InOld D W) W4 g) : Apart D W w5 g := by
  rcases q with ⟨a, b⟩ | q
  · exact ⟨.inl a, by omega, hg⟩
  · exact ⟨.inr (by omega), by omega, hg⟩
/-- What told gives, where the first of the socket is x. -/
theorem dtold_at (z x : Int) (xs : List Int) (hw : wof z E = x :: xs) (h : DLk D c E wv rv W) (hn : c.own ≠ -1) (hE : E.length ≤ 900) (hR : (rndL c).length ≤ 900) :
    Calls Try.prog 63 #[.agg #[.bool true, .int .i64 c.own, .int .i64 c.soc, .int .i64 c.pas, wv, rv], .int .i64 z] W fun e w' => ∃ Av nv cv Ar nr cr, e = .returned (.agg #[.bool true, .int .i64 x, .int .i64 c.soc, .int .i64 c.pas, .slice Av nv cv, .slice Ar nr cr]) ∧ (SIn (Since D W) (.slice Av nv cv) (dropW z E).length (entC (dropW z E)) w' ∧ SIn (Since D W) (.slice Ar nr cr) (toldR z c E).length (numC (toldR z c E)) w') ∧ Below W.heap.size W w' := by
  have P := dtold_any z h hE hR
  unfold dcells at P
  rw [heldD_yes hn, ownD_yes hn] at P
  refine P.mono ?_
  rintro e w' ⟨v, r, rfl, hv, hr, hb⟩
  obtain ⟨Av, nv, cv, rfl⟩ := hv.slice
  obtain ⟨Ar, nr, cr, rfl⟩ := hr.slice
  refine ⟨Av, nv, cv, Ar, nr, cr, ?_, ⟨hv, hr⟩, hb⟩
  rw [hw, heldD_yes hn]; rfl
set_option maxHeartbeats 16000000 in
theorem dgive_stay (t : Int) (h : DLk D c E wv rv W) (hr : RelC c E) (hi : isOfC c t = true) (hot : c.own = t) (hn : c.own ≠ -1) (h1 : 0 ≤ ownI c) (h2 : c.pas < 3 ∨ othI c < 0) (hE0 : 0 < E.length) (hE : E.length ≤ 900) (hR : (rndL c).length ≤ 900) (hp : 0 ≤ c.pas ∧ c.pas ≤ 900) : Calls Try.prog 42 #[.agg (dcells c wv rv).toArray, .int .i64 t] W (DGiveP D c E t W) := by
  obtain ⟨x, xs, hw, hrel, ho', hs', hp', hl'⟩ := hr.stay h1 h2
  have hg : goesC c = true := by rw [hr.none, show (E.length == 0) = false from beq_false_of_ne (by omega)]; rfl
  have hhas : ((rndL c).any fun x => x == c.soc) = true := by rw [← own_has]; simpa using h1
  have hcond : c.pas < 3 ∨ (rndL c).length = 1 := h2.imp id fun q => (oth_none hr.ok h1).1 q
  have hx1 : x ≠ -1 := by
    have hmem : x ∈ wof c.soc E := by rw [hw]; simp
    obtain ⟨e, he, e1, _⟩ := wof_mem hmem
    obtain ⟨r, hr1, _, hm⟩ := hr.row he
    have := hr.ok.tsk r hr1 _ hm
    omega
  obtain ⟨A1, c1, rfl, hc1, -, -⟩ := h.ent
  obtain ⟨A2, c2, rfl, hc2, -, -⟩ := h.rnd.num
  have HF : Hid (∀ v r w', DLk (Since D W) (giveC c) (dropW c.soc E) v r w' → Below W.heap.size W w' → DGiveP D c E t W (.returned (.tuple #[.agg #[.bool true, .int .i64 x, .int .i64 c.soc, .int .i64 (c.pas + 1), v, r], .int .i64 x, .bool true, .int .i64 0])) w') := fun v r w' hd hb => by
    have := dgivep_on hi hg rfl ho' (by rw [hs']) hd hb
    unfold dcells at this
    have hq : (giveC c).own ≠ -1 := by rw [ho']; exact hx1
    rw [heldD_yes hq, ownD_yes hq, ho', hs', hp'] at this
    exact this
  have HL' := Lib.hid hl'
  have h' : DLk (InOld D W) c E (.slice A1 E.length c1) (.slice A2 (rndL c).length c2) W := h.mono fun g hg q => ⟨q, hg⟩
  have HD := Lib.hid h'
  have PT : Hid (∀ W4, Below W.heap.size W W4 → Calls Try.prog 63 #[.agg #[.bool true, .int .i64 c.own, .int .i64 c.soc, .int .i64 c.pas, .slice A1 E.length c1, .slice A2 (rndL c).length c2], .int .i64 c.soc] W4 fun e w' => ∃ Av nv cv Ar nr cr, e = .returned (.agg #[.bool true, .int .i64 x, .int .i64 c.soc, .int .i64 c.pas, .slice Av nv cv, .slice Ar nr cr]) ∧ (SIn (Since (InOld D W) W4) (.slice Av nv cv) (dropW c.soc E).length (entC (dropW c.soc E)) w' ∧ SIn (Since (InOld D W) W4) (.slice Ar nr cr) (toldR c.soc c E).length (numC (toldR c.soc c E)) w') ∧ Below W4.heap.size W4 w') := fun W4 hb => dtold_at c.soc x xs hw (HD.out.below hb) hn hE hR
  have PH : Hid (∀ W4, Below W.heap.size W W4 → Calls Try.prog 62 #[.slice A2 (rndL c).length c2, .int .i64 c.soc] W4 fun e w' => e = .returned (.bool true) ∧ W4 = w') := fun W4 hb => by
    have := has14_any c.soc (HD.out.below hb).rnd (by omega)
    rwa [hhas] at this
  obtain ⟨n, hnn⟩ : ∃ n, E.length = n := ⟨_, rfl⟩
  obtain ⟨m, hmm⟩ : ∃ m, (rndL c).length = m := ⟨_, rfl⟩
  have HMK : Hid (∀ W4 w5, W.heap.size + 2 ≤ W4.heap.size → ∀ Av nv cv Ar nr cr, SIn (Since (InOld D W) W4) (.slice Av nv cv) (dropW c.soc E).length (entC (dropW c.soc E)) w5 ∧ SIn (Since (InOld D W) W4) (.slice Ar nr cr) (toldR c.soc c E).length (numC (toldR c.soc c E)) w5 → DLk (Apart D W w5) (giveC c) (dropW c.soc E) (.slice Av nv cv) (.slice Ar nr cr) w5) := fun W4 w5 hb Av nv cv Ar nr cr ⟨q1, q2⟩ =>
    ⟨q1.mono fun g hg q => apart_of hb hg q, by rw [HL'.out]; exact q2.mono fun g hg q => apart_of hb hg q⟩
  unfold dcells
  rw [heldD_yes hn, ownD_yes hn, hot]
  rw [hot] at PT
  rw [hnn, hmm] at PT
  rw [hmm] at PH hcond hR
  rw [hnn] at hE hE0
  rw [hnn, hmm]
  generalize c.soc = b2 at *
  generalize hb3 : c.pas = b3 at *
  have tt : (t != t) = false := by simp
  have tn : ((n : Int) == 0) = false := by simp; omega
  show Calls _ _ #[.agg #[.bool true, .int .i64 t, .int .i64 b2, .int .i64 b3, .slice A1 n c1, .slice A2 m c2], _] _ _
  clear h hr hi hot hn h1 h2 hw hrel ho' hs' hp' hl' hg hhas hx1 hnn hmm hc1 hc2
  have hb1 : Below W.heap.size W (((W.alloc (.cells #[.bool true, .int .i64 t, .int .i64 b2, .int .i64 b3, .slice A1 n c1, .slice A2 m c2] 93)).alloc (.cells #[.bool false, .int .i64 0, .int .i64 0, .int .i64 0, .slice none 0 0, .slice none 0 0] 93))) := ((Below.refl _ _).alloc (Nat.le_refl _) _).alloc (by simp) _
  have HX1 : Hid (Blk ((W.alloc (.cells #[.bool true, .int .i64 t, .int .i64 b2, .int .i64 b3, .slice A1 n c1, .slice A2 m c2] 93)).alloc (.cells #[.bool false, .int .i64 0, .int .i64 0, .int .i64 0, .slice none 0 0, .slice none 0 0] 93)) W.heap.size 93 #[.bool true, .int .i64 t, .int .i64 b2, .int .i64 b3, .slice A1 n c1, .slice A2 m c2]) := (Blk.new W _ _).alloc _
  have HR1 : Hid (Blk ((W.alloc (.cells #[.bool true, .int .i64 t, .int .i64 b2, .int .i64 b3, .slice A1 n c1, .slice A2 m c2] 93)).alloc (.cells #[.bool false, .int .i64 0, .int .i64 0, .int .i64 0, .slice none 0 0, .slice none 0 0] 93)) (W.heap.size + 1) 93 #[.bool false, .int .i64 0, .int .i64 0, .int .i64 0, .slice none 0 0, .slice none 0 0]) := blk_new2 W _ _ _
  have P1 := Lib.hid (PH.out _ hb1)
  have P2 := Lib.hid (PT.out _ hb1)
  have HB1 := Lib.hid hb1
  clear hb1 PH PT
  go_enter Try.func42, Try.ntmps42
  go_upto_region 6 with (go_at_call 62; (with_reducible refine P1.out.mono ?_); rintro e9 w9 ⟨rfl, rfl⟩)
  by_cases h3 : b3 < 3
  · clear hcond
    go_upto_region 8 with (go_at_call 63; (with_reducible refine P2.out.mono ?_); rintro e9 w5 ⟨Av, nv, cv, Ar, nr, cr, rfl, hs, hb5⟩)
    have hd5 := HMK.out _ _ (by simp) _ _ _ _ _ _ hs
    have hR5 := HR1.out.below hb5 HR1.out.lt
    have hlr := hR5.lt
    have hb5' := HB1.out.trans (hb5.mono HB1.out.size)
    have hal : Below w5.heap.size w5 (w5.alloc (.cells #[.bool true, .int .i64 x, .int .i64 b2, .int .i64 b3, .slice Av nv cv, .slice Ar nr cr] 93)) := (Below.refl _ _).alloc (Nat.le_refl _) _
    have hd6 := hd5.below hal
    have hR6 := hR5.below hal hlr
    have hb6 := hb5'.trans (hal.mono hb5'.size)
    have hY6 := Blk.new w5 93 #[.bool true, .int .i64 x, .int .i64 b2, .int .i64 b3, .slice Av nv cv, .slice Ar nr cr]
    have hszw := hb5'.size
    clear hd5 hR5 hb5' hal hs hb5
    generalize w5.alloc (.cells #[.bool true, .int .i64 x, .int .i64 b2, .int .i64 b3, .slice Av nv cv, .slice Ar nr cr] 93) = W6 at *
    have hap : ∀ g, Apart D W w5 g → Since D W g ∧ g ≠ W.heap.size + 1 ∧ g < w5.heap.size := fun g q => q
    generalize Apart D W w5 = D5 at *
    generalize w5.heap.size = yb at *
    have y3 := hY6.cell 3; have yf := hY6.free 3
    simp only [List.getElem?_toArray, List.getElem?_cons_zero, List.getElem?_cons_succ] at y3
    have HD6 := Lib.hid hd6; have HAP := Lib.hid hap; have HR6 := Lib.hid hR6; have HB6 := Lib.hid hb6; have HY6 := Lib.hid hY6; have HLR := Lib.hid hlr; have HSW := Lib.hid hszw
    clear hap hd6 hR6 hb6 hY6 hlr hszw
    go_upto_region 9 with fail
    have hY7 : Blk (W6.setCell ⟨yb, 3, none⟩ (.int .i64 (b3 + 1))) yb 93 #[.bool true, .int .i64 x, .int .i64 b2, .int .i64 (b3 + 1), .slice Av nv cv, .slice Ar nr cr] := HY6.out.set_ 3 _
    have hR7 : Blk (W6.setCell ⟨yb, 3, none⟩ (.int .i64 (b3 + 1))) (W.heap.size + 1) 93 #[.bool false, .int .i64 0, .int .i64 0, .int .i64 0, .slice none 0 0, .slice none 0 0] := HR6.out.far (p := ⟨yb, 3, none⟩) (show W.heap.size + 1 ≠ yb by have := HLR.out; omega) _
    have hu7 := (But.refl (fun x => x = yb) W6).set ⟨yb, 3, none⟩ (.int .i64 (b3 + 1)) (.inl rfl)
    have hb7 : Below W.heap.size W (W6.setCell ⟨yb, 3, none⟩ (.int .i64 (b3 + 1))) := HB6.out.setCell (p := ⟨yb, 3, none⟩) HSW.out _
    generalize W6.setCell ⟨yb, 3, none⟩ (.int .i64 (b3 + 1)) = W7 at *
    have q0 := hY7.cell 0; have q1 := hY7.cell 1; have q2 := hY7.cell 2; have q3 := hY7.cell 3; have q4 := hY7.cell 4; have q5 := hY7.cell 5
    simp only [List.getElem?_toArray, List.getElem?_cons_zero, List.getElem?_cons_succ] at q0 q1 q2 q3 q4 q5
    have r0 := hR7.free 0; have r1 := hR7.free 1; have r2 := hR7.free 2; have r3 := hR7.free 3; have r4 := hR7.free 4; have r5 := hR7.free 5
    have z0 := hR7.cell 0; have z1 := hR7.cell 1; have z2 := hR7.cell 2; have z3 := hR7.cell 3; have z4 := hR7.cell 4; have z5 := hR7.cell 5
    simp only [List.getElem?_toArray, List.getElem?_cons_zero, List.getElem?_cons_succ] at z0 z1 z2 z3 z4 z5
    have HR7 := Lib.hid hR7; have HB7 := Lib.hid hb7
    have hne : ¬ W.heap.size + 1 = yb := by have := HLR.out; omega
    have hne2 : ¬ yb = W.heap.size + 1 := by have := HLR.out; omega
    have x1 : (((((((W7.setCell ⟨W.heap.size + 1, 0, none⟩ (.bool true)).setCell ⟨W.heap.size + 1, 1, none⟩ (.int .i64 x)).setCell ⟨W.heap.size + 1, 2, none⟩ (.int .i64 b2)).setCell ⟨W.heap.size + 1, 3, none⟩ (.int .i64 (b3 + 1))).setCell ⟨W.heap.size + 1, 4, none⟩ (.slice Av nv cv)).setCell ⟨W.heap.size + 1, 5, none⟩ (.slice Ar nr cr)).drew).cell? ⟨yb, 1, none⟩ = some (.int .i64 x) := by
      have hu := but6 (But.refl (fun x => x = W.heap.size + 1) W7) rfl (.bool true) (.int .i64 x) (.int .i64 b2) (.int .i64 (b3 + 1)) (.slice Av nv cv) (.slice Ar nr cr)
      exact (hu.drew.cell0 (j := 1) hY7.lt hne2).trans q1
    have hD7 := HD6.out.but hu7 (fun g hg e => by have := (HAP.out g hg).2.2; omega)
    have HD7 := Lib.hid hD7
    obtain ⟨WS, hWS⟩ : ∃ WS, WS = ((((((W7.setCell ⟨W.heap.size + 1, 0, none⟩ (.bool true)).setCell ⟨W.heap.size + 1, 1, none⟩ (.int .i64 x)).setCell ⟨W.heap.size + 1, 2, none⟩ (.int .i64 b2)).setCell ⟨W.heap.size + 1, 3, none⟩ (.int .i64 (b3 + 1))).setCell ⟨W.heap.size + 1, 4, none⟩ (.slice Av nv cv)).setCell ⟨W.heap.size + 1, 5, none⟩ (.slice Ar nr cr)) := ⟨_, rfl⟩
    have hst : Blk WS (W.heap.size + 1) 93 #[.bool true, .int .i64 x, .int .i64 b2, .int .i64 (b3 + 1), .slice Av nv cv, .slice Ar nr cr] := by rw [hWS]; exact stored6 HR7.out _ _ _ _ _ _
    have hb10 : Below W.heap.size W WS := by rw [hWS]; exact below6 HB7.out (Nat.le_succ _) _ _ _ _ _ _
    have hu10 : But (fun x => x = W.heap.size + 1) W7 WS := by rw [hWS]; exact but6 (X := fun x => x = W.heap.size + 1) (But.refl _ W7) rfl _ _ _ _ _ _
    have hn10 : But Nob WS WS.drew := (But.refl Nob WS).drew
    have hd10 : DLk (Since D W) (giveC c) (dropW b2 E) (.slice Av nv cv) (.slice Ar nr cr) WS.drew := ((HD7.out.but hu10 (fun g hg e => (HAP.out g hg).2.1 e)).mono (D' := Since D W) fun g _ q => (HAP.out g q).1).but hn10 fun _ _ q => q
    have HF9 := Lib.hid (HF.out _ _ WS.drew hd10 (hb10.trans (hn10.below (B := W.heap.size) hb10.size fun _ _ q => q.elim)))
    have HST := Lib.hid (hst.but hn10 id)
    have HWS := Lib.hid hWS
    clear hY7 hR7 hb7 y3 yf hst hb10 hu10 hn10 hd10 hWS hD7 hu7
    go_region
    rw [← HWS.out]
    go_wp2_with fail
    refine bodyPost_ret (results_lock4 rfl _ _ (W.heap.size + 1) _ rfl HST.out rfl) rfl ?_
    exact HF9.out
  · have tm : ((m : Int) == 1) = true := by
      have := hcond.resolve_left h3
      simp; omega
    clear hcond
    go_upto_region 8 with (go_at_call 63; (with_reducible refine P2.out.mono ?_); rintro e9 w5 ⟨Av, nv, cv, Ar, nr, cr, rfl, hs, hb5⟩)
    have hd5 := HMK.out _ _ (by simp) _ _ _ _ _ _ hs
    have hR5 := HR1.out.below hb5 HR1.out.lt
    have hlr := hR5.lt
    have hb5' := HB1.out.trans (hb5.mono HB1.out.size)
    have hal : Below w5.heap.size w5 (w5.alloc (.cells #[.bool true, .int .i64 x, .int .i64 b2, .int .i64 b3, .slice Av nv cv, .slice Ar nr cr] 93)) := (Below.refl _ _).alloc (Nat.le_refl _) _
    have hd6 := hd5.below hal
    have hR6 := hR5.below hal hlr
    have hb6 := hb5'.trans (hal.mono hb5'.size)
    have hY6 := Blk.new w5 93 #[.bool true, .int .i64 x, .int .i64 b2, .int .i64 b3, .slice Av nv cv, .slice Ar nr cr]
    have hszw := hb5'.size
    clear hd5 hR5 hb5' hal hs hb5
    generalize w5.alloc (.cells #[.bool true, .int .i64 x, .int .i64 b2, .int .i64 b3, .slice Av nv cv, .slice Ar nr cr] 93) = W6 at *
    have hap : ∀ g, Apart D W w5 g → Since D W g ∧ g ≠ W.heap.size + 1 ∧ g < w5.heap.size := fun g q => q
    generalize Apart D W w5 = D5 at *
    generalize w5.heap.size = yb at *
    have y3 := hY6.cell 3; have yf := hY6.free 3
    simp only [List.getElem?_toArray, List.getElem?_cons_zero, List.getElem?_cons_succ] at y3
    have HD6 := Lib.hid hd6; have HAP := Lib.hid hap; have HR6 := Lib.hid hR6; have HB6 := Lib.hid hb6; have HY6 := Lib.hid hY6; have HLR := Lib.hid hlr; have HSW := Lib.hid hszw
    clear hap hd6 hR6 hb6 hY6 hlr hszw
    go_upto_region 9 with fail
    have hY7 : Blk (W6.setCell ⟨yb, 3, none⟩ (.int .i64 (b3 + 1))) yb 93 #[.bool true, .int .i64 x, .int .i64 b2, .int .i64 (b3 + 1), .slice Av nv cv, .slice Ar nr cr] := HY6.out.set_ 3 _
    have hR7 : Blk (W6.setCell ⟨yb, 3, none⟩ (.int .i64 (b3 + 1))) (W.heap.size + 1) 93 #[.bool false, .int .i64 0, .int .i64 0, .int .i64 0, .slice none 0 0, .slice none 0 0] := HR6.out.far (p := ⟨yb, 3, none⟩) (show W.heap.size + 1 ≠ yb by have := HLR.out; omega) _
    have hu7 := (But.refl (fun x => x = yb) W6).set ⟨yb, 3, none⟩ (.int .i64 (b3 + 1)) (.inl rfl)
    have hb7 : Below W.heap.size W (W6.setCell ⟨yb, 3, none⟩ (.int .i64 (b3 + 1))) := HB6.out.setCell (p := ⟨yb, 3, none⟩) HSW.out _
    generalize W6.setCell ⟨yb, 3, none⟩ (.int .i64 (b3 + 1)) = W7 at *
    have q0 := hY7.cell 0; have q1 := hY7.cell 1; have q2 := hY7.cell 2; have q3 := hY7.cell 3; have q4 := hY7.cell 4; have q5 := hY7.cell 5
    simp only [List.getElem?_toArray, List.getElem?_cons_zero, List.getElem?_cons_succ] at q0 q1 q2 q3 q4 q5
    have r0 := hR7.free 0; have r1 := hR7.free 1; have r2 := hR7.free 2; have r3 := hR7.free 3; have r4 := hR7.free 4; have r5 := hR7.free 5
    have z0 := hR7.cell 0; have z1 := hR7.cell 1; have z2 := hR7.cell 2; have z3 := hR7.cell 3; have z4 := hR7.cell 4; have z5 := hR7.cell 5
    simp only [List.getElem?_toArray, List.getElem?_cons_zero, List.getElem?_cons_succ] at z0 z1 z2 z3 z4 z5
    have HR7 := Lib.hid hR7; have HB7 := Lib.hid hb7
    have hne : ¬ W.heap.size + 1 = yb := by have := HLR.out; omega
    have hne2 : ¬ yb = W.heap.size + 1 := by have := HLR.out; omega
    have x1 : (((((((W7.setCell ⟨W.heap.size + 1, 0, none⟩ (.bool true)).setCell ⟨W.heap.size + 1, 1, none⟩ (.int .i64 x)).setCell ⟨W.heap.size + 1, 2, none⟩ (.int .i64 b2)).setCell ⟨W.heap.size + 1, 3, none⟩ (.int .i64 (b3 + 1))).setCell ⟨W.heap.size + 1, 4, none⟩ (.slice Av nv cv)).setCell ⟨W.heap.size + 1, 5, none⟩ (.slice Ar nr cr)).drew).cell? ⟨yb, 1, none⟩ = some (.int .i64 x) := by
      have hu := but6 (But.refl (fun x => x = W.heap.size + 1) W7) rfl (.bool true) (.int .i64 x) (.int .i64 b2) (.int .i64 (b3 + 1)) (.slice Av nv cv) (.slice Ar nr cr)
      exact (hu.drew.cell0 (j := 1) hY7.lt hne2).trans q1
    have hD7 := HD6.out.but hu7 (fun g hg e => by have := (HAP.out g hg).2.2; omega)
    have HD7 := Lib.hid hD7
    obtain ⟨WS, hWS⟩ : ∃ WS, WS = ((((((W7.setCell ⟨W.heap.size + 1, 0, none⟩ (.bool true)).setCell ⟨W.heap.size + 1, 1, none⟩ (.int .i64 x)).setCell ⟨W.heap.size + 1, 2, none⟩ (.int .i64 b2)).setCell ⟨W.heap.size + 1, 3, none⟩ (.int .i64 (b3 + 1))).setCell ⟨W.heap.size + 1, 4, none⟩ (.slice Av nv cv)).setCell ⟨W.heap.size + 1, 5, none⟩ (.slice Ar nr cr)) := ⟨_, rfl⟩
    have hst : Blk WS (W.heap.size + 1) 93 #[.bool true, .int .i64 x, .int .i64 b2, .int .i64 (b3 + 1), .slice Av nv cv, .slice Ar nr cr] := by rw [hWS]; exact stored6 HR7.out _ _ _ _ _ _
    have hb10 : Below W.heap.size W WS := by rw [hWS]; exact below6 HB7.out (Nat.le_succ _) _ _ _ _ _ _
    have hu10 : But (fun x => x = W.heap.size + 1) W7 WS := by rw [hWS]; exact but6 (X := fun x => x = W.heap.size + 1) (But.refl _ W7) rfl _ _ _ _ _ _
    have hn10 : But Nob WS WS.drew := (But.refl Nob WS).drew
    have hd10 : DLk (Since D W) (giveC c) (dropW b2 E) (.slice Av nv cv) (.slice Ar nr cr) WS.drew := ((HD7.out.but hu10 (fun g hg e => (HAP.out g hg).2.1 e)).mono (D' := Since D W) fun g _ q => (HAP.out g q).1).but hn10 fun _ _ q => q
    have HF9 := Lib.hid (HF.out _ _ WS.drew hd10 (hb10.trans (hn10.below (B := W.heap.size) hb10.size fun _ _ q => q.elim)))
    have HST := Lib.hid (hst.but hn10 id)
    have HWS := Lib.hid hWS
    clear hY7 hR7 hb7 y3 yf hst hb10 hu10 hn10 hd10 hWS hD7 hu7
    go_region
    rw [← HWS.out]
    go_wp2_with fail
    refine bodyPost_ret (results_lock4 rfl _ _ (W.heap.size + 1) _ rfl HST.out rfl) rfl ?_
    exact HF9.out
end
end Go.Proofs.Ytdomgipbadimmaa
