/- The document's told (layer 14). -/
import Derived.Test.YtdomgipbadimmaaE5
namespace Go.Proofs.Ytdomgipbadimmaa
open Go.RowKit
set_option maxRecDepth 100000

def DToldP (D : Nat → Prop) (c : Coh) (E : List Ent) (z : Int) (W : World) (e : Ending) (w' : World) : Prop :=
  ∃ v r, e = .returned (.agg #[.bool (heldD c), .int .i64 ((wof z E).headD (ownD c)), .int .i64 c.soc, .int .i64 c.pas, v, r]) ∧ SIn (Since D W) v (dropW z E).length (entC (dropW z E)) w' ∧ SIn (Since D W) r (toldR z c E).length (numC (toldR z c E)) w' ∧ Below W.heap.size W w'
section
variable {D : Nat → Prop} {c : Coh} {E : List Ent} {wv rv : Value} {W w' : World} {z : Int}
set_option maxHeartbeats 16000000 in
theorem dtold_any (z : Int) (h : DLk D c E wv rv W) (hE : E.length ≤ 900) (hR : (rndL c).length ≤ 900) : Calls Try.prog 63 #[.agg (dcells c wv rv).toArray, .int .i64 z] W (DToldP D c E z W) := by
  obtain ⟨A1, c1, rfl, hc1, -, hent⟩ := h.ent
  obtain ⟨A2, c2, rfl, hc2, -, hnum⟩ := h.rnd.num
  have HD := Lib.hid h
  have HEN := Lib.hid hent
  have HNU := Lib.hid hnum
  have HF : Hid (∀ v r w', SIn (Since D W) v (dropW z E).length (entC (dropW z E)) w' → SIn (Since D W) r (toldR z c E).length (numC (toldR z c E)) w' → Below W.heap.size W w' → DToldP D c E z W (.returned (.agg #[.bool (heldD c), .int .i64 ((wof z E).headD (ownD c)), .int .i64 c.soc, .int .i64 c.pas, v, r])) w') := fun v r w' h1 h2 h3 => ⟨v, r, rfl, h1, h2, h3⟩
  obtain ⟨n, hn⟩ : ∃ n, E.length = n := ⟨_, rfl⟩
  obtain ⟨m, hm⟩ : ∃ m, (rndL c).length = m := ⟨_, rfl⟩
  have HN := Lib.hid hn; have HM := Lib.hid hm
  rw [hn] at hE hc1 ⊢; rw [hm] at hR hc2 ⊢
  unfold dcells
  obtain ⟨b0, hb0⟩ : ∃ b, heldD c = b := ⟨_, rfl⟩
  obtain ⟨b2, hb2⟩ : ∃ b, c.soc = b := ⟨_, rfl⟩
  obtain ⟨b3, hb3⟩ : ∃ b, c.pas = b := ⟨_, rfl⟩
  obtain ⟨o, ho⟩ : ∃ b, ownD c = b := ⟨_, rfl⟩
  have HC : Hid (heldD c = b0 ∧ ownD c = o ∧ c.soc = b2 ∧ c.pas = b3) := ⟨hb0, ho, hb2, hb3⟩
  rw [hb0, ho, hb2, hb3] at HF ⊢
  clear h hent hnum hb2 hb3 ho hb0 hn hm
  show Calls _ _ #[.agg #[.bool b0, .int .i64 o, .int .i64 b2, .int .i64 b3, .slice A1 n c1, .slice A2 m c2], _] _ _
  go_enter Try.func63, Try.ntmps63
  go_wp2_with fail
  have hX1 : Blk (((W.alloc (.cells #[.bool b0, .int .i64 o, .int .i64 b2, .int .i64 b3, .slice A1 n c1, .slice A2 m c2] 93)).alloc (.cells #[.bool false, .int .i64 0, .int .i64 0, .int .i64 0, .slice none 0 0, .slice none 0 0] 93)).alloc (.cells #[.bool b0, .int .i64 o, .int .i64 b2, .int .i64 b3, .slice none 0 0, .slice A2 m c2] 93)) W.heap.size 93 #[.bool b0, .int .i64 o, .int .i64 b2, .int .i64 b3, .slice A1 n c1, .slice A2 m c2] := ((Blk.new W _ _).alloc _).alloc _
  have hR1 : Blk (((W.alloc (.cells #[.bool b0, .int .i64 o, .int .i64 b2, .int .i64 b3, .slice A1 n c1, .slice A2 m c2] 93)).alloc (.cells #[.bool false, .int .i64 0, .int .i64 0, .int .i64 0, .slice none 0 0, .slice none 0 0] 93)).alloc (.cells #[.bool b0, .int .i64 o, .int .i64 b2, .int .i64 b3, .slice none 0 0, .slice A2 m c2] 93)) (W.heap.size + 1) 93 #[.bool false, .int .i64 0, .int .i64 0, .int .i64 0, .slice none 0 0, .slice none 0 0] := (blk_new2 W _ _ _).alloc _
  have hY1 : Blk (((W.alloc (.cells #[.bool b0, .int .i64 o, .int .i64 b2, .int .i64 b3, .slice A1 n c1, .slice A2 m c2] 93)).alloc (.cells #[.bool false, .int .i64 0, .int .i64 0, .int .i64 0, .slice none 0 0, .slice none 0 0] 93)).alloc (.cells #[.bool b0, .int .i64 o, .int .i64 b2, .int .i64 b3, .slice none 0 0, .slice A2 m c2] 93)) (W.heap.size + 2) 93 #[.bool b0, .int .i64 o, .int .i64 b2, .int .i64 b3, .slice none 0 0, .slice A2 m c2] := by
    have := Blk.new ((W.alloc (.cells #[.bool b0, .int .i64 o, .int .i64 b2, .int .i64 b3, .slice A1 n c1, .slice A2 m c2] 93)).alloc (.cells #[.bool false, .int .i64 0, .int .i64 0, .int .i64 0, .slice none 0 0, .slice none 0 0] 93)) 93 #[.bool b0, .int .i64 o, .int .i64 b2, .int .i64 b3, .slice none 0 0, .slice A2 m c2]
    rwa [show ((W.alloc (.cells #[.bool b0, .int .i64 o, .int .i64 b2, .int .i64 b3, .slice A1 n c1, .slice A2 m c2] 93)).alloc (.cells #[.bool false, .int .i64 0, .int .i64 0, .int .i64 0, .slice none 0 0, .slice none 0 0] 93)).heap.size = W.heap.size + 2 by simp] at this
  have hL1 : Below W.heap.size W (((W.alloc (.cells #[.bool b0, .int .i64 o, .int .i64 b2, .int .i64 b3, .slice A1 n c1, .slice A2 m c2] 93)).alloc (.cells #[.bool false, .int .i64 0, .int .i64 0, .int .i64 0, .slice none 0 0, .slice none 0 0] 93)).alloc (.cells #[.bool b0, .int .i64 o, .int .i64 b2, .int .i64 b3, .slice none 0 0, .slice A2 m c2] 93)) := (((Below.refl _ _).alloc (Nat.le_refl _) _).alloc (by simp) _).alloc (by simp; omega) _
  generalize ((W.alloc (.cells #[.bool b0, .int .i64 o, .int .i64 b2, .int .i64 b3, .slice A1 n c1, .slice A2 m c2] 93)).alloc (.cells #[.bool false, .int .i64 0, .int .i64 0, .int .i64 0, .slice none 0 0, .slice none 0 0] 93)).alloc (.cells #[.bool b0, .int .i64 o, .int .i64 b2, .int .i64 b3, .slice none 0 0, .slice A2 m c2] 93) = W3 at *
  obtain ⟨xb, hxb⟩ : ∃ xb, W.heap.size = xb := ⟨_, rfl⟩
  have HXB := Lib.hid hxb
  rw [hxb] at hX1 hR1 hY1 ⊢
  obtain ⟨yb, hyb⟩ : ∃ yb, xb + 2 = yb := ⟨_, rfl⟩
  have HYB := Lib.hid hyb
  rw [hyb] at hY1 ⊢
  have HX1 := Lib.hid hX1; have HR1 := Lib.hid hR1; have HL1 := Lib.hid hL1
  have HT1 : Hid (ToldM yb W3 b0 o b2 b3 z [] (.slice A2 m c2) (.slice none 0 0) W3) := ⟨hY1, waitR_nil _ _, Below.refl _ _⟩
  clear hX1 hR1 hY1 hL1 hxb hyb
  go_loopw [6, 7, 17] (fun dv mv iv wr => ∃ (k : Nat) (v : Value), iv = .int .i64 k ∧ k ≤ n ∧ dv = .bool (!(wof z (E.take k)).isEmpty) ∧ mv = .bool (decide (2 ≤ (wof z (E.take k)).length)) ∧ ToldM yb W3 b0 o b2 b3 z (E.take k) (.slice A2 m c2) v wr) (fun _ _ iv _ => n - (intOf iv).toNat)
  case atStart => exact ⟨0, _, rfl, Nat.zero_le _, rfl, rfl, HT1.out⟩
  case round =>
    obtain ⟨k, v, rfl, hk, rfl, rfl, ht⟩ := hrel
    have HT := Lib.hid ht
    clear ht HT1
    have hLW : Below W.heap.size W wr := HL1.out.trans (HT.out.low.mono (by have := HXB.out; have := HYB.out; omega))
    obtain ⟨dn, hdn⟩ : ∃ b, (!(wof z (E.take k)).isEmpty) = b := ⟨_, rfl⟩
    obtain ⟨mr, hmr⟩ : ∃ b, decide (2 ≤ (wof z (E.take k)).length) = b := ⟨_, rfl⟩
    rw [hdn, hmr]
    by_cases hlt : k < n
    · obtain ⟨x, hx⟩ : ∃ x, E[k]? = some x := ⟨_, List.getElem?_eq_getElem (by rw [HN.out]; exact hlt)⟩
      obtain ⟨g, rfl, l0, f0, f1⟩ := HEN.out k x hx
      have g0 := (hLW.cell (p := ⟨g, k * 2, none⟩) l0).trans f0
      have g1 := (hLW.cell (p := ⟨g, k * 2 + 1, none⟩) l0).trans f1
      have HLT := Lib.hid hlt
      have k0 : (0 : Int) ≤ (k : Int) := by omega
      have k1 : (k : Int) < (n : Int) := by omega
      have k2 : (k : Int) < (c1 : Int) := by omega
      have hal : Below wr.heap.size wr (wr.alloc (.cells #[.int .i64 x.tsk, .int .i64 x.soc] 62)) := (Below.refl _ _).alloc (Nat.le_refl _) _
      have HT8 := Lib.hid (HT.out.on hal)
      have hbx := Blk.new wr 62 #[.int .i64 x.tsk, .int .i64 x.soc]
      have hDL : (dropW z (E.take k)).length ≤ 900 := by
        have h1 : ∀ l : List Ent, (dropW z l).length ≤ l.length := fun l => by
          induction l with
          | nil => exact Nat.le_refl _
          | cons e l ih => unfold dropW; split <;> simp only [List.length_cons] <;> omega
        have := h1 (E.take k)
        rw [List.length_take] at this; omega
      have HDL := Lib.hid hDL
      have hws := wof_succ (z := z) hx
      have hdr := dropW_succ (z := z) hx
      go_upto_region 8 with fail
      clear l0 f0 f1 g0 g1 hal hLW hDL HT
      generalize wr.alloc (.cells #[.int .i64 x.tsk, .int .i64 x.soc] 62) = W8 at *
      generalize wr.heap.size = wb at *
      have d0 := hbx.cell 0; have d1 := hbx.cell 1
      simp only [List.getElem?_toArray, List.getElem?_cons_zero, List.getElem?_cons_succ] at d0 d1
      have y4 := HT8.out.blk.cell 4
      simp only [List.getElem?_toArray, List.getElem?_cons_zero, List.getElem?_cons_succ] at y4
      clear hbx hx
      by_cases q : x.soc = z
      · have tq : (x.soc == z) = true := by simpa using q
        rw [if_pos q] at hws
        cases dn with
        | false =>
          have hw0 : wof z (E.take k) = [] := by simpa using hdn
          rw [if_pos ⟨q, hw0⟩] at hdr
          rw [hw0] at hws hmr
          have hmr' : mr = false := by rw [← hmr]; rfl
          have y1 := HT8.out.blk.cell 1; have yf := HT8.out.blk.free 1
          simp only [List.getElem?_toArray, List.getElem?_cons_zero, List.getElem?_cons_succ] at y1
          have HT10 := Lib.hid (HT8.out.told (X' := E.take (k + 1)) (t := x.tsk) (by rw [hws]; rfl) hdr)
          have HDN : Hid ((!(wof z (E.take (k + 1))).isEmpty) = true) := by show _ = _; rw [hws]; rfl
          have HMR : Hid (decide (2 ≤ (wof z (E.take (k + 1))).length) = false) := by show _ = _; rw [hws]; rfl
          subst hmr'
          clear q hw0 hws hdr hmr hdn
          go_wp2_with fail
          go_roundw
          case rel => exact ⟨k + 1, _, by go_num, by have := HLT.out; omega, by rw [HDN.out], by rw [HMR.out], HT10.out⟩
          case measure => have := HLT.out; simp [intOf]; omega
        | true =>
          have hw0 : wof z (E.take k) ≠ [] := fun e => by rw [e] at hdn; cases hdn
          rw [if_neg (fun a => hw0 a.2)] at hdr
          have HDR := Lib.hid hdr
          have HHD : Hid ((wof z (E.take (k + 1))).headD o = (wof z (E.take k)).headD o) := by
            show _ = _
            rw [hws]
            cases hq : wof z (E.take k) with
            | nil => exact absurd hq hw0
            | cons a l => rfl
          have HDN : Hid ((!(wof z (E.take (k + 1))).isEmpty) = true) := by show _ = _; rw [hws]; simp
          have HMR : Hid (decide (2 ≤ (wof z (E.take (k + 1))).length) = true) := by
            show _ = _
            rw [hws]
            cases hq : wof z (E.take k) with
            | nil => exact absurd hq hw0
            | cons a l => simp
          clear q hw0 hws hdr hmr hdn
          cases mr with
          | true =>
            have hb9 : Below W8.heap.size W8 (W8.alloc (.cells #[.int .i64 x.tsk, .int .i64 x.soc] 62)) := (Below.refl _ _).alloc (Nat.le_refl _) _
            have HT9 := Lib.hid (HT8.out.on hb9)
            have HBS := Lib.hid (Blk.new W8 62 #[.int .i64 x.tsk, .int .i64 x.soc])
            clear hb9 HT8
            go_wp2_with (at_builtin; refine haltC ?_)
            refine Lib.hid ?_
            refine app_wait rfl (.tmp 40) (.tmp 42) rfl (yb + 1) v (dropW z (E.take k)) rfl HT9.out.own _ x rfl HBS.out (by have := HDL.out; omega) (by have := HT9.out.blk.lt; omega) ?_
            intro v' w' own gr bk
            have own' : WaitR (yb + 1) v' (dropW z (E.take (k + 1))) w' := by rw [HDR.out]; exact own
            obtain ⟨hy, ht9⟩ := HT9.out.more own' gr HHD.out
            obtain ⟨g', cap', hv', -, -⟩ := own'.form (by rw [HDR.out]; simp)
            generalize (dropW z (E.take (k + 1))).length = ln at hv'
            subst hv'
            have y5 := hy.cell 4; have yf := hy.free 4
            simp only [List.getElem?_toArray, List.getElem?_cons_zero, List.getElem?_cons_succ] at y5
            have HT10 := Lib.hid ht9
            clear own own' gr bk hy ht9 HT9 HBS y4
            go_wp2_with fail
            go_roundw
            case rel => exact ⟨k + 1, _, by go_num, by have := HLT.out; omega, by rw [HDN.out], by rw [HMR.out], HT10.out⟩
            case measure => have := HLT.out; simp [intOf]; omega
          | false =>
            have hb9 : Below W8.heap.size W8 (W8.alloc (.cells #[.int .i64 x.tsk, .int .i64 x.soc] 62)) := (Below.refl _ _).alloc (Nat.le_refl _) _
            have HT9 := Lib.hid (HT8.out.on hb9)
            have HBS := Lib.hid (Blk.new W8 62 #[.int .i64 x.tsk, .int .i64 x.soc])
            clear hb9 HT8
            go_wp2_with (at_builtin; refine haltC ?_)
            refine Lib.hid ?_
            refine app_wait rfl (.tmp 40) (.tmp 42) rfl (yb + 1) v (dropW z (E.take k)) rfl HT9.out.own _ x rfl HBS.out (by have := HDL.out; omega) (by have := HT9.out.blk.lt; omega) ?_
            intro v' w' own gr bk
            have own' : WaitR (yb + 1) v' (dropW z (E.take (k + 1))) w' := by rw [HDR.out]; exact own
            obtain ⟨hy, ht9⟩ := HT9.out.more own' gr HHD.out
            obtain ⟨g', cap', hv', -, -⟩ := own'.form (by rw [HDR.out]; simp)
            generalize (dropW z (E.take (k + 1))).length = ln at hv'
            subst hv'
            have y5 := hy.cell 4; have yf := hy.free 4
            simp only [List.getElem?_toArray, List.getElem?_cons_zero, List.getElem?_cons_succ] at y5
            have HT10 := Lib.hid ht9
            clear own own' gr bk hy ht9 HT9 HBS y4
            go_wp2_with fail
            go_roundw
            case rel => exact ⟨k + 1, _, by go_num, by have := HLT.out; omega, by rw [HDN.out], by rw [HMR.out], HT10.out⟩
            case measure => have := HLT.out; simp [intOf]; omega
      · have tq : (x.soc == z) = false := by simpa using q
        rw [if_neg q, List.append_nil] at hws
        rw [if_neg (fun a => q a.1)] at hdr
        have HDR := Lib.hid hdr
        have HHD : Hid ((wof z (E.take (k + 1))).headD o = (wof z (E.take k)).headD o) := by show _ = _; rw [hws]
        have HDN : Hid ((!(wof z (E.take (k + 1))).isEmpty) = dn) := by show _ = _; rw [hws]; exact hdn
        have HMR : Hid (decide (2 ≤ (wof z (E.take (k + 1))).length) = mr) := by show _ = _; rw [hws]; exact hmr
        clear q hws hdr hmr hdn
        cases mr with
        | true =>
          have hb9 : Below W8.heap.size W8 (W8.alloc (.cells #[.int .i64 x.tsk, .int .i64 x.soc] 62)) := (Below.refl _ _).alloc (Nat.le_refl _) _
          have HT9 := Lib.hid (HT8.out.on hb9)
          have HBS := Lib.hid (Blk.new W8 62 #[.int .i64 x.tsk, .int .i64 x.soc])
          clear hb9 HT8
          go_wp2_with (at_builtin; refine haltC ?_)
          refine Lib.hid ?_
          refine app_wait rfl (.tmp 40) (.tmp 42) rfl (yb + 1) v (dropW z (E.take k)) rfl HT9.out.own _ x rfl HBS.out (by have := HDL.out; omega) (by have := HT9.out.blk.lt; omega) ?_
          intro v' w' own gr bk
          have own' : WaitR (yb + 1) v' (dropW z (E.take (k + 1))) w' := by rw [HDR.out]; exact own
          obtain ⟨hy, ht9⟩ := HT9.out.more own' gr HHD.out
          obtain ⟨g', cap', hv', -, -⟩ := own'.form (by rw [HDR.out]; simp)
          generalize (dropW z (E.take (k + 1))).length = ln at hv'
          subst hv'
          have y5 := hy.cell 4; have yf := hy.free 4
          simp only [List.getElem?_toArray, List.getElem?_cons_zero, List.getElem?_cons_succ] at y5
          have HT10 := Lib.hid ht9
          clear own own' gr bk hy ht9 HT9 HBS y4
          go_wp2_with fail
          go_roundw
          case rel => exact ⟨k + 1, _, by go_num, by have := HLT.out; omega, by rw [HDN.out], by rw [HMR.out], HT10.out⟩
          case measure => have := HLT.out; simp [intOf]; omega
        | false =>
          have hb9 : Below W8.heap.size W8 (W8.alloc (.cells #[.int .i64 x.tsk, .int .i64 x.soc] 62)) := (Below.refl _ _).alloc (Nat.le_refl _) _
          have HT9 := Lib.hid (HT8.out.on hb9)
          have HBS := Lib.hid (Blk.new W8 62 #[.int .i64 x.tsk, .int .i64 x.soc])
          clear hb9 HT8
          go_wp2_with (at_builtin; refine haltC ?_)
          refine Lib.hid ?_
          refine app_wait rfl (.tmp 40) (.tmp 42) rfl (yb + 1) v (dropW z (E.take k)) rfl HT9.out.own _ x rfl HBS.out (by have := HDL.out; omega) (by have := HT9.out.blk.lt; omega) ?_
          intro v' w' own gr bk
          have own' : WaitR (yb + 1) v' (dropW z (E.take (k + 1))) w' := by rw [HDR.out]; exact own
          obtain ⟨hy, ht9⟩ := HT9.out.more own' gr HHD.out
          obtain ⟨g', cap', hv', -, -⟩ := own'.form (by rw [HDR.out]; simp)
          generalize (dropW z (E.take (k + 1))).length = ln at hv'
          subst hv'
          have y5 := hy.cell 4; have yf := hy.free 4
          simp only [List.getElem?_toArray, List.getElem?_cons_zero, List.getElem?_cons_succ] at y5
          have HT10 := Lib.hid ht9
          clear own own' gr bk hy ht9 HT9 HBS y4
          go_wp2_with fail
          go_roundw
          case rel => exact ⟨k + 1, _, by go_num, by have := HLT.out; omega, by rw [HDN.out], by rw [HMR.out], HT10.out⟩
          case measure => have := HLT.out; simp [intOf]; omega
    · have hkn : k = n := by omega
      have tk : ¬ (k : Int) < (n : Int) := by omega
      have hte : E.take k = E := List.take_of_length_le (by rw [HN.out]; omega)
      have ht := HT.out
      rw [hte] at hmr ht
      obtain ⟨hd, hhd⟩ : ∃ a, (wof z E).headD o = a := ⟨_, rfl⟩
      have hY9 := ht.blk
      rw [hhd] at HF hY9
      have hX9 := HX1.out.below ht.low (by have := HYB.out; omega)
      have hR9 := HR1.out.below ht.low (by have := HYB.out; omega)
      have hO9 := ht.own
      obtain ⟨Av, nv, cv, rfl⟩ := (hO9.sin (D := fun _ => True) (fun _ _ => trivial)).slice
      have HX9 := Lib.hid hX9; have HR9 := Lib.hid hR9; have HY9 := Lib.hid hY9; have HO9 := Lib.hid hO9; have HLW := Lib.hid hLW
      have HLV := Lib.hid ht.blk.lt
      clear hX9 hR9 hY9 hO9 ht HT hLW hkn hte hdn hhd HX1 HR1
      cases mr with
      | true =>
        have HTR : Hid (toldR z c E = rndL c) := by
          show _ = _
          unfold toldR; rw [if_neg (by have := of_decide_eq_true hmr; omega)]
        clear hmr
        go_upto_region 22 with fail
        have q0 := HY9.out.cell 0; have q1 := HY9.out.cell 1; have q2 := HY9.out.cell 2; have q3 := HY9.out.cell 3; have q4 := HY9.out.cell 4; have q5 := HY9.out.cell 5
        simp only [List.getElem?_toArray, List.getElem?_cons_zero, List.getElem?_cons_succ] at q0 q1 q2 q3 q4 q5
        have r0 := HR9.out.free 0; have r1 := HR9.out.free 1; have r2 := HR9.out.free 2; have r3 := HR9.out.free 3; have r4 := HR9.out.free 4; have r5 := HR9.out.free 5
        have z0 := HR9.out.cell 0; have z1 := HR9.out.cell 1; have z2 := HR9.out.cell 2; have z3 := HR9.out.cell 3; have z4 := HR9.out.cell 4; have z5 := HR9.out.cell 5
        simp only [List.getElem?_toArray, List.getElem?_cons_zero, List.getElem?_cons_succ] at z0 z1 z2 z3 z4 z5
        go_wp2_with fail
        refine bodyPost_ret (results_lock rfl _ _ (xb + 1) _ rfl (stored6 HR9.out _ _ _ _ _ _) rfl) rfl ?_
        have hb10 := below6 HLW.out (show W.heap.size ≤ xb + 1 by have := HXB.out; omega) (.bool b0) (.int .i64 hd) (.int .i64 b2) (.int .i64 b3) (.slice Av nv cv) (.slice A2 m c2)
        have hu10 := but6 (But.refl (fun x => x = xb + 1) wr) rfl (.bool b0) (.int .i64 hd) (.int .i64 b2) (.int .i64 b3) (.slice Av nv cv) (.slice A2 m c2)
        refine HF.out _ _ _ ?_ ?_ hb10
        · exact (WaitR.but HO9.out hu10 (fun g hg e => by have := (World.ownsRow.lt HO9.out g hg).1; have := HYB.out; omega)).sin (D := Since D W) (fun g hg => .inr (by have := HXB.out; have := HYB.out; omega))
        · rw [HTR.out, HM.out]
          have := ((HD.out.mono (D' := Since D W) fun _ _ q => Or.inl q).below hb10).rnd
          rwa [HM.out] at this
      | false =>
        have HTR : Hid (toldR z c E = (rndL c).filter fun x => x != z) := by
          show _ = _
          unfold toldR; rw [if_pos (by have := of_decide_eq_false hmr; omega)]
        clear hmr
        have y5 := HY9.out.cell 5; have yf := HY9.out.free 5
        have x5 := (HX9.out.far (p := ⟨yb, 5, none⟩) (show xb ≠ yb by have := HYB.out; omega) (.slice none 0 0)).cell 5
        simp only [List.getElem?_toArray, List.getElem?_cons_zero, List.getElem?_cons_succ] at y5 x5
        have hY10 : Blk (wr.setCell ⟨yb, 5, none⟩ (.slice none 0 0)) yb 93 #[.bool b0, .int .i64 hd, .int .i64 b2, .int .i64 b3, .slice Av nv cv, .slice none 0 0] := HY9.out.set_ 5 _
        have hR10 : Blk (wr.setCell ⟨yb, 5, none⟩ (.slice none 0 0)) (xb + 1) 93 #[.bool false, .int .i64 0, .int .i64 0, .int .i64 0, .slice none 0 0, .slice none 0 0] := HR9.out.far (p := ⟨yb, 5, none⟩) (show xb + 1 ≠ yb by have := HYB.out; omega) _
        have hO10 := WaitR.but (X := fun x => x = yb) (w' := wr.setCell ⟨yb, 5, none⟩ (.slice none 0 0)) HO9.out ((But.refl _ _).set ⟨yb, 5, none⟩ _ (.inl rfl)) fun g hg e => by have := (World.ownsRow.lt HO9.out g hg).1; omega
        have hb10 : Below W.heap.size W (wr.setCell ⟨yb, 5, none⟩ (.slice none 0 0)) := HLW.out.setCell (p := ⟨yb, 5, none⟩) (show W.heap.size ≤ yb by have := HXB.out; have := HYB.out; omega) _
        go_wp2_with fail
        generalize wr.setCell ⟨yb, 5, none⟩ (.slice none 0 0) = W10 at *
        have HR10 := Lib.hid hR10; have HO10 := Lib.hid hO10; have HB10 := Lib.hid hb10
        have HY10 := Lib.hid hY10
        have HLV10 := Lib.hid hY10.lt
        have HSIN := Lib.hid (HD.out.below hb10).rnd
        clear hY10 hR10 hO10 hb10 y5 x5 yf HX9 HR9 HY9 HO9
        go_loopw [52] (fun iv wr2 => ∃ (k2 : Nat) (r : Value), iv = .int .i64 k2 ∧ k2 ≤ m ∧ Blk wr2 yb 93 #[.bool b0, .int .i64 hd, .int .i64 b2, .int .i64 b3, .slice Av nv cv, r] ∧ MineN W10.heap.size r (((rndL c).take k2).filter fun x => x != z) wr2 ∧ But (fun x => x = yb) W10 wr2) (fun iv _ => m - (intOf iv).toNat)
        case atStart => exact ⟨0, _, rfl, Nat.zero_le _, HY10.out, mineN_nil _ _, But.refl _ _⟩
        case round =>
          obtain ⟨k2, r, rfl, hk2, hy, hn, hu⟩ := hrel
          have HU := Lib.hid hu; have HY := Lib.hid hy; have HNM := Lib.hid hn
          clear hn HY10
          by_cases hlt2 : k2 < m
          · obtain ⟨x, hx⟩ : ∃ x, (rndL c)[k2]? = some x := ⟨_, List.getElem?_eq_getElem (by rw [HM.out]; exact hlt2)⟩
            obtain ⟨g, rfl, l0, f0⟩ := HNU.out k2 x hx
            have g0 := (hu.cell0 (j := k2) (Nat.lt_of_lt_of_le l0 HB10.out.size) (by have := HXB.out; have := HYB.out; omega)).trans ((HB10.out.cell (p := ⟨g, k2, none⟩) l0).trans f0)
            have HLT2 := Lib.hid hlt2
            have k0 : (0 : Int) ≤ (k2 : Int) := by omega
            have k1 : (k2 : Int) < (m : Int) := by omega
            have k3 : (k2 : Int) < (c2 : Int) := by omega
            have hfl : (((rndL c).take (k2 + 1)).filter fun x => x != z) = (((rndL c).take k2).filter fun x => x != z) ++ (if x != z then [x] else []) := by
              rw [List.take_add_one, hx, List.filter_append]
              cases hq : (x != z) <;> simp [hq]
            have HLN : Hid ((((rndL c).take k2).filter fun x => x != z).length ≤ 900) := by
              show _ ≤ _
              have h1 := List.length_filter_le (fun x => x != z) ((rndL c).take k2)
              rw [List.length_take, HM.out] at h1; omega
            clear l0 f0 hx hu hlt2
            by_cases q : x = z
            · have tq : (x != z) = false := by simpa using q
              rw [tq, if_neg (by simp), List.append_nil] at hfl
              have HFL := Lib.hid hfl
              clear q hfl hy
              go_wp2_with fail
              go_roundw
              case rel => exact ⟨k2 + 1, _, by go_num, by have := HLT2.out; omega, HY.out, by rw [HFL.out]; exact HNM.out, HU.out⟩
              case measure => have := HLT2.out; simp [intOf]; omega
            · have tq : (x != z) = true := by simpa using q
              rw [tq, if_pos rfl] at hfl
              have HFL := Lib.hid hfl
              have y5 := hy.cell 5
              simp only [List.getElem?_toArray, List.getElem?_cons_zero, List.getElem?_cons_succ] at y5
              have hb7 : Below wr.heap.size wr (wr.alloc (.cells #[.int .i64 x] 3)) := (Below.refl _ _).alloc (Nat.le_refl _) _
              have HO12 := Lib.hid (MineN.on HNM.out hb7)
              have HC12 := Lib.hid (HU.out.alloc (.cells #[.int .i64 x] 3))
              have HY12 := Lib.hid (HY.out.alloc (.cells #[.int .i64 x] 3))
              have hbs := (Blk.new wr 3 #[.int .i64 x]).cell 0
              simp only [List.getElem?_toArray, List.getElem?_cons_zero] at hbs
              have HBS := Lib.hid hbs
              clear hb7 hbs q hfl hy HY HU HNM
              go_wp2_with (at_builtin; refine haltC ?_)
              refine Lib.hid ?_
              refine app_num rfl (.tmp 60) (.tmp 62) rfl W10.heap.size r (((rndL c).take k2).filter fun x => x != z) rfl HO12.out _ x rfl HBS.out (by have := HLN.out; omega) HC12.out.size ?_
              intro v13 w13 own13 gr13 bk13
              have hu13 : But (fun x => x = r.ownBlock.getD yb ∧ r.ownBlock ≠ none) (wr.alloc (.cells #[.int .i64 x] 3)) w13 := (But.refl _ _).grown gr13 fun q e => .inl ⟨by rw [e]; rfl, by rw [e]; simp⟩
              have hyr : ¬ (yb = r.ownBlock.getD yb ∧ r.ownBlock ≠ none) := fun ⟨e1, e2⟩ => by
                cases hr : r.ownBlock with
                | none => exact e2 hr
                | some g =>
                  rw [hr] at e1
                  have := (World.ownsRow.lt HO12.out g hr).1
                  have e3 : yb = g := e1
                  have := HLV10.out
                  omega
              have hY13 := HY12.out.but hu13 hyr
              have hU13 : But (fun x => x = yb) W10 w13 := HC12.out.grown gr13 fun q e => .inr (World.ownsRow.lt HO12.out q e).1
              have own13' : MineN W10.heap.size v13 (((rndL c).take (k2 + 1)).filter fun x => x != z) w13 := by rw [HFL.out]; exact own13
              obtain ⟨g13, cap13, hv13, hg13⟩ := MineN.form own13' (by rw [HFL.out]; simp)
              generalize (((rndL c).take (k2 + 1)).filter fun x => x != z).length = ln at hv13
              subst hv13
              have y6 := hY13.cell 5; have yf := hY13.free 5
              simp only [List.getElem?_toArray, List.getElem?_cons_zero, List.getElem?_cons_succ] at y6
              have hY14 : Blk (w13.setCell ⟨yb, 5, none⟩ (.slice (some ⟨g13, 0, none⟩) ln cap13)) yb 93 #[.bool b0, .int .i64 hd, .int .i64 b2, .int .i64 b3, .slice Av nv cv, .slice (some ⟨g13, 0, none⟩) ln cap13] := hY13.set_ 5 _
              have hN14 : MineN W10.heap.size (.slice (some ⟨g13, 0, none⟩) ln cap13) (((rndL c).take (k2 + 1)).filter fun x => x != z) (w13.setCell ⟨yb, 5, none⟩ (.slice (some ⟨g13, 0, none⟩) ln cap13)) := World.ownsRow.kept own13' (row := some yb) ⟨rfl, rfl, rfl, by simp, fun k hk hne => Below.heap_setCell w13 ⟨yb, 5, none⟩ _ k (fun e => hne (by rw [e]))⟩ (.inr (by intro e; have e' : some g13 = some yb := e; cases e'; have := HLV10.out; omega))
              have hU14 := hU13.set ⟨yb, 5, none⟩ (.slice (some ⟨g13, 0, none⟩) ln cap13) (.inl rfl)
              have HY14 := Lib.hid hY14; have HN14 := Lib.hid hN14; have HU14 := Lib.hid hU14
              clear own13 own13' gr13 bk13 hu13 hyr hY13 hU13 hg13 hY14 hN14 hU14 HO12 HC12 HY12 HBS y5
              go_wp2_with fail
              go_roundw
              case rel => exact ⟨k2 + 1, _, by go_num, by have := HLT2.out; omega, HY14.out, HN14.out, HU14.out⟩
              case measure => have := HLT2.out; simp [intOf]; omega
          · have hkm : k2 = m := by omega
            have tk2 : ¬ (k2 : Int) < (m : Int) := by omega
            have hte : (rndL c).take k2 = rndL c := List.take_of_length_le (by rw [HM.out]; omega)
            have hn9 := HNM.out
            rw [hte] at hn9
            obtain ⟨Ar, nr, cr, rfl⟩ := (hn9.sin (D := fun _ => True) (fun _ _ => trivial)).slice
            have hR15 := HR10.out.but hu (by have := HYB.out; omega)
            have hO15 := WaitR.but HO10.out hu fun g hg e => by have := (World.ownsRow.lt HO10.out g hg).1; omega
            have hb15 : Below W.heap.size W wr := HB10.out.trans (hu.below (B := W.heap.size) HB10.out.size fun _ _ q => by rw [q]; have := HXB.out; have := HYB.out; omega)
            have HN15 := Lib.hid hn9; have HR15 := Lib.hid hR15; have HO15 := Lib.hid hO15; have HB15 := Lib.hid hb15
            clear hu hy hn9 hR15 hO15 hb15 hte hkm HNM
            go_upto_region 22 with fail
            have q0 := HY.out.cell 0; have q1 := HY.out.cell 1; have q2 := HY.out.cell 2; have q3 := HY.out.cell 3; have q4 := HY.out.cell 4; have q5 := HY.out.cell 5
            simp only [List.getElem?_toArray, List.getElem?_cons_zero, List.getElem?_cons_succ] at q0 q1 q2 q3 q4 q5
            have r0 := HR15.out.free 0; have r1 := HR15.out.free 1; have r2 := HR15.out.free 2; have r3 := HR15.out.free 3; have r4 := HR15.out.free 4; have r5 := HR15.out.free 5
            have z0 := HR15.out.cell 0; have z1 := HR15.out.cell 1; have z2 := HR15.out.cell 2; have z3 := HR15.out.cell 3; have z4 := HR15.out.cell 4; have z5 := HR15.out.cell 5
            simp only [List.getElem?_toArray, List.getElem?_cons_zero, List.getElem?_cons_succ] at z0 z1 z2 z3 z4 z5
            go_wp2_with fail
            refine bodyPost_ret (results_lock rfl _ _ (xb + 1) _ rfl (stored6 HR15.out _ _ _ _ _ _) rfl) rfl ?_
            have hb16 := below6 HB15.out (show W.heap.size ≤ xb + 1 by have := HXB.out; omega) (.bool b0) (.int .i64 hd) (.int .i64 b2) (.int .i64 b3) (.slice Av nv cv) (.slice Ar nr cr)
            have hu16 := but6 (But.refl (fun x => x = xb + 1) wr) rfl (.bool b0) (.int .i64 hd) (.int .i64 b2) (.int .i64 b3) (.slice Av nv cv) (.slice Ar nr cr)
            refine HF.out _ _ _ ?_ ?_ hb16
            · exact (WaitR.but HO15.out hu16 (fun g hg e => by have := (World.ownsRow.lt HO15.out g hg).1; have := HYB.out; omega)).sin (D := Since D W) (fun g hg => .inr (by have := HXB.out; have := HYB.out; omega))
            · rw [HTR.out]
              exact ((SIn.of_owns HN15.out).but hu16 (fun g hg e => by have := HR10.out.lt; omega)).mono (D' := Since D W) (fun g _ hg => .inr (by have := HB10.out.size; omega))
end
end Go.Proofs.Ytdomgipbadimmaa
