/- StealPlays' walk. -/
import Derived.Test.YtfejimlfnelhhaaUd
namespace Go.Proofs.Ytfejimlfnelhhaa
open Go.RowKit

theorem Both.len {w0 : World} {b rb gs gp n : Nat} {D : Dq} {w : World} (h : Both w0 b rb gs gp D n w) (hn : n ≤ 900000) : Calls Try.prog 12 #[.pointer (some ⟨b, 0, none⟩)] w fun e w' => e = .returned (.int .i64 (max (D.bot - D.top) 0)) ∧ ∃ q, w' = w.drewN q := len_ld h.l hn
def BoxS (g : Nat) (k : Nat) (i x : Int) (W : World) : Prop := W.cell? ⟨g, 0, none⟩ = some (.int .u64 k) ∧ W.cell? ⟨g, 1, none⟩ = some (.int .i64 i) ∧ W.cell? ⟨g, 2, none⟩ = some (.int .i64 x)
def BoxT (g : Nat) (k : Nat) (i x : Int) (rb : Nat) (bt tp : Int) (W : World) : Prop := BoxS g k i x W ∧ W.cell? ⟨rb, 1, none⟩ = some (.int .i64 bt) ∧ W.cell? ⟨rb, 0, none⟩ = some (.int .i64 tp)
theorem wpAnyH_weak {P : Program} {md : Region.Mode} {ops : Array Oper} {Q : Exit → Act → World → Prop} {S S' : World → Prop} (h : ∀ W, S' W → S W) : ∀ (fuel : Nat) (listed : Array Bool) (a : Act) (w : World), wpAnyH P md ops Q S' fuel listed a w → wpAnyH P md ops Q S fuel listed a w
  | 0, _, _, _, q => q
  | fuel + 1, _, _, _, q => ⟨q.1, fun i hi => wpOp_mono (fun a' w' q' => ⟨h _ q'.1, wpAnyH_weak h fuel _ a' w' q'.2⟩) (q.2 i hi)⟩
theorem bne_self (x : Int) : (x != x) = false := by simp
set_option maxRecDepth 100000 in
set_option maxHeartbeats 16000000 in
theorem plays28_any (room thieves : Int) (A : Option Addr) (len cap : Nat) (K : Nat → Nat) (I X : Nat → Int) (w : World) (hcap : len ≤ cap) (hI : OpsIn w A len K I X) :
    Calls Try.prog 3 #[.int .i64 room, .int .i64 thieves, .slice A len cap] w fun e w' => e = .returned (.bool true) ∧ Below w.heap.size w w' := by
  obtain ⟨r, hr⟩ : ∃ r : Nat, min (max room 1) 64 = (r : Int) := ⟨(min (max room 1) 64).toNat, by omega⟩
  obtain ⟨t, ht⟩ : ∃ t : Nat, min (max thieves 0) 8 = (t : Int) := ⟨(min (max thieves 0) 8).toNat, by omega⟩
  have HN := Lib.hid (new_ld room thieves r t hr ht w)
  have HN2 := Lib.hid (fun w => refnew_any room thieves r t hr ht w)
  clear hr ht
  go_enter Try.func3, Try.ntmps3
  go_upto_region 1 with fail
  go_cut [2] (fun t wx => ∃ N : Nat, N ≤ 200 ∧ N ≤ len ∧ t = .slice A N cap ∧ w = wx)
  case first =>
    by_cases h60 : len ≤ 200
    · have t0 : ¬ (200 : Int) < len := by omega
      have t1 : (0 : Int) ≤ len := by omega
      have t2 : (len : Int) ≤ cap := by omega
      go_wp2_with fail
      go_meet
      exact ⟨len, h60, Nat.le_refl _, rfl, rfl⟩
    · have t0 : (200 : Int) < len := by omega
      have t2 : (200 : Int) ≤ cap := by omega
      have t3 : 200 ≤ cap := by omega
      go_wp2_with fail
      go_meet
      exact ⟨200, Nat.le_refl _, by omega, rfl, rfl⟩
  case rest =>
    obtain ⟨N, hN1, hN2, rfl, rfl⟩ := hcut
    have HI := Lib.hid (hI.less hN2)
    clear hI hcap hN2
    go_wp2_with fail
    refine HN.out.mono ?_
    rintro e w1 ⟨b, rfl, h1⟩
    have H1 := Lib.hid h1; clear h1 HN
    go_wp2_with fail
    refine (HN2.out w1).mono ?_
    rintro e w2 ⟨rb, gs, gp, rfl, hR, hG, hnew⟩
    have hB : Both w b rb gs gp (newD r t) 0 w2 := ⟨H1.out.nob hG, hR, fun k hk => Nat.le_trans H1.out.old.size (hnew k hk), fun q => by have := hnew b q; have := H1.out.v.lt; omega⟩
    have HB := Lib.hid hB
    clear hR hG hnew hB H1 HN2
    go_wp2_with fail
    go_loopw [27, 11] (fun q _ wr => ∃ (i : Nat) (D : Dq), i ≤ N ∧ q = .int .i64 i ∧ Both w b rb gs gp D i wr) (fun q _ _ => N - (intOf q).toNat)
    case atStart => exact ⟨0, _, Nat.zero_le _, rfl, HB.out⟩
    case round =>
      obtain ⟨i, D, hi, rfl, hS⟩ := hrel
      by_cases hlt : i < N
      · obtain ⟨bb, off, rfl, hbb, hc0, hc1, hc2⟩ := (HI.out.below hS.l.below) i hlt
        have k0 : (0 : Int) ≤ (i : Int) := by omega
        have k1 : (i : Int) < (N : Int) := by omega
        have hx := Blk.new wr 29 #[.int .u64 (K i), .int .i64 (I i), .int .i64 (X i)]
        have hA := hS.nob ((But.refl Nob wr).alloc (.cells #[.int .u64 (K i), .int .i64 (I i), .int .i64 (X i)] 29))
        have hzw : wr.heap.size < (wr.alloc (.cells #[.int .u64 (K i), .int .i64 (I i), .int .i64 (X i)] 29)).heap.size := by simp
        have hbw : b < wr.heap.size := hS.l.v.lt
        have hrw : Hid (∀ k, OwnR rb gs gp k → k < wr.heap.size) := fun k hk => hS.r.lt hk
        have HA := Lib.hid hA; have HX := Lib.hid hx; have HZW := Lib.hid hzw
        clear hS hx hA hzw HB
        go_upto_region 8 with fail
        clear hc0 hc1 hc2
        generalize wr.alloc (.cells #[.int .u64 (K i), .int .i64 (I i), .int .i64 (X i)] 29) = w4 at *
        obtain ⟨D', hD'⟩ : ∃ D', D' = doD D (K i) (I i) (X i) := ⟨_, rfl⟩
        have HDD := Lib.hid hD'; clear hD'
        go_cut [50] (fun q wx => q = .bool false ∧ Both w b rb gs gp D' (i + 1) wx)
        case first =>
          have hdo : Hid (∀ W, Both w b rb gs gp D i W → Calls Try.prog 11 #[.pointer (some ⟨b, 0, none⟩), .pointer (some ⟨rb, 0, none⟩), .agg #[.int .u64 (K i), .int .i64 (I i), .int .i64 (X i)]] W (DoB w b rb gs gp D' i W)) := fun W hW => by rw [HDD.out]; exact do28_any _ _ _ hW (by omega)
          clear HDD
          have x0 := HX.out.cell 0; have x1 := HX.out.cell 1; have x2 := HX.out.cell 2
          simp only [List.getElem?_toArray, List.getElem?_cons_zero, List.getElem?_cons_succ] at x0 x1 x2
          have n0 := World.new_ne w4 _ x0
          obtain ⟨bt, hbt⟩ : ∃ x, x = D'.bot := ⟨_, rfl⟩
          obtain ⟨tp, htp⟩ : ∃ x, x = D'.top := ⟨_, rfl⟩
          have hni : Hid (i + 1 ≤ 900000) := by show _ ≤ _; omega
          have hL : Hid (∀ W, Both w b rb gs gp D' (i + 1) W → Calls Try.prog 12 #[.pointer (some ⟨b, 0, none⟩)] W fun e w' => e = .returned (.int .i64 (if bt - tp < 0 then 0 else bt - tp)) ∧ ∃ q, w' = W.drewN q) := fun W hW => by
            have := hW.len hni.out
            rw [show max (D'.bot - D'.top) 0 = (if bt - tp < 0 then 0 else bt - tp) by split <;> omega] at this
            exact this
          have hqs : Hid (∀ W, Both w b rb gs gp D' (i + 1) W → IntKind.i64.wrap (bt - tp) = bt - tp) := fun W hW => by
            have h1 := hW.l.nice.bot; have h2 := hW.l.nice.b1; have h3 := hW.l.nice.t0; have h4 := hW.l.nice.t1
            exact IntWalk.i64_in _ (by omega)
          have tq := bne_self (if bt - tp < 0 then 0 else bt - tp)
          have HBT := Lib.hid hbt; have HTP := Lib.hid htp
          clear hbt htp n0 k0 k1 hni
          go_wp2_with fail
          have hX2 : Blk w4.drew wr.heap.size 29 #[.int .u64 (K i), .int .i64 (I i), .int .i64 (X i)] := HX.out
          have HS : Hid (BoxS wr.heap.size (K i) (I i) (X i) w4.drew) := ⟨hX2.cell 0, hX2.cell 1, hX2.cell 2⟩
          clear x0 x1 x2 hX2
          refine wp_region_held_drew (S := BoxS wr.heap.size (K i) (I i) (X i)) (by kernel_rfl) HS.out (fun _ => ?_)
          show wpAnyH _ _ _ _ _ _ _ _ _
          refine wpAnyH_take (i := 0) (v := ?_) rfl (by kernel_rfl) (by kernel_rfl) (by kernel_rfl) (fun _ _ _ h => h) (Or.inl ⟨by rfl, fun W hW => by (obtain ⟨z0, z1, z2⟩ := hW; go_simp <;> with_reducible rfl)⟩) HS.out ?_
          go_simp
          refine wpAnyH_take (i := 1) (v := ?_) rfl (by kernel_rfl) (by kernel_rfl) (by kernel_rfl) (fun _ _ _ h => h) (Or.inl ⟨by rfl, fun W hW => by (obtain ⟨z0, z1, z2⟩ := hW; go_simp <;> with_reducible rfl)⟩) HS.out ?_
          go_simp
          refine wpAnyH_take (i := 2) (v := ?_) rfl (by kernel_rfl) (by kernel_rfl) (by kernel_rfl) (fun _ _ _ h => h) (Or.inl ⟨by rfl, fun W hW => by (obtain ⟨z0, z1, z2⟩ := hW; go_simp <;> with_reducible rfl)⟩) HS.out ?_
          go_simp
          refine wpAnyH_ready (rs := [3]) (by kernel_rfl) (by simp) (AllReadyH.cons rfl (fun KK hK => ?_) AllReadyH.nil)
          go_simp
          refine (hdo.out _ (HA.out.nob (But.refl _ _).drew)).mono ?_
          rintro e w5 ⟨rfl, h5, hfr⟩
          have hb5 : Blk w5 wr.heap.size 29 _ := (hfr wr.heap.size HZW.out (by show ¬ _ = b; omega) (fun q => by have := hrw.out _ q; omega)).trans HX.out
          obtain ⟨P5, hv5, hr5⟩ := id h5.r.v
          obtain ⟨o0, o1, o2, o3, o4⟩ := hv5.cells
          rw [← HTP.out] at o0
          rw [← HBT.out] at o1
          have qs := hqs.out _ h5
          clear HS
          have HS : Hid (BoxT wr.heap.size (K i) (I i) (X i) rb bt tp w5) := ⟨⟨hb5.cell 0, hb5.cell 1, hb5.cell 2⟩, o1, o0⟩
          have H5 := Lib.hid h5
          clear h5 hfr hb5 hv5 hr5 o0 o1 o2 o3 o4
          refine hK.out _ _ HS.out.1 (fun _ => ?_)
          clear hK KK
          refine wpAnyH_weak (S' := BoxT wr.heap.size (K i) (I i) (X i) rb bt tp) (fun W q => q.1) _ _ _ _ ?_
          refine wpAnyH_take (i := 4) (v := ?_) rfl (by kernel_rfl) (by kernel_rfl) (by kernel_rfl) (fun _ _ _ h => h) (Or.inl ⟨by rfl, fun W hW => by (obtain ⟨⟨z0, z1, z2⟩, z3, z4⟩ := hW; go_simp <;> with_reducible rfl)⟩) HS.out ?_
          go_simp
          refine wpAnyH_take (i := 5) (v := ?_) rfl (by kernel_rfl) (by kernel_rfl) (by kernel_rfl) (fun _ _ _ h => h) (Or.inl ⟨by rfl, fun W hW => by (obtain ⟨⟨z0, z1, z2⟩, z3, z4⟩ := hW; go_simp <;> with_reducible rfl)⟩) HS.out ?_
          go_simp
          refine wpAnyH_take (i := 6) (v := ?_) rfl (by kernel_rfl) (by kernel_rfl) (by kernel_rfl) (fun _ _ _ h => h) (Or.inl ⟨by rfl, fun W hW => by (obtain ⟨⟨z0, z1, z2⟩, z3, z4⟩ := hW; go_simp <;> with_reducible rfl)⟩) HS.out ?_
          go_simp
          refine wpAnyH_take (i := 8) (v := ?_) rfl (by kernel_rfl) (by kernel_rfl) (by kernel_rfl) (fun _ _ _ h => h) (Or.inl ⟨by rfl, fun W hW => by (obtain ⟨⟨z0, z1, z2⟩, z3, z4⟩ := hW; go_simp <;> with_reducible rfl)⟩) HS.out ?_
          go_simp
          refine wpAnyH_take (i := 9) (v := ?_) rfl (by kernel_rfl) (by kernel_rfl) (by kernel_rfl) (fun _ _ _ h => h) (Or.inl ⟨by rfl, fun W hW => by (obtain ⟨⟨z0, z1, z2⟩, z3, z4⟩ := hW; go_simp <;> with_reducible rfl)⟩) HS.out ?_
          go_simp
          refine wpAnyH_take (i := 10) (v := ?_) rfl (by kernel_rfl) (by kernel_rfl) (by kernel_rfl) (fun _ _ _ h => h) (Or.inl ⟨by rfl, fun W hW => by (obtain ⟨⟨z0, z1, z2⟩, z3, z4⟩ := hW; go_simp <;> with_reducible rfl)⟩) HS.out ?_
          go_simp
          refine wpAnyH_take (i := 11) (v := ?_) rfl (by kernel_rfl) (by kernel_rfl) (by kernel_rfl) (fun _ _ _ h => h) (Or.inl ⟨by rfl, fun W hW => by (obtain ⟨⟨z0, z1, z2⟩, z3, z4⟩ := hW; go_simp <;> with_reducible rfl)⟩) HS.out ?_
          go_simp
          refine wpAnyH_take (i := 12) (v := ?_) rfl (by kernel_rfl) (by kernel_rfl) (by kernel_rfl) (fun _ _ _ h => h) (Or.inl ⟨by rfl, fun W hW => by (obtain ⟨⟨z0, z1, z2⟩, z3, z4⟩ := hW; go_simp <;> with_reducible rfl)⟩) HS.out ?_
          go_simp
          refine wpAnyH_take (i := 13) (v := ?_) rfl (by kernel_rfl) (by kernel_rfl) (by kernel_rfl) (fun _ _ _ h => h) (Or.inl ⟨by rfl, fun W hW => by (obtain ⟨⟨z0, z1, z2⟩, z3, z4⟩ := hW; go_simp <;> with_reducible rfl)⟩) HS.out ?_
          go_simp
          refine wpAnyH_take (i := 14) (v := ?_) rfl (by kernel_rfl) (by kernel_rfl) (by kernel_rfl) (fun _ _ _ h => h) (Or.inl ⟨by rfl, fun W hW => by (obtain ⟨⟨z0, z1, z2⟩, z3, z4⟩ := hW; go_simp <;> with_reducible rfl)⟩) HS.out ?_
          go_simp
          refine wpAnyH_take (i := 15) (v := ?_) rfl (by kernel_rfl) (by kernel_rfl) (by kernel_rfl) (fun _ _ _ h => h) (Or.inl ⟨by rfl, fun W hW => by (obtain ⟨⟨z0, z1, z2⟩, z3, z4⟩ := hW; go_simp <;> with_reducible rfl)⟩) HS.out ?_
          go_simp
          refine wpAnyH_take (i := 16) (v := ?_) rfl (by kernel_rfl) (by kernel_rfl) (by kernel_rfl) (fun _ _ _ h => h) (Or.inl ⟨by rfl, fun W hW => by (obtain ⟨⟨z0, z1, z2⟩, z3, z4⟩ := hW; go_simp <;> with_reducible rfl)⟩) HS.out ?_
          go_simp
          refine wpAnyH_take (i := 17) (v := ?_) rfl (by kernel_rfl) (by kernel_rfl) (by kernel_rfl) (fun _ _ _ h => h) (Or.inl ⟨by rfl, fun W hW => by (obtain ⟨⟨z0, z1, z2⟩, z3, z4⟩ := hW; go_simp <;> with_reducible rfl)⟩) HS.out ?_
          go_simp
          refine wpAnyH_ready (rs := [7]) (by kernel_rfl) (by simp) (AllReadyH.cons rfl (fun KK hK => ?_) AllReadyH.nil)
          go_simp
          refine (hL.out _ H5.out).mono ?_
          rintro e w6 ⟨rfl, q6, hw6⟩
          have HS6 : Hid (BoxT wr.heap.size (K i) (I i) (X i) rb bt tp w6) := by rw [hw6]; exact HS.out
          have H6 : Hid (Both w b rb gs gp D' (i + 1) w6) := by rw [hw6]; exact H5.out.nob ((But.refl _ _).drewN _)
          clear HS hw6
          have HS := HS6
          refine hK.out _ _ HS.out (fun _ => ?_)
          clear hK KK HS6
          refine wpAnyH_take (i := 18) (v := ?_) rfl (by kernel_rfl) (by kernel_rfl) (by kernel_rfl) (fun _ _ _ h => h) (Or.inl ⟨by rfl, fun W hW => by (obtain ⟨⟨z0, z1, z2⟩, z3, z4⟩ := hW; go_simp <;> with_reducible rfl)⟩) HS.out ?_
          go_simp
          refine wpAnyH_take (i := 19) (v := ?_) rfl (by kernel_rfl) (by kernel_rfl) (by kernel_rfl) (fun _ _ _ h => h) (Or.inl ⟨by rfl, fun W hW => by (obtain ⟨⟨z0, z1, z2⟩, z3, z4⟩ := hW; go_simp <;> with_reducible rfl)⟩) HS.out ?_
          go_simp
          refine wpAnyH_done (by kernel_rfl) ?_ _
          go_wp2_with fail
          all_goals
            go_meet
            exact ⟨rfl, H6.out⟩
        case rest =>
          obtain ⟨rfl, hB⟩ := hcut
          rename World => w5
          have HB5 := Lib.hid hB
          have hth := hB.l.nice.th
          obtain ⟨th, hthe⟩ : ∃ th, th = D'.th := ⟨_, rfl⟩
          rw [← hthe] at hth
          have HTH := Lib.hid hthe
          clear hB hthe HA HX HZW hrw hbw HDD hbb k0 k1
          go_wp2_with fail
          go_loopw [11] (fun q wx => ∃ j : Nat, j ≤ th + 3 ∧ q = .int .i64 ((j : Int) - 1) ∧ Both w b rb gs gp D' (i + 1) wx) (fun q _ => th + 3 - (intOf q + 1).toNat)
          case atStart => exact ⟨0, Nat.zero_le _, rfl, HB5.out⟩
          case round =>
            rename World => wx
            obtain ⟨j, hj, rfl, hS⟩ := hrel
            obtain ⟨P, hv, hr⟩ := id hS.r.v
            obtain ⟨o0, o1, o2, o3, o4⟩ := hv.cells
            rw [← HTH.out] at o4
            by_cases hlj : j < th + 3
            · have PB := dbusy_any ((j : Int) - 1) hS.l.v hS.l.nice.th
              have z1 : (j : Int) - 1 ≤ (th : Int) + 1 := by omega
              have jb : (j : Int) ≤ 20 := by omega
              have j0 : (0 : Int) ≤ (j : Int) := by omega
              have qj : IntKind.i64.wrap ((j : Int) - 1 + 1) = (j : Int) - 1 + 1 := IntWalk.i64_in _ (by omega)
              by_cases hin : 1 ≤ j ∧ j ≤ th + 1
              · obtain ⟨k, rfl⟩ : ∃ k, j = k + 1 := ⟨j - 1, by omega⟩
                have ek : ((k + 1 : Nat) : Int) - 1 = (k : Int) := by omega
                have hk : k ≤ D'.th := by rw [← HTH.out]; omega
                rw [ek] at PB
                rw [inS_yes (by omega), Bool.true_and, Int.toNat_natCast] at PB
                obtain ⟨c0, -⟩ := hv.party hk
                have hcode : (P k).ca = (codeP (D'.cl k).nx).1 := congrArg Prod.fst (hr k hk).code
                have hsame : ((((P k).ca : Nat) : Int) != 0) = busyB D' k := by
                  unfold busyB
                  rw [hcode]
                  by_cases e : (D'.cl k).nx = 0
                  · rw [e]; rfl
                  · have e1 : (codeP (D'.cl k).nx).1 ≠ 0 := by
                      unfold codeP; rw [if_neg e]
                      split
                      · exact (by decide : (1 : Nat) ≠ 0)
                      · split
                        · exact (by decide : (2 : Nat) ≠ 0)
                        · exact (by decide : (3 : Nat) ≠ 0)
                    have e2 : (((codeP (D'.cl k).nx).1 : Nat) : Int) ≠ 0 := fun q => e1 (by omega)
                    have e3 : ((D'.cl k).nx == 0) = false := beq_eq_false_iff_ne.2 e
                    rw [e3]
                    exact bne_iff_ne.2 e2
                obtain ⟨ca, hca⟩ : ∃ ca : Int, ca = (((P k).ca : Nat) : Int) := ⟨_, rfl⟩
                rw [← hca] at c0 hsame
                obtain ⟨bz, hbz⟩ : ∃ bz, bz = busyB D' k := ⟨_, rfl⟩
                rw [← hbz] at PB hsame
                have PB := Lib.hid PB; have HS := Lib.hid hS
                have kk0 : (0 : Int) ≤ (k : Int) := by omega
                have kk1 : (k : Int) < (th : Int) + 1 := by omega
                have kk2 : decide (k < th + 1) = true := decide_eq_true (by omega)
                have kk3 : (k : Int) ≤ (th : Int) + 1 := by omega
                have kk4 : decide (k ≤ th + 1) = true := decide_eq_true (by omega)
                have tb : (bz != bz) = false := by simp
                rw [ek]
                clear hS hv hr hcode hca hbz hin z1 hj hk ek qj jb j0 HB5
                have qj : IntKind.i64.wrap ((k : Int) + 1) = (k : Int) + 1 := IntWalk.i64_in _ (by omega)
                go_wp2_with fail
                refine PB.out.mono ?_
                rintro e wq ⟨rfl, rfl⟩
                go_wp2_with fail
                go_roundw
                case rel => exact ⟨k + 2, by omega, congrArg _ (by omega), HS.out⟩
                case measure => simp [intOf]; omega
              · have hout : inS ((j : Int) - 1) (D'.th + 1) = false := inS_no (by rw [← HTH.out]; omega)
                rw [hout, Bool.false_and] at PB
                have PB := Lib.hid PB; have HS := Lib.hid hS
                have tb : (false != false) = false := rfl
                rcases (by omega : j = 0 ∨ j = th + 2) with rfl | rfl
                · have PB : Hid (Calls Try.prog 13 #[.pointer (some ⟨b, 0, none⟩), .int .i64 (-1)] wx fun e w' => e = .returned (.bool false) ∧ wx = w') := PB
                  rw [show ((0 : Nat) : Int) - 1 = -1 from rfl]
                  have zz : (-1 : Int) ≤ (th : Int) + 1 := by omega
                  clear hS hv hr hout hin z1 hj hlj qj jb j0 HB5
                  go_wp2_with fail
                  refine PB.out.mono ?_
                  rintro e wq ⟨rfl, rfl⟩
                  go_wp2_with fail
                  go_roundw
                  case rel => exact ⟨1, by omega, rfl, HS.out⟩
                  case measure => simp [intOf]
                · have ev : ((th + 2 : Nat) : Int) - 1 = (th : Int) + 1 := by omega
                  rw [ev] at PB ⊢
                  have zz : (0 : Int) ≤ (th : Int) + 1 := by omega
                  have zz2 : ¬ (th : Int) + 1 < 0 := by omega
                  have zz3 : decide ((0 : Int) ≤ (th : Int) + 1) = true := decide_eq_true (by omega)
                  have qs : IntKind.i64.wrap ((th : Int) + 1 + 1) = (th : Int) + 1 + 1 := IntWalk.i64_in _ (by omega)
                  clear hS hv hr hout hin z1 hj hlj qj jb j0 HB5 ev
                  go_wp2_with fail
                  refine PB.out.mono ?_
                  rintro e wq ⟨rfl, rfl⟩
                  go_wp2_with fail
                  go_roundw
                  case rel => exact ⟨th + 3, Nat.le_refl _, congrArg _ (by omega), HS.out⟩
                  case measure => simp [intOf]; omega
            · obtain rfl : j = th + 3 := by omega
              have HS := Lib.hid hS
              have ev : ((th + 3 : Nat) : Int) - 1 = (th : Int) + 2 := by omega
              rw [ev]
              have zz : ¬ (th : Int) + 2 ≤ (th : Int) + 1 := by omega
              have zz3 : decide ((th : Int) + 2 ≤ (th : Int) + 1) = false := decide_eq_false (by omega)
              clear hS hv hr hj hlj HB5 ev
              go_wp2_with fail
              go_roundw
              case rel => exact ⟨i + 1, D', hlt, by go_num, HS.out⟩
              case measure => simp [intOf]; omega
      · obtain rfl : i = N := by omega
        have HS := Lib.hid hS
        clear hS HB
        go_wp2_with fail
        refine (lives28_any _).mono ?_
        rintro e w9 ⟨rfl, h9⟩
        have H9 := Lib.hid h9; clear h9
        go_wp2_with fail
        go_ret
        exact ⟨rfl, HS.out.l.below.trans (H9.out.mono HS.out.l.below.size)⟩
end Go.Proofs.Ytfejimlfnelhhaa
