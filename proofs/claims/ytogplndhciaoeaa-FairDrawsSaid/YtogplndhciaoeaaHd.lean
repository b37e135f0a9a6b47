/- layer 33 (fair): the document's Script. -/
import Derived.Test.YtogplndhciaoeaaHc
import Derived.StillTailTactics
namespace Go.Proofs.Ytogplndhciaoeaa
open Go.RowKit Go.Maps
set_option maxRecDepth 100000

set_option maxHeartbeats 16000000 in
theorem refscript_any (s : Int) (hs : U64 s) (A : Option Addr) (cpus : List Int) (c cap : Nat) (hc : cpus.length = c) (hcl : c ≤ 1000) (progs n : Int) (hp : W64 progs) (N : Nat) (hN : (min n 4096).toNat = N) (w : World) (hR : RowN w.heap.size w A cpus) :
    Calls Try.prog 12 #[.int .u64 s, .slice A c cap, .int .i64 progs, .int .i64 n] w fun e w' => ∃ v, e = .returned v ∧ OwnE w.heap.size w' v (scriptL s cpus progs N) ∧ Below w.heap.size w w' := by
  have HR := Lib.hid hR; have HC := Lib.hid hc; have HP := Lib.hid hp
  have HDR := Lib.hid (refdraws_any s n hs N hN w)
  have HU := Lib.hid (draws_U64 s N)
  have HNL := Lib.hid (drawsL_len s N)
  have hN4 : N ≤ 4096 := by rw [Int.min_def] at hN; split at hN <;> omega
  have HSC : Hid (scriptL s cpus progs N = (drawsL s N).map fun d => entL d cpus progs) := rfl
  generalize scriptL s cpus progs N = SC at *
  clear hN hR hc hp hs
  generalize drawsL s N = D at *
  go_enter Try.func12, Try.ntmps12
  go_upto_region 2 with fail
  go_upto_region 3 with (go_at_call 9; (with_reducible refine HDR.out.mono ?_); rintro e w1 ⟨v, rfl, ho, hb⟩; obtain ⟨Ad, cd, rfl, -, hrd⟩ := ownU_row ho; rw [HNL.out]; have HRD := Lib.hid hrd; have HB1 := Lib.hid hb; clear ho hb hrd)
  clear HDR
  go_loopw [9, 18] (fun rv iv wr => ∃ k : Nat, iv = .int .i64 k ∧ k ≤ N ∧ OwnE w1.heap.size wr rv ((D.take k).map fun d => entL d cpus progs) ∧ Below w1.heap.size w1 wr) (fun _ iv _ => N - (intOf iv).toNat)
  case atStart => exact ⟨0, rfl, Nat.zero_le _, World.ownsRow_nil _ _ _ _, Below.refl _ _⟩
  case round =>
    obtain ⟨k, rfl, hk, ho, hb⟩ := hrel
    have HO := Lib.hid ho; have HB := Lib.hid hb
    have HBW := Lib.hid (HB1.out.trans (hb.mono HB1.out.size))
    clear ho hb
    by_cases hlt : k < N
    · have hkl : k < D.length := by rw [HNL.out]; exact hlt
      obtain ⟨b, o, rfl, -, hcc⟩ := (HRD.out.below HB.out) k hkl
      obtain ⟨d, hd⟩ : ∃ d, D[k] = d := ⟨_, rfl⟩
      rw [hd] at hcc
      have HTK : Hid ((D.take (k + 1)).map (fun d => entL d cpus progs) = (D.take k).map (fun d => entL d cpus progs) ++ [entL d cpus progs]) := by show _ = _; rw [List.take_succ_eq_append_getElem hkl, hd, List.map_append]; rfl
      have HDU := Lib.hid (HU.out d (by rw [← hd]; exact List.getElem_mem _))
      have HLL : Hid (((D.take k).map fun d => entL d cpus progs).length ≤ 100000) := by show _ ≤ _; rw [List.length_map, List.length_take]; omega
      clear hd hkl
      generalize ((D.take k).map fun d => entL d cpus progs) = S at *
      have k0 : (0 : Int) ≤ (k : Int) := by omega
      have k1 : (k : Int) < (N : Int) := by omega
      go_upto_region 6 with fail
      have hbk := Blk.new wr 34 #[.int .i64 2, .int .i64 0, .int .i64 0, .int .i64 0, .int .u64 0]
      have hbw : Below wr.heap.size wr (wr.alloc (.cells #[.int .i64 2, .int .i64 0, .int .i64 0, .int .i64 0, .int .u64 0] 34)) := (Below.refl _ _).alloc (Nat.le_refl _) _
      generalize wr.alloc (.cells #[.int .i64 2, .int .i64 0, .int .i64 0, .int .i64 0, .int .u64 0] 34) = V at *
      obtain ⟨g, hg⟩ : ∃ g, wr.heap.size = g := ⟨_, rfl⟩
      have HGG := Lib.hid hg
      rw [hg] at hbk hbw ⊢
      have HBK := Lib.hid hbk; have HBV := Lib.hid hbw
      clear hbk hbw hg hcc
      have HBY : Hid (∀ W : World, Calls Try.prog 32 #[.int .u64 d, .int .i64 3] W fun e w' => e = .returned (.int .u64 (d / 8)) ∧ W = w') := fun W => by_any d HDU.out 3 (by omega) W
      have HBZ : Hid (∀ W : World, Calls Try.prog 32 #[.int .u64 d, .int .i64 32] W fun e w' => e = .returned (.int .u64 (d / 4294967296)) ∧ w' = W) := fun W => (by_any d HDU.out 32 (by omega) W).mono fun e w' ⟨h1, h2⟩ => ⟨h1, h2.symm⟩
      have hd0 : 0 ≤ d / 8 ∧ d / 8 < 18446744073709551616 := div_U64 HDU.out 8 (by omega)
      have hdd : 0 ≤ d := HDU.out.1
      have hdb := HDU.out.2
      have h8 : Int.tmod d 8 = d % 8 := Int.tmod_eq_emod_of_nonneg hdd
      go_upto_region 7 with (go_at_call 32; (with_reducible refine (HBY.out V).mono ?_); rintro e w3 ⟨rfl, rfl⟩)
      by_cases m1 : d % 8 = 1
      · have m1' : (d % 8 == 1) = true := by rw [m1]; rfl
        have m2 : ¬ (1 : Int) < d % 8 := by omega
        go_upto_region 9 with (with_reducible (show wpList _ _ _ _ _ _); refine stE (d := ⟨3, 0, -1, -1, 0⟩) rfl (.tmp 12) (.tmp 28) rfl g rfl rfl _ HBK.out rfl ?_)
        have hbk1 : Blk (V.setRow g (clE ⟨3, 0, -1, -1, 0⟩).toArray) g 34 (clE ⟨3, 0, -1, -1, 0⟩).toArray := setRow_heap _ _ _ _ _ _ HBK.out
        have hbv1 : Below g wr (V.setRow g (clE ⟨3, 0, -1, -1, 0⟩).toArray) := HBV.out.trans (((But.refl (fun k => g ≤ k) V).row g _ (.inl (Nat.le_refl _))).below (Nat.le_of_lt HBK.out.lt) fun k _ z => z)
        generalize V.setRow g (clE ⟨3, 0, -1, -1, 0⟩).toArray = V1 at *
        by_cases hp1 : 1 < progs
        · have hpb : progs < 9223372036854775808 := by
            have := HP.out; unfold W64 Lit.wf at this
            have h1 : IntKind.i64.min = -9223372036854775808 := by decide
            have h2 : IntKind.i64.max = 9223372036854775807 := by decide
            simp [h1, h2] at this; omega
          have hpw : IntKind.u64.wrap progs = progs := by rw [IntKind.wrap_u64]; omega
          have hpm : Int.tmod (d / 8) progs = d / 8 % progs := Int.tmod_eq_emod_of_nonneg hd0.1
          have hpr := Int.emod_nonneg (d / 8) (show progs ≠ 0 by omega)
          have hpl := Int.emod_lt_of_pos (d / 8) (show 0 < progs by omega)
          have hwr : wrap64 (d / 8 % progs) = d / 8 % progs := by unfold wrap64; omega
          have HX : Hid (entL d cpus progs = ⟨3, d / 8 % progs, -1, -1, 0⟩) := by show _ = _; unfold entL; rw [if_pos m1, if_pos hp1]
          have y1 : V1.cell? ⟨g, 1, none⟩ = some (.int .i64 0) := hbk1.cell 1
          have yf : V1.frozen? ⟨g, 1, none⟩ = false := hbk1.free 1
          have hbk2 : Blk (V1.setCell ⟨g, 1, none⟩ (.int .i64 (d / 8 % progs))) g 34 #[.int .i64 3, .int .i64 (d / 8 % progs), .int .i64 (-1), .int .i64 (-1), .int .u64 0] := hbk1.set_ 1 _
          have hbv2 : Below g wr (V1.setCell ⟨g, 1, none⟩ (.int .i64 (d / 8 % progs))) := hbv1.trans (((But.refl (fun k => g ≤ k) V1).set ⟨g, 1, none⟩ _ (.inl (Nat.le_refl _))).below (Nat.le_of_lt hbk1.lt) fun k _ z => z)
          have HBK2 := Lib.hid hbk2; have HBV2 := Lib.hid hbv2
          clear hbk2 hbv2 hbk1 hbv1
          go_upto_region 11 with fail
          clear y1 yf
          generalize V1.setCell ⟨g, 1, none⟩ (.int .i64 (d / 8 % progs)) = V2 at *
          go_upto_region 13 with fail
          have e0 : V2.cell? ⟨g, 0, none⟩ = some (.int .i64 3) := HBK2.out.cell 0
          have e1 : V2.cell? ⟨g, 1, none⟩ = some (.int .i64 (d / 8 % progs)) := HBK2.out.cell 1
          have e2 : V2.cell? ⟨g, 2, none⟩ = some (.int .i64 (-1)) := HBK2.out.cell 2
          have e3 : V2.cell? ⟨g, 3, none⟩ = some (.int .i64 (-1)) := HBK2.out.cell 3
          have e4 : V2.cell? ⟨g, 4, none⟩ = some (.int .u64 0) := HBK2.out.cell 4
          have HO3 : Hid (OwnE w1.heap.size V2 u9 S) := ownE_on HO.out (by rw [HGG.out]; exact HBV2.out)
          have HSZ : Hid (w1.heap.size ≤ V2.heap.size) := Nat.le_trans HB.out.size HBV2.out.size
          go_wp2_with (with_reducible (show wpList _ _ _ _ _ _); refine app_e rfl (.tmp 56) (.tmp 58) rfl w1.heap.size _ S rfl (HO3.out.alloc _) V2.heap.size 1 ⟨3, (d / 8 % progs), (-1), (-1), 0⟩ rfl (Blk.new V2 _ _) HLL.out (by have := HSZ.out; simp; omega) ?_; intro v5 w5 ho5 hg5; have HO5 := Lib.hid ho5; have HG5 := Lib.hid hg5; clear ho5 hg5)
          go_roundw
          case rel =>
            have hB13 : Below w1.heap.size w1 V2 := HB.out.trans (HBV2.out.mono (by rw [← HGG.out]; exact HB.out.size))
            refine ⟨k + 1, rfl, by omega, by rw [HTK.out, HX.out]; exact HO5.out, ?_⟩
            have h1 : Below w1.heap.size w1 (V2.alloc (.cells (clE ⟨3, (d / 8 % progs), (-1), (-1), 0⟩).toArray 34)) := hB13.alloc hB13.size _
            exact h1.grown HG5.out (by simp; have := hB13.size; omega) (fun r e => (HO3.out.lt r e).1)
          case measure => simp [intOf]; omega
        · have HX : Hid (entL d cpus progs = ⟨3, 0, -1, -1, 0⟩) := by show _ = _; unfold entL; rw [if_pos m1, if_neg hp1]
          have HBK2 := Lib.hid hbk1; have HBV2 := Lib.hid hbv1
          clear hbk1 hbv1
          go_upto_region 13 with fail
          have e0 : V1.cell? ⟨g, 0, none⟩ = some (.int .i64 3) := HBK2.out.cell 0
          have e1 : V1.cell? ⟨g, 1, none⟩ = some (.int .i64 0) := HBK2.out.cell 1
          have e2 : V1.cell? ⟨g, 2, none⟩ = some (.int .i64 (-1)) := HBK2.out.cell 2
          have e3 : V1.cell? ⟨g, 3, none⟩ = some (.int .i64 (-1)) := HBK2.out.cell 3
          have e4 : V1.cell? ⟨g, 4, none⟩ = some (.int .u64 0) := HBK2.out.cell 4
          have HO3 : Hid (OwnE w1.heap.size V1 u9 S) := ownE_on HO.out (by rw [HGG.out]; exact HBV2.out)
          have HSZ : Hid (w1.heap.size ≤ V1.heap.size) := Nat.le_trans HB.out.size HBV2.out.size
          go_wp2_with (with_reducible (show wpList _ _ _ _ _ _); refine app_e rfl (.tmp 56) (.tmp 58) rfl w1.heap.size _ S rfl (HO3.out.alloc _) V1.heap.size 1 ⟨3, 0, (-1), (-1), 0⟩ rfl (Blk.new V1 _ _) HLL.out (by have := HSZ.out; simp; omega) ?_; intro v5 w5 ho5 hg5; have HO5 := Lib.hid ho5; have HG5 := Lib.hid hg5; clear ho5 hg5)
          go_roundw
          case rel =>
            have hB13 : Below w1.heap.size w1 V1 := HB.out.trans (HBV2.out.mono (by rw [← HGG.out]; exact HB.out.size))
            refine ⟨k + 1, rfl, by omega, by rw [HTK.out, HX.out]; exact HO5.out, ?_⟩
            have h1 : Below w1.heap.size w1 (V1.alloc (.cells (clE ⟨3, 0, (-1), (-1), 0⟩).toArray 34)) := hB13.alloc hB13.size _
            exact h1.grown HG5.out (by simp; have := hB13.size; omega) (fun r e => (HO3.out.lt r e).1)
          case measure => simp [intOf]; omega
      · have m1' : (d % 8 == 1) = false := by rw [beq_eq_false_iff_ne]; exact m1
        by_cases m0 : d % 8 = 0
        · have m2 : ¬ (1 : Int) < d % 8 := by omega
          have HX : Hid (entL d cpus progs = ⟨2, 0, 0, 0, 0⟩) := by show _ = _; unfold entL; rw [if_neg m1, if_pos (.inl m0)]
          have HBK2 := HBK; have HBV2 := HBV
          go_upto_region 13 with fail
          have e0 : V.cell? ⟨g, 0, none⟩ = some (.int .i64 2) := HBK2.out.cell 0
          have e1 : V.cell? ⟨g, 1, none⟩ = some (.int .i64 0) := HBK2.out.cell 1
          have e2 : V.cell? ⟨g, 2, none⟩ = some (.int .i64 0) := HBK2.out.cell 2
          have e3 : V.cell? ⟨g, 3, none⟩ = some (.int .i64 0) := HBK2.out.cell 3
          have e4 : V.cell? ⟨g, 4, none⟩ = some (.int .u64 0) := HBK2.out.cell 4
          have HO3 : Hid (OwnE w1.heap.size V u9 S) := ownE_on HO.out (by rw [HGG.out]; exact HBV2.out)
          have HSZ : Hid (w1.heap.size ≤ V.heap.size) := Nat.le_trans HB.out.size HBV2.out.size
          go_wp2_with (with_reducible (show wpList _ _ _ _ _ _); refine app_e rfl (.tmp 56) (.tmp 58) rfl w1.heap.size _ S rfl (HO3.out.alloc _) V.heap.size 1 ⟨2, 0, 0, 0, 0⟩ rfl (Blk.new V _ _) HLL.out (by have := HSZ.out; simp; omega) ?_; intro v5 w5 ho5 hg5; have HO5 := Lib.hid ho5; have HG5 := Lib.hid hg5; clear ho5 hg5)
          go_roundw
          case rel =>
            have hB13 : Below w1.heap.size w1 V := HB.out.trans (HBV2.out.mono (by rw [← HGG.out]; exact HB.out.size))
            refine ⟨k + 1, rfl, by omega, by rw [HTK.out, HX.out]; exact HO5.out, ?_⟩
            have h1 : Below w1.heap.size w1 (V.alloc (.cells (clE ⟨2, 0, 0, 0, 0⟩).toArray 34)) := hB13.alloc hB13.size _
            exact h1.grown HG5.out (by simp; have := hB13.size; omega) (fun r e => (HO3.out.lt r e).1)
          case measure => simp [intOf]; omega
        · have m2 : (1 : Int) < d % 8 := by omega
          by_cases c0 : c = 0
          · have HX : Hid (entL d cpus progs = ⟨2, 0, 0, 0, 0⟩) := by show _ = _; unfold entL; rw [if_neg m1, if_pos (.inr (HC.out.trans c0))]
            subst c0
            have HBK2 := HBK; have HBV2 := HBV
            go_upto_region 13 with fail
            have e0 : V.cell? ⟨g, 0, none⟩ = some (.int .i64 2) := HBK2.out.cell 0
            have e1 : V.cell? ⟨g, 1, none⟩ = some (.int .i64 0) := HBK2.out.cell 1
            have e2 : V.cell? ⟨g, 2, none⟩ = some (.int .i64 0) := HBK2.out.cell 2
            have e3 : V.cell? ⟨g, 3, none⟩ = some (.int .i64 0) := HBK2.out.cell 3
            have e4 : V.cell? ⟨g, 4, none⟩ = some (.int .u64 0) := HBK2.out.cell 4
            have HO3 : Hid (OwnE w1.heap.size V u9 S) := ownE_on HO.out (by rw [HGG.out]; exact HBV2.out)
            have HSZ : Hid (w1.heap.size ≤ V.heap.size) := Nat.le_trans HB.out.size HBV2.out.size
            go_wp2_with (with_reducible (show wpList _ _ _ _ _ _); refine app_e rfl (.tmp 56) (.tmp 58) rfl w1.heap.size _ S rfl (HO3.out.alloc _) V.heap.size 1 ⟨2, 0, 0, 0, 0⟩ rfl (Blk.new V _ _) HLL.out (by have := HSZ.out; simp; omega) ?_; intro v5 w5 ho5 hg5; have HO5 := Lib.hid ho5; have HG5 := Lib.hid hg5; clear ho5 hg5)
            go_roundw
            case rel =>
              have hB13 : Below w1.heap.size w1 V := HB.out.trans (HBV2.out.mono (by rw [← HGG.out]; exact HB.out.size))
              refine ⟨k + 1, rfl, by omega, by rw [HTK.out, HX.out]; exact HO5.out, ?_⟩
              have h1 : Below w1.heap.size w1 (V.alloc (.cells (clE ⟨2, 0, 0, 0, 0⟩).toArray 34)) := hB13.alloc hB13.size _
              exact h1.grown HG5.out (by simp; have := hB13.size; omega) (fun r e => (HO3.out.lt r e).1)
            case measure => simp [intOf]; omega
          · have c0' : (0 : Int) < (c : Int) := by omega
            have c1 : ¬ (c : Int) = 0 := by omega
            obtain ⟨q, hq0⟩ : ∃ q : Nat, d / 8 = q := ⟨(d / 8).toNat, by omega⟩
            have hmm : q % c < c := Nat.mod_lt _ (by omega)
            have HBVW : Hid (Below w.heap.size w V) := HBW.out.trans (HBV.out.mono (by rw [← HGG.out]; exact HBW.out.size))
            obtain ⟨b7, o7, rfl, -, hcc⟩ := (HR.out.below HBVW.out) (q % c) (by rw [HC.out]; exact hmm)
            have HX : Hid (entL d cpus progs = ⟨1, cpus[q % c]'(by rw [HC.out]; exact hmm), 0, 0, d / 4294967296⟩) := by
              show _ = _
              unfold entL
              have e : (d / 8).toNat % cpus.length = q % c := by rw [HC.out, hq0]; rfl
              rw [if_neg m1, if_neg (by rw [HC.out]; omega), e, List.getD_eq_getElem?_getD, List.getElem?_eq_getElem (by rw [HC.out]; exact hmm)]; rfl
            generalize cpus[q % c]'(by rw [HC.out]; exact hmm) = x at *
            have hmod : d / 8 % (c : Int) = ((q % c : Nat) : Int) := by rw [hq0]; first | exact (Int.natCast_emod q c).symm | rfl
            have htm : Int.tmod (d / 8) (c : Int) = d / 8 % (c : Int) := Int.tmod_eq_emod_of_nonneg hd0.1
            have n0 : (0 : Int) ≤ d / 8 % (c : Int) := by rw [hmod]; omega
            have n1 : d / 8 % (c : Int) < (c : Int) := by rw [hmod]; omega
            have n2 : (d / 8 % (c : Int)).toNat = q % c := by rw [hmod]; rfl
            have hcw : IntKind.u64.wrap (c : Int) = (c : Int) := by rw [IntKind.wrap_u64]; omega
            clear hmod hq0
            go_upto_region 12 with fail
            refine wp_region_still_tail 11 (by kernel_rfl) (by kernel_rfl) ?_
            simp only [List.take_succ_cons, List.take_zero, List.drop_succ_cons, List.drop_zero]
            still_step; still_step; still_step; still_step; still_step; still_step; still_step; still_step; still_step
            still_call (HBZ.out _)
            still_step
            refine wpStill_nil ?_
            change wpList _ _ _ _ _ V.drew
            refine stE (d := ⟨1, x, 0, 0, d / 4294967296⟩) rfl (.tmp 12) (.tmp 55) rfl g rfl rfl _ (show Blk V.drew g _ _ from HBK.out) rfl ?_
            have hbk1 : Blk (V.drew.setRow g (clE ⟨1, x, 0, 0, d / 4294967296⟩).toArray) g 34 (clE ⟨1, x, 0, 0, d / 4294967296⟩).toArray := setRow_heap _ _ _ _ _ _ (show Blk V.drew g _ _ from HBK.out)
            have hbv1 : Below g wr (V.drew.setRow g (clE ⟨1, x, 0, 0, d / 4294967296⟩).toArray) := HBV.out.trans (((But.refl (fun k => g ≤ k) V).drew.row g _ (.inl (Nat.le_refl _))).below (Nat.le_of_lt HBK.out.lt) fun k _ z => z)
            generalize V.drew.setRow g (clE ⟨1, x, 0, 0, d / 4294967296⟩).toArray = V1 at *
            have HBK2 := Lib.hid hbk1; have HBV2 := Lib.hid hbv1
            clear hbk1 hbv1 hcc
            go_upto_region 13 with fail
            have e0 : V1.cell? ⟨g, 0, none⟩ = some (.int .i64 1) := HBK2.out.cell 0
            have e1 : V1.cell? ⟨g, 1, none⟩ = some (.int .i64 x) := HBK2.out.cell 1
            have e2 : V1.cell? ⟨g, 2, none⟩ = some (.int .i64 0) := HBK2.out.cell 2
            have e3 : V1.cell? ⟨g, 3, none⟩ = some (.int .i64 0) := HBK2.out.cell 3
            have e4 : V1.cell? ⟨g, 4, none⟩ = some (.int .u64 (d / 4294967296)) := HBK2.out.cell 4
            have HO3 : Hid (OwnE w1.heap.size V1 u9 S) := ownE_on HO.out (by rw [HGG.out]; exact HBV2.out)
            have HSZ : Hid (w1.heap.size ≤ V1.heap.size) := Nat.le_trans HB.out.size HBV2.out.size
            go_wp2_with (with_reducible (show wpList _ _ _ _ _ _); refine app_e rfl (.tmp 56) (.tmp 58) rfl w1.heap.size _ S rfl (HO3.out.alloc _) V1.heap.size 1 ⟨1, x, 0, 0, (d / 4294967296)⟩ rfl (Blk.new V1 _ _) HLL.out (by have := HSZ.out; simp; omega) ?_; intro v5 w5 ho5 hg5; have HO5 := Lib.hid ho5; have HG5 := Lib.hid hg5; clear ho5 hg5)
            go_roundw
            case rel =>
              have hB13 : Below w1.heap.size w1 V1 := HB.out.trans (HBV2.out.mono (by rw [← HGG.out]; exact HB.out.size))
              refine ⟨k + 1, rfl, by omega, by rw [HTK.out, HX.out]; exact HO5.out, ?_⟩
              have h1 : Below w1.heap.size w1 (V1.alloc (.cells (clE ⟨1, x, 0, 0, (d / 4294967296)⟩).toArray 34)) := hB13.alloc hB13.size _
              exact h1.grown HG5.out (by simp; have := hB13.size; omega) (fun r e => (HO3.out.lt r e).1)
            case measure => simp [intOf]; omega
    · obtain rfl : k = N := by omega
      have HT : Hid (D.take k = D) := by show _ = _; rw [← HNL.out, List.take_length]
      go_wp2_with fail
      go_ret
      rw [HSC.out]
      have h := HO.out
      rw [HT.out] at h
      exact ⟨_, rfl, ownE_base h HB1.out.size, HBW.out⟩
end Go.Proofs.Ytogplndhciaoeaa
