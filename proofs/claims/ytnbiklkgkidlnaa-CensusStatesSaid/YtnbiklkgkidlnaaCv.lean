/- layer 35 (census): CensusStates' walk. -/
import Derived.Test.YtnbiklkgkidlnaaCu
namespace Go.Proofs.Ytnbiklkgkidlnaa
open Go.RowKit Go.Shelf Go.Maps
set_option maxRecDepth 100000

theorem infoFl : (Try.prog.info? 28).map (·.size) = some 19 := by kernel_rfl
theorem inS_take (j : Nat) (L : List TkS) {k : Nat} {x : TkS} (hx : L[k]? = some x) : inS j (L.take (k + 1)) = inS j (L.take k) + if x.st = ((j : Nat) : Int) then 1 else 0 := by
  have hk := (List.getElem?_eq_some_iff.1 hx).1
  rw [List.take_succ_eq_append_getElem hk, inS_snoc, (List.getElem?_eq_some_iff.1 hx).2]
set_option maxHeartbeats 16000000 in
theorem censusStates_any (A : Option Addr) (L : List TkS) (n cap : Nat) (R : List Value) (hRl : R.length = 18) (hn : L.length = n) (w : World) (hR : RowT w.heap.size w A L) :
    Calls Try.prog 3 #[.agg (.slice A n cap :: R).toArray] w fun e w' => e = .returned (.bool true) ∧ Below w.heap.size w w' := by
  have b0 := Blk.new w 28 (.slice A n cap :: R).toArray
  have hbl : Below w.heap.size w (w.alloc (.cells (.slice A n cap :: R).toArray 28)) := (Below.refl _ w).alloc (Nat.le_refl _) _
  have hRV := (hR.below hbl).mono hbl.size
  have c0 := b0.cell 0
  rw [show ((Value.slice A n cap :: R).toArray)[0]? = some (.slice A n cap) by simp] at c0
  have HL := Lib.hid hn
  clear hR hn
  go_enter Try.func3, Try.ntmps3
  go_upto_region 1 with fail
  generalize w.alloc (.cells (.slice A n cap :: R).toArray 28) = V at *
  obtain ⟨g, hg⟩ : ∃ g, w.heap.size = g := ⟨_, rfl⟩
  have HG := Lib.hid hg
  rw [hg] at b0 hbl c0 ⊢
  clear hg
  have HB0 := Lib.hid b0; have HBL := Lib.hid hbl; have HRV := Lib.hid hRV
  have hgV : g ≤ V.heap.size := Nat.le_of_lt b0.lt
  clear b0 hbl hRV
  by_cases hlong : 60 < n
  · have t0 : (60 : Int) < (n : Int) := by omega
    go_wp2_with (go_at_call 6; (with_reducible refine (lives35_any _).mono ?_); rintro e w4 ⟨rfl, hb4⟩; have HB4 := Lib.hid hb4; clear hb4)
    go_ret
    rw [HG.out]
    exact ⟨rfl, HBL.out.trans (HB4.out.mono hgV)⟩
  · have t0 : ¬ (60 : Int) < (n : Int) := by omega
    have HST := Lib.hid (states_any A L n cap R HL.out (by omega) V HRV.out)
    have HRG := Lib.hid (blk_range HB0.out)
    have HID : Hid ((Try.prog.info? 28).map (·.size) = some (.slice A n cap :: R : List Value).length) := by show _ = _; rw [infoFl, List.length_cons, hRl]
    have HL9 : Hid ((statL L).length = 9) := statL_len L
    have HGET : Hid (∀ j, j < 9 → (cN (statL L)).toArray[j]? = some (.int .i64 (inS j L : Nat))) := fun j hj => by
      have h := statL_get L j hj
      have hl : j < (statL L).length := by rw [statL_len]; exact hj
      rw [cN_at _ _ hl]
      rw [List.getElem?_eq_getElem hl] at h
      rw [Option.some.inj h]
    go_upto_region 4 with (first
      | (with_reducible (show wpList _ _ _ _ _ _); refine wpList_load_mid rfl 28 (.tmp 1) rfl g 0 rfl (.slice A n cap :: R) _ HRG.out Try.underlying28 rfl HID.out ?_)
      | (go_at_call 7; (with_reducible refine HST.out.mono ?_); rintro e w1 ⟨rfl, hb1⟩; have HB1 := Lib.hid hb1; clear hb1)
      | (with_reducible (show wpList _ _ _ _ _ _); refine st9 HL9.out rfl (.tmp 3) (.tmp 14) rfl w1.heap.size rfl rfl _ (Blk.new w1 _ _) rfl ?_))
    clear c0 HRG HID HST
    have hbx : Blk ((w1.alloc (.cells #[.int .i64 0, .int .i64 0, .int .i64 0, .int .i64 0, .int .i64 0, .int .i64 0, .int .i64 0, .int .i64 0, .int .i64 0] 30)).setRow w1.heap.size (cN (statL L)).toArray) w1.heap.size 30 (cN (statL L)).toArray := setRow_heap _ _ _ _ _ _ (Blk.new w1 _ _)
    have hbw : Below w1.heap.size w1 ((w1.alloc (.cells #[.int .i64 0, .int .i64 0, .int .i64 0, .int .i64 0, .int .i64 0, .int .i64 0, .int .i64 0, .int .i64 0, .int .i64 0] 30)).setRow w1.heap.size (cN (statL L)).toArray) := (((But.of_below (X := fun k => w1.heap.size ≤ k) (Below.refl _ _)).alloc _).row _ _ (.inl (Nat.le_refl _))).below (Nat.le_refl _) fun k _ z => z
    generalize (w1.alloc (.cells #[.int .i64 0, .int .i64 0, .int .i64 0, .int .i64 0, .int .i64 0, .int .i64 0, .int .i64 0, .int .i64 0, .int .i64 0] 30)).setRow w1.heap.size (cN (statL L)).toArray = X at *
    have HX := Lib.hid (HB1.out.trans (hbw.mono HB1.out.size))
    obtain ⟨g3, hg3⟩ : ∃ g3, w1.heap.size = g3 := ⟨_, rfl⟩
    rw [hg3] at hbx ⊢
    have HX3 := Lib.hid hbx
    clear hbx hbw hg3
    have HRX := Lib.hid (HRV.out.below HX.out)
    have HX0 := Lib.hid (HB0.out.below HX.out HB0.out.lt)
    have hgX : g ≤ X.heap.size := Nat.le_trans hgV HX.out.size
    go_wp2_with fail
    go_loopw [15] (fun jv wr => ∃ j : Nat, jv = .int .i64 j ∧ j ≤ 9 ∧ Below X.heap.size X wr) (fun jv _ => 9 - (intOf jv).toNat)
    case atStart => exact ⟨0, rfl, Nat.zero_le _, Below.refl _ _⟩
    case round =>
      obtain ⟨j, rfl, hj, hb⟩ := hrel
      have HB := Lib.hid hb
      clear hb
      by_cases hj9 : j < 9
      · have j0 : (0 : Int) ≤ (j : Int) := by omega
        have j1 : (j : Int) < 9 := by omega
        have c0 : wr.cell? ⟨g, 0, none⟩ = some (.slice A n cap) := by
          rw [(HX0.out.below HB.out HX0.out.lt).cell]; simp
        obtain ⟨w2, hw2⟩ : ∃ x, x = wr := ⟨_, rfl⟩
        subst hw2
        go_wp2_with fail
        clear c0
        go_loopw [5, 21] (fun nv iv wr => ∃ k : Nat, nv = .int .i64 (inS j (L.take k) : Nat) ∧ iv = .int .i64 k ∧ k ≤ n ∧ Below X.heap.size X wr) (fun _ iv _ => n - (intOf iv).toNat)
        case atStart => exact ⟨0, by simp [inS], rfl, Nat.zero_le _, HB.out⟩
        case round =>
          obtain ⟨k, rfl, rfl, hk, hb⟩ := hrel
          have HB2 := Lib.hid hb
          clear hb
          by_cases hlt : k < n
          · obtain ⟨x, hx⟩ : ∃ x, L[k]? = some x := ⟨_, List.getElem?_eq_getElem (by rw [HL.out]; exact hlt)⟩
            obtain ⟨b, o, rfl, hbn, hr⟩ := ((HRX.out.mono HX.out.size).below HB2.out) k x hx
            have HRG := Lib.hid hr
            have HID : Hid ((Try.prog.info? 34).map (·.size) = some (tkC x).length) := by show _ = _; rw [infoTk, tkC_len]
            have ht := inS_take j L hx
            have hle : inS j (L.take k) ≤ n := by have := inS_le j (L.take k); rw [List.length_take] at this; omega
            obtain ⟨y, hy⟩ : ∃ y, inS j (L.take k) = y := ⟨_, rfl⟩
            rw [hy] at ht hle ⊢
            have HT := Lib.hid ht
            have k0 : (0 : Int) ≤ (k : Int) := by omega
            have k1 : (k : Int) < (n : Int) := by omega
            clear hr hx ht hy
            go_upto_region 11 with (first
              | (with_reducible (show wpList _ _ _ _ _ _); refine wpList_load_mid rfl 34 (.tmp 23) rfl b (o + k * 8) rfl (tkC x) _ HRG.out Try.underlying34 rfl HID.out ?_)
              | (with_reducible (show wpList _ _ _ _ _ _); refine stT rfl (.tmp 7) (.tmp 24) rfl wr.heap.size rfl rfl _ (Blk.new wr _ _) rfl ?_))
            have hbx : Blk ((wr.alloc (.cells #[.int .i64 0, .int .i64 0, .int .i32 0, .int .i32 0, .int .i32 0, .int .i32 0, .int .i64 0, .int .i64 0] 34)).setRow wr.heap.size (tkC x).toArray) wr.heap.size 34 (tkC x).toArray := setRow_heap _ _ _ _ _ _ (Blk.new wr _ _)
            have hbw : Below wr.heap.size wr ((wr.alloc (.cells #[.int .i64 0, .int .i64 0, .int .i32 0, .int .i32 0, .int .i32 0, .int .i32 0, .int .i64 0, .int .i64 0] 34)).setRow wr.heap.size (tkC x).toArray) := (((But.of_below (X := fun k => wr.heap.size ≤ k) (Below.refl _ _)).alloc _).row _ _ (.inl (Nat.le_refl _))).below (Nat.le_refl _) fun k _ z => z
            generalize (wr.alloc (.cells #[.int .i64 0, .int .i64 0, .int .i32 0, .int .i32 0, .int .i32 0, .int .i32 0, .int .i64 0, .int .i64 0] 34)).setRow wr.heap.size (tkC x).toArray = V' at *
            have HBV := Lib.hid (HB2.out.trans (hbw.mono HB2.out.size))
            clear hbw HRG HID HB2
            generalize wr.heap.size = gg at *
            obtain ⟨xa, xb, xc, xd, xe, xf, st, xon⟩ := x
            have e6 : V'.cell? ⟨gg, 6, none⟩ = some (.int .i64 st) := hbx.cell 6
            clear hbx
            have hyw : wrap64 ((y : Int) + 1) = (y : Int) + 1 := by unfold wrap64; omega
            by_cases hst : st = (j : Int)
            · have HTT : Hid (inS j (L.take (k + 1)) = y + 1) := by show _ = _; rw [HT.out, if_pos hst]
              subst hst
              go_wp2_with fail
              go_roundw
              case rel => exact ⟨k + 1, by rw [HTT.out]; go_num, by go_num, by omega, HBV.out⟩
              case measure => simp [intOf]; omega
            · have HTT : Hid (inS j (L.take (k + 1)) = y) := by show _ = _; rw [HT.out, if_neg hst]; rfl
              go_wp2_with fail
              go_roundw
              case rel => exact ⟨k + 1, by rw [HTT.out], by go_num, by omega, HBV.out⟩
              case measure => simp [intOf]; omega
          · obtain rfl : k = n := by omega
            have tk : ¬ (k : Int) < (k : Int) := by omega
            have HE : Hid (L.take k = L) := by show _ = _; rw [← HL.out, List.take_length]
            rw [HE.out]
            have e0 := ((HX3.out.below HB2.out HX3.out.lt).cell j).trans (HGET.out j hj9)
            generalize inS j L = y at *
            have ty : ((y : Int) != (y : Int)) = false := by simp
            go_wp2_with fail
            go_roundw
            case rel => exact ⟨j + 1, by go_num, by omega, HB2.out⟩
            case measure => simp [intOf]; omega
      · obtain rfl : j = 9 := by omega
        go_wp2_with (go_at_call 6; (with_reducible refine (lives35_any _).mono ?_); rintro e w4 ⟨rfl, hb4⟩; have HB4 := Lib.hid hb4; clear hb4)
        go_ret
        have z1 := HB.out.trans (HB4.out.mono HB.out.size)
        have z2 := HX.out.trans (z1.mono HX.out.size)
        rw [HG.out]
        exact ⟨rfl, HBL.out.trans (z2.mono hgV)⟩
end Go.Proofs.Ytnbiklkgkidlnaa
