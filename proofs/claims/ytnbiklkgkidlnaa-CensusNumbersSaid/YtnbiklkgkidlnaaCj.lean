/- layer 35 (census): CensusNumbers' walk. -/
import Derived.Test.YtnbiklkgkidlnaaCi
namespace Go.Proofs.Ytnbiklkgkidlnaa
open Go.RowKit Go.Shelf Go.Maps
set_option maxRecDepth 100000

theorem cnt_row {w : World} {g : Nat} {c : List Nat} (hg : Blk w g 3 (cN c).toArray) : RowN w.heap.size w (some ⟨g, 0, none⟩) (c.map fun k : Nat => (k : Int)) := fun i hi => by
  rw [List.length_map] at hi
  refine ⟨g, 0, rfl, hg.lt, ?_⟩
  rw [hg.cell, Nat.zero_add, cN_at c i hi, List.getElem_map]
set_option maxHeartbeats 16000000 in
theorem numbers35_any (A A2 : Option Addr) (l0 bs0 : List Int) (n cap m cap2 : Nat) (p : Int) (hn : l0.length = n) (hm : bs0.length = m) (hc : n ≤ cap) (hc2 : m ≤ cap2) (w : World) (hR : RowN w.heap.size w A l0) (hN : RowN w.heap.size w A2 bs0) :
    Calls Try.prog 4 #[.slice A n cap, .slice A2 m cap2, .int .i64 p] w fun e w' => e = .returned (.bool true) ∧ Below w.heap.size w w' := by
  obtain ⟨n', hn'⟩ : ∃ n', n' = min n 60 := ⟨_, rfl⟩
  obtain ⟨m', hm'⟩ : ∃ m', m' = min m 20 := ⟨_, rfl⟩
  have q1 : (n ≤ 60 ∧ n' = n) ∨ (60 < n ∧ n' = 60) := by omega
  have q2 : (m ≤ 20 ∧ m' = m) ∨ (20 < m ∧ m' = 20) := by omega
  have HL : Hid ((l0.take n').length = n') := by show _ = _; rw [List.length_take]; omega
  have HM : Hid ((bs0.take m').length = m') := by show _ = _; rw [List.length_take]; omega
  have HR := Lib.hid (hR.take n'); have HN := Lib.hid (hN.take m')
  have hn60 : n' ≤ 60 := by omega
  have hm20 : m' ≤ 20 := by omega
  clear hn hm hR hN hn' hm'
  generalize l0.take n' = l at *
  generalize bs0.take m' = bs at *
  go_enter Try.func4, Try.ntmps4
  go_upto_region 1 with fail
  go_cut [0, 1] (fun s t wx => s = .slice A n' cap ∧ t = .slice A2 m' cap2 ∧ Below w.heap.size w wx)
  case rest =>
    obtain ⟨rfl, rfl, hb⟩ := hcut
    obtain ⟨wx, hwx⟩ : ∃ wx, wx = wc := ⟨_, rfl⟩
    subst hwx
    clear q1 q2 hc hc2
    have HRX := Lib.hid ((HR.out.below hb).mono hb.size)
    have HNX := Lib.hid ((HN.out.below hb).mono hb.size)
    have HB0 := Lib.hid hb
    clear hb HR HN
    have hmk := make_zeros (m' + 1) (by omega) wx
    have hm1 : ((m' + 1 : Nat) : Int) = (m' : Int) + 1 := by omega
    rw [hm1] at hmk
    have hw1 : wrap64 ((m' : Int) + 1) = (m' : Int) + 1 := by unfold wrap64; omega
    have hbl : Below wx.heap.size wx (wx.alloc (.cells (cN (List.replicate (m' + 1) 0)).toArray 3)) := (Below.refl _ wx).alloc (Nat.le_refl _) _
    have hbk := Blk.new wx 3 (cN (List.replicate (m' + 1) 0)).toArray
    obtain ⟨g, hg⟩ : ∃ g, wx.heap.size = g := ⟨_, rfl⟩
    rw [hg] at hmk hbl hbk HRX HNX
    have HG := Lib.hid hg
    clear hg
    have H0 : Hid (histL bs [] = List.replicate (m' + 1) 0) := by show _ = _; rw [← HM.out]; rfl
    rw [← H0.out] at hbk hbl hmk
    go_upto_region 3 with fail
    clear hmk
    generalize wx.alloc (.cells (cN (histL bs [])).toArray 3) = V at *
    have HBL := Lib.hid hbl; have HBK := Lib.hid hbk
    clear hbl hbk
    go_wp2_with fail
    go_loopw [28] (fun iv wr => ∃ k : Nat, iv = .int .i64 k ∧ k ≤ n' ∧ Below g wx wr ∧ Blk wr g 3 (cN (histL bs (l.take k))).toArray) (fun iv _ => n' - (intOf iv).toNat)
    case atStart => exact ⟨0, rfl, Nat.zero_le _, HBL.out, by rw [List.take_zero]; exact HBK.out⟩
    case round =>
      obtain ⟨k, rfl, hk, hb, hc⟩ := hrel
      have HB := Lib.hid hb; have HC := Lib.hid hc
      have hgr : g ≤ wr.heap.size := by have := hb.size; have := HG.out; omega
      clear hb hc
      by_cases hlt : k < n'
      · have hkl : k < l.length := by rw [HL.out]; exact hlt
        obtain ⟨b, o, rfl, -, hx⟩ := (HRX.out.below HB.out) k hkl
        have hT := histL_take bs l hkl
        generalize l[k] = x at *
        have k0 : (0 : Int) ≤ (k : Int) := by omega
        have k1 : (k : Int) < (n' : Int) := by omega
        have HSL := Lib.hid (refslot_any A2 bs m' cap2 HM.out (by omega) x wr ((HNX.out.below HB.out).mono hgr))
        obtain ⟨s, hs⟩ : ∃ s, slotF bs x = s := ⟨_, rfl⟩
        rw [hs] at HSL
        have hsm : s ≤ m' := by have := slotF_le bs x; rw [HM.out] at this; omega
        have hcl : s < (histL bs (l.take k)).length := by rw [histL_len, HM.out]; omega
        obtain ⟨y, hy⟩ : ∃ y, (histL bs (l.take k))[s] = y := ⟨_, rfl⟩
        have hyn : y ≤ n' := by
          have := histL_le bs (l.take k) (x := y) (by rw [← hy]; exact List.getElem_mem hcl)
          rw [List.length_take] at this; omega
        rw [hs, bump_at _ _ hcl, hy] at hT
        have hat := cN_at (histL bs (l.take k)) s hcl
        rw [hy] at hat
        have HT := Lib.hid hT
        have e0 := (HC.out.cell s).trans hat
        have f0 := HC.out.free s
        clear hT hat hcl hy hs hkl
        have hyw : wrap64 ((y : Int) + 1) = (y : Int) + 1 := by unfold wrap64; omega
        have HY1 : Hid (((y : Int) + 1) = ((y + 1 : Nat) : Int)) := by show _ = _; omega
        have s0 : ¬ (s : Int) < 0 := by omega
        have s1 : (s : Int) < (m' : Int) + 1 := by omega
        go_wp2_with (go_at_call 8; (with_reducible refine HSL.out.mono ?_); rintro e w3 ⟨rfl, rfl⟩)
        go_roundw
        case rel =>
          refine ⟨k + 1, by go_num, by omega, HB.out.setCell (p := ⟨g, s, none⟩) (Nat.le_refl _) _, ?_⟩
          rw [HT.out, ← cN_set, ← HY1.out]
          exact HC.out.set_ s _
        case measure => simp [intOf]; omega
      · obtain rfl : k = n' := by omega
        have tk : ¬ (k : Int) < (k : Int) := by omega
        have HE : Hid (l.take k = l) := by show _ = _; rw [← HL.out, List.take_length]
        rw [HE.out] at HC
        have HRW := Lib.hid ((HRX.out.below HB.out).mono hgr)
        have HNW := Lib.hid ((HNX.out.below HB.out).mono hgr)
        have HQU := Lib.hid (quant_any A l k cap HL.out (by omega) p wr HRW.out)
        have HHI : Hid (∀ W, Below wr.heap.size wr W → Calls Try.prog 11 #[.slice A k cap, .slice A2 m' cap2] W fun e w' => ∃ A3, e = .returned (.slice A3 (m' + 1) (m' + 1)) ∧ RowN w'.heap.size w' A3 ((histL bs l).map fun k : Nat => (k : Int)) ∧ Below W.heap.size W w') := fun W hW => by
          refine (hist_any A A2 l bs k cap m' cap2 HL.out HM.out (by omega) (by omega) W ((HRW.out.below hW).mono hW.size) ((HNW.out.below hW).mono hW.size)).mono ?_
          rintro e w' ⟨v, rfl, h1, h2⟩
          obtain ⟨A3, rfl, hr⟩ := h1.row
          exact ⟨A3, by rw [histL_len, HM.out], hr, h2⟩
        have hgl : g < wr.heap.size := HC.out.lt
        have HSA : Hid (∀ W A3, Below wr.heap.size wr W → RowN W.heap.size W A3 ((histL bs l).map fun k : Nat => (k : Int)) → Calls Try.prog 10 #[.slice A3 (m' + 1) (m' + 1), .slice (some ⟨g, 0, none⟩) (m' + 1) (m' + 1)] W fun e w' => e = .returned (.bool true) ∧ Below W.heap.size W w') := fun W A3 hW hr =>
          same4_any A3 _ _ (m' + 1) (m' + 1) (m' + 1) (by rw [List.length_map, histL_len, HM.out]) (by omega) W hr (cnt_row (HC.out.below hW hgl))
        have HT0 := Lib.hid HB.out
        clear HE hgl
        by_cases hk0 : k = 0
        · have HTQ : Hid (tupQ l p = .tuple #[.int .i64 0, .bool false]) := by show _ = _; unfold tupQ; rw [if_pos (by rw [HL.out]; exact hk0)]
          rw [HTQ.out] at HQU
          subst hk0
          clear HTQ
          go_wp2_with (first
            | (go_at_call 9; (with_reducible refine HQU.out.mono ?_); rintro e w1 ⟨rfl, hb1⟩; have HB1 := Lib.hid hb1; clear hb1)
            | (go_at_call 11; (with_reducible refine (HHI.out _ HB1.out).mono ?_); rintro e w2 ⟨A3, rfl, hr2, hb2⟩; have HR2 := Lib.hid hr2; have HB2 := Lib.hid (HB1.out.trans (hb2.mono HB1.out.size)); clear hr2 hb2)
            | (go_at_call 10; (with_reducible refine (HSA.out _ _ HB2.out HR2.out).mono ?_); rintro e w3 ⟨rfl, hb3⟩; have HB3 := Lib.hid (HB2.out.trans (hb3.mono HB2.out.size)); clear hb3)
            | (go_at_call 6; (with_reducible refine (lives35_any _).mono ?_); rintro e w4 ⟨rfl, hb4⟩; have HB4 := Lib.hid (HB3.out.trans (hb4.mono HB3.out.size)); clear hb4))
          go_ret
          have z := HB0.out.trans ((HB.out.trans (HB4.out.mono hgr)).mono (by have := HB0.out.size; have := HG.out; omega))
          exact ⟨rfl, z⟩
        · have HTQ : Hid (tupQ l p = .tuple #[.int .i64 (qL l p), .bool true]) := by show _ = _; unfold tupQ; rw [if_neg (by rw [HL.out]; exact hk0)]
          rw [HTQ.out] at HQU
          have n0 : ¬ (k : Int) = 0 := by simpa using hk0
          have n1 : ((k : Int) == 0) = false := by simpa using hk0
          have hix := idxQ_lt p (n := k) (by omega)
          have hQ' : (sortL l)[idxQ p k]? = some (qL l p) := by rw [← qL_at p (by rw [HL.out]; omega), List.getElem?_eq_getElem (by rw [sortL_len, HL.out]; exact hix)]; congr 2; rw [HL.out]
          have hcap : max 0 (min p 100) = ((capP p : Nat) : Int) := by unfold capP; omega
          have hidx : ((capP p : Nat) : Int) * ((k : Int) - 1) / 100 = (idxQ p k : Nat) := by
            unfold idxQ
            rw [Int.natCast_ediv, Int.natCast_mul, Int.natCast_sub (by omega)]
            rfl
          have hcp := capP_le p
          have hm0 : 0 ≤ ((capP p : Nat) : Int) * ((k : Int) - 1) := Int.mul_nonneg (by omega) (by omega)
          have hm1' : ((capP p : Nat) : Int) * ((k : Int) - 1) ≤ 100 * 1000 := Int.mul_le_mul (by omega) (by omega) (by omega) (by omega)
          have HAT : Hid (∀ W, Below wr.heap.size wr W → Calls Try.prog 12 #[.slice A k cap, .int .i64 (idxQ p k : Nat)] W fun e w' => e = .returned (.int .i64 (qL l p)) ∧ W = w') := fun W hW =>
            refat_any A l k cap HL.out (by omega) (idxQ p k) hix (qL l p) hQ' W ((HRW.out.below hW).mono hW.size)
          clear hQ' HTQ
          obtain ⟨c, hc⟩ : ∃ c, capP p = c := ⟨_, rfl⟩
          obtain ⟨j, hj⟩ : ∃ j, idxQ p k = j := ⟨_, rfl⟩
          rw [hc] at hidx hm0 hm1' hcp hcap
          have HCAP := Lib.hid hcap
          clear hcap
          rw [hj] at hidx hix HAT
          clear hc hj
          have hw3 : wrap64 ((k : Int) - 1) = (k : Int) - 1 := by unfold wrap64; omega
          have hw2 : wrap64 ((c : Int) * ((k : Int) - 1)) = (c : Int) * ((k : Int) - 1) := by generalize (c : Int) * ((k : Int) - 1) = M at *; unfold wrap64; omega
          have hq : ((c : Int) * ((k : Int) - 1)).tdiv 100 = (j : Int) := by rw [Int.tdiv_eq_ediv_of_nonneg hm0]; exact hidx
          have hw4 : wrap64 (j : Int) = (j : Int) := by unfold wrap64; omega
          generalize qL l p = qq at *
          have hcap := HCAP.out
          clear hidx hm0 hm1' hcp hix
          go_wp2_with (first
            | (go_at_call 9; (with_reducible refine HQU.out.mono ?_); rintro e w1 ⟨rfl, hb1⟩; have HB1 := Lib.hid hb1; clear hb1)
            | (go_at_call 12; (with_reducible refine (HAT.out _ HB1.out).mono ?_); rintro e w5 ⟨rfl, rfl⟩)
            | (go_at_call 11; (with_reducible refine (HHI.out _ HB1.out).mono ?_); rintro e w2 ⟨A3, rfl, hr2, hb2⟩; have HR2 := Lib.hid hr2; have HB2 := Lib.hid (HB1.out.trans (hb2.mono HB1.out.size)); clear hr2 hb2)
            | (go_at_call 10; (with_reducible refine (HSA.out _ _ HB2.out HR2.out).mono ?_); rintro e w3 ⟨rfl, hb3⟩; have HB3 := Lib.hid (HB2.out.trans (hb3.mono HB2.out.size)); clear hb3)
            | (go_at_call 6; (with_reducible refine (lives35_any _).mono ?_); rintro e w4 ⟨rfl, hb4⟩; have HB4 := Lib.hid (HB3.out.trans (hb4.mono HB3.out.size)); clear hb4))
          go_ret
          have z := HB0.out.trans ((HB.out.trans (HB4.out.mono hgr)).mono (by have := HB0.out.size; have := HG.out; omega))
          exact ⟨rfl, z⟩
  case first =>
    have HD := Lib.hid (Below.refl w.heap.size w)
    by_cases hn6 : n ≤ 60
    · obtain rfl : n = n' := by omega
      have t0 : ¬ (60 : Int) < (n : Int) := by omega
      have t1 : (n : Int) ≤ 60 := by omega
      by_cases hm6 : m ≤ 20
      · obtain rfl : m = m' := by omega
        clear q1 q2
        have s0 : ¬ (20 : Int) < (m : Int) := by omega
        have s1 : (m : Int) ≤ 20 := by omega
        go_region
        go_wp2_with fail
        go_meet
        exact ⟨by first | rfl | (congr 1; omega), by first | rfl | (congr 1; omega), HD.out.drew⟩
      · obtain rfl : m' = 20 := by omega
        clear q1 q2
        have s0 : (20 : Int) < (m : Int) := by omega
        have s2 : (20 : Int) ≤ (cap2 : Int) := by omega
        have s3 : 20 ≤ cap2 := by omega
        go_region
        go_wp2_with fail
        go_meet
        exact ⟨by first | rfl | (congr 1; omega), by first | rfl | (congr 1; omega), HD.out.drew⟩
    · obtain rfl : n' = 60 := by omega
      have t0 : (60 : Int) < (n : Int) := by omega
      have t2 : (60 : Int) ≤ (cap : Int) := by omega
      have t3 : 60 ≤ cap := by omega
      by_cases hm6 : m ≤ 20
      · obtain rfl : m = m' := by omega
        clear q1 q2
        have s0 : ¬ (20 : Int) < (m : Int) := by omega
        have s1 : (m : Int) ≤ 20 := by omega
        go_region
        go_wp2_with fail
        go_meet
        exact ⟨by first | rfl | (congr 1; omega), by first | rfl | (congr 1; omega), HD.out.drew⟩
      · obtain rfl : m' = 20 := by omega
        clear q1 q2
        have s0 : (20 : Int) < (m : Int) := by omega
        have s2 : (20 : Int) ≤ (cap2 : Int) := by omega
        have s3 : 20 ≤ cap2 := by omega
        go_region
        go_wp2_with fail
        go_meet
        exact ⟨by first | rfl | (congr 1; omega), by first | rfl | (congr 1; omega), HD.out.drew⟩
end Go.Proofs.Ytnbiklkgkidlnaa
