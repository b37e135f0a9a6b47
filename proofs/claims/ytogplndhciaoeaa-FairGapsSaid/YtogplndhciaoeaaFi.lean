/- layer 33 (fair): FairGaps' walk. -/
import Derived.Test.YtogplndhciaoeaaFh
import Derived.Deep.Cut
namespace Go.Proofs.Ytogplndhciaoeaa
open Go.RowKit
set_option maxRecDepth 100000

set_option maxHeartbeats 8000000 in
theorem gaps33_any (A A2 : Option Addr) (L : List En) (n cap : Nat) (cpus : List Int) (m cap2 : Nat) (hn : L.length = n) (hm : cpus.length = m) (hc : n ≤ cap) (hc2 : m ≤ cap2) (w : World) (hR : RowsE w.heap.size w A L) (hN : RowN w.heap.size w A2 cpus) :
    Calls Try.prog 6 #[.slice A n cap, .slice A2 m cap2] w fun e w' => e = .returned (.bool true) ∧ Below w.heap.size w w' := by
  obtain ⟨n', hn'⟩ : ∃ n', n' = min n 60 := ⟨_, rfl⟩
  obtain ⟨m', hm'⟩ : ∃ m', m' = min m 10 := ⟨_, rfl⟩
  have q1 : (n ≤ 60 ∧ n' = n) ∨ (60 < n ∧ n' = 60) := by omega
  have q2 : (m ≤ 10 ∧ m' = m) ∨ (10 < m ∧ m' = 10) := by omega
  have HL : Hid ((L.take n').length = n') := by show _ = _; rw [List.length_take]; omega
  have HM : Hid ((cpus.take m').length = m') := by show _ = _; rw [List.length_take]; omega
  have HR := Lib.hid (hR.take n'); have HN := Lib.hid (hN.take m')
  have hn60 : n' ≤ 60 := by omega
  have hm10 : m' ≤ 10 := by omega
  have HG : Hid (∀ x, gapL (L.take n') x ≤ n') := fun x => by have := gapL_le (L.take n') x; rw [HL.out] at this; exact this
  have HMX : Hid (∀ k, gapM (L.take n') ((cpus.take m').take k) ≤ n') := fun k => by have := gapM_le (L.take n') ((cpus.take m').take k); rw [HL.out] at this; exact this
  clear hn hm hR hN hn' hm'
  generalize L.take n' = L' at *
  generalize cpus.take m' = cs at *
  go_enter Try.func6, Try.ntmps6
  go_upto_region 1 with fail
  go_cut [0, 1] (fun s t wx => s = .slice A n' cap ∧ t = .slice A2 m' cap2 ∧ Below w.heap.size w wx)
  case rest =>
    obtain ⟨rfl, rfl, hb⟩ := hcut
    have HB0 := Lib.hid hb
    clear hb q1 q2 hc hc2
    go_wp2_with fail
    go_loopw [5, 21] (fun mv iv wr => ∃ k : Nat, mv = .int .i64 (gapM L' (cs.take k) : Nat) ∧ iv = .int .i64 k ∧ k ≤ m' ∧ Below w.heap.size w wr) (fun _ iv _ => m' - (intOf iv).toNat)
    case atStart => exact ⟨0, rfl, rfl, Nat.zero_le _, HB0.out⟩
    case round =>
      obtain ⟨k, rfl, rfl, hk, hb⟩ := hrel
      have HB := Lib.hid hb
      clear hb
      have HGM := Lib.hid (HMX.out k)
      obtain ⟨mm, hmm⟩ : ∃ mm, gapM L' (cs.take k) = mm := ⟨_, rfl⟩
      rw [hmm] at HGM ⊢
      have HE := Lib.hid hmm
      clear hmm
      by_cases hlt : k < m'
      · obtain ⟨b, o, rfl, hbn, hc⟩ := (HN.out.below HB.out) k (by rw [HM.out]; exact hlt)
        have hkl : k < cs.length := by rw [HM.out]; exact hlt
        obtain ⟨x, hx⟩ : ∃ x, cs[k] = x := ⟨_, rfl⟩
        rw [hx] at hc
        have HX : Hid (cs.take (k + 1) = cs.take k ++ [x]) := by show _ = _; rw [List.take_succ_eq_append_getElem hkl, hx]
        clear hx hkl
        have k0 : (0 : Int) ≤ (k : Int) := by omega
        have k1 : (k : Int) < (m' : Int) := by omega
        obtain ⟨g, hg⟩ : ∃ g, gapL L' x = g := ⟨_, rfl⟩
        have HGC := Lib.hid (gap_any A L' n' cap x HL.out (by omega) wr ((HR.out.below HB.out).mono HB.out.size))
        rw [hg] at HGC
        have g0 : ¬ (g : Int) < 0 := by omega
        have g1 : ¬ (n' : Int) < (g : Int) := by have := HG.out x; omega
        have HEE : Hid (gapM L' (cs.take (k + 1)) = max mm g) := by show _ = _; rw [HX.out, gapM_snoc, HE.out, hg]
        clear hg
        by_cases hmg : mm < g
        · have HE' : Hid (gapM L' (cs.take (k + 1)) = g) := by show _ = _; rw [HEE.out]; omega
          go_wp2_with (go_at_call 15; (with_reducible refine HGC.out.mono ?_); rintro e w3 ⟨rfl, hb3⟩; have HB3 := Lib.hid hb3; clear hb3)
          go_roundw
          case rel => exact ⟨k + 1, by rw [HE'.out], by go_num, by omega, HB.out.trans (HB3.out.mono HB.out.size)⟩
          case measure => simp [intOf]; omega
        · have HE' : Hid (gapM L' (cs.take (k + 1)) = mm) := by show _ = _; rw [HEE.out]; omega
          go_wp2_with (go_at_call 15; (with_reducible refine HGC.out.mono ?_); rintro e w3 ⟨rfl, hb3⟩; have HB3 := Lib.hid hb3; clear hb3)
          go_roundw
          case rel => exact ⟨k + 1, by rw [HE'.out], by go_num, by omega, HB.out.trans (HB3.out.mono HB.out.size)⟩
          case measure => simp [intOf]; omega
      · obtain rfl : k = m' := by omega
        have HW := Lib.hid (window_any A A2 L' n' cap cs k cap2 HL.out (by omega) HM.out (by omega) wr ((HR.out.below HB.out).mono HB.out.size) ((HN.out.below HB.out).mono HB.out.size))
        have HT : Hid (gapM L' cs = mm) := by show _ = _; rw [← HE.out, ← HM.out, List.take_length]
        rw [HT.out] at HW
        have HLV := Lib.hid lives33_any
        have hw1 : wrap64 ((mm : Int) + 1) = (mm : Int) + 1 := by have := HGM.out; unfold wrap64; omega
        go_wp2_with (first
          | (go_at_call 17; (with_reducible refine HW.out.mono ?_); rintro e w3 ⟨rfl, hb3⟩; have HB3 := Lib.hid hb3; clear hb3)
          | (go_at_call 13; (with_reducible refine (HLV.out _).mono ?_); rintro e w4 ⟨rfl, hb4⟩; have HB4 := Lib.hid hb4; clear hb4))
        go_ret
        exact ⟨rfl, (HB.out.trans (HB3.out.mono HB.out.size)).trans (HB4.out.mono (Nat.le_trans HB.out.size HB3.out.size))⟩
  case first =>
    have HD := Lib.hid (Below.refl w.heap.size w)
    by_cases hn6 : n ≤ 60
    · obtain rfl : n = n' := by omega
      have t0 : ¬ (60 : Int) < (n : Int) := by omega
      have t1 : (n : Int) ≤ 60 := by omega
      by_cases hm6 : m ≤ 10
      · obtain rfl : m = m' := by omega
        clear q1 q2
        have s0 : ¬ (10 : Int) < (m : Int) := by omega
        have s1 : (m : Int) ≤ 10 := by omega
        go_region
        go_wp2_with fail
        go_meet
        exact ⟨rfl, rfl, HD.out.drew⟩
      · obtain rfl : m' = 10 := by omega
        clear q1 q2
        have s0 : (10 : Int) < (m : Int) := by omega
        have s2 : (10 : Int) ≤ (cap2 : Int) := by omega
        have s3 : 10 ≤ cap2 := by omega
        go_region
        go_wp2_with fail
        go_meet
        exact ⟨rfl, rfl, HD.out.drew⟩
    · obtain rfl : n' = 60 := by omega
      have t0 : (60 : Int) < (n : Int) := by omega
      have t2 : (60 : Int) ≤ (cap : Int) := by omega
      have t3 : 60 ≤ cap := by omega
      by_cases hm6 : m ≤ 10
      · obtain rfl : m = m' := by omega
        clear q1 q2
        have s0 : ¬ (10 : Int) < (m : Int) := by omega
        have s1 : (m : Int) ≤ 10 := by omega
        go_region
        go_wp2_with fail
        go_meet
        exact ⟨rfl, rfl, HD.out.drew⟩
      · obtain rfl : m' = 10 := by omega
        clear q1 q2
        have s0 : (10 : Int) < (m : Int) := by omega
        have s2 : (10 : Int) ≤ (cap2 : Int) := by omega
        have s3 : 10 ≤ cap2 := by omega
        go_region
        go_wp2_with fail
        go_meet
        exact ⟨rfl, rfl, HD.out.drew⟩
end Go.Proofs.Ytogplndhciaoeaa
