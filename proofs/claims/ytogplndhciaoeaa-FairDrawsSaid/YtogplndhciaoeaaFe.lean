/- layer 33 (fair): Window. -/
import Derived.Test.YtogplndhciaoeaaFd
import Derived.RegionTactic
import Derived.ChangeAlike
namespace Go.Proofs.Ytogplndhciaoeaa
open Go.RowKit
set_option maxRecDepth 100000

set_option maxHeartbeats 4000000 in
theorem window_any (A A2 : Option Addr) (L : List En) (len cap : Nat) (cpus : List Int) (n2 cap2 : Nat) (hlen : L.length = len) (hle : len ≤ 1000000) (hn2 : cpus.length = n2) (hle2 : n2 ≤ 1000000) (w : World) (hR : RowsE w.heap.size w A L) (hN : RowN w.heap.size w A2 cpus) :
    Calls Try.prog 17 #[.slice A len cap, .slice A2 n2 cap2] w fun e W' => e = .returned (.int .i64 ((gapM L cpus : Nat) + 1 : Int)) ∧ Below w.heap.size w W' := by
  have HR := Lib.hid hR; have HN := Lib.hid hN; have HL := Lib.hid hlen; have HL2 := Lib.hid hn2
  clear hR hN hlen hn2
  go_enter Try.func17, Try.ntmps17
  go_wp2_with fail
  go_loopw [5, 10] (fun mv iv wr => ∃ k : Nat, mv = .int .i64 (gapM L (cpus.take k) : Nat) ∧ iv = .int .i64 k ∧ k ≤ n2 ∧ Below w.heap.size w wr) (fun _ iv _ => n2 - (intOf iv).toNat)
  case atStart => exact ⟨0, rfl, rfl, Nat.zero_le _, Below.refl _ _⟩
  case round =>
    obtain ⟨k, rfl, rfl, hk, hb⟩ := hrel
    have HB := Lib.hid hb
    clear hb
    obtain ⟨m, hm⟩ : ∃ m, gapM L (cpus.take k) = m := ⟨_, rfl⟩
    rw [hm]
    have HM := Lib.hid hm
    have HML : Hid (m ≤ len) := by show _ ≤ _; rw [← hm, ← HL.out]; exact gapM_le _ _
    clear hm
    by_cases hlt : k < n2
    · obtain ⟨b, o, rfl, hbn, hc⟩ := (HN.out.below HB.out) k (by rw [HL2.out]; exact hlt)
      have hkl : k < cpus.length := by rw [HL2.out]; exact hlt
      obtain ⟨x, hx⟩ : ∃ x, cpus[k] = x := ⟨_, rfl⟩
      rw [hx] at hc
      have HX : Hid (cpus.take (k + 1) = cpus.take k ++ [x]) := by show _ = _; rw [List.take_succ_eq_append_getElem hkl, hx]
      clear hx hkl
      have k0 : (0 : Int) ≤ (k : Int) := by omega
      have k1 : (k : Int) < (n2 : Int) := by omega
      obtain ⟨g, hg⟩ : ∃ g, gapL L x = g := ⟨_, rfl⟩
      have HG := Lib.hid (gap_any A L len cap x HL.out hle wr ((HR.out.below HB.out).mono HB.out.size))
      rw [hg] at HG
      have HE : Hid (gapM L (cpus.take (k + 1)) = max m g) := by show _ = _; rw [HX.out, gapM_snoc, HM.out, hg]
      clear hg
      by_cases hmg : m < g
      · have HE' : Hid (gapM L (cpus.take (k + 1)) = g) := by show _ = _; rw [HE.out]; omega
        go_wp2_with (go_at_call 15; (with_reducible refine HG.out.mono ?_); rintro e w3 ⟨rfl, hb3⟩; have HB3 := Lib.hid hb3; clear hb3)
        go_roundw
        case rel => exact ⟨k + 1, by rw [HE'.out], by go_num, by omega, HB.out.trans (HB3.out.mono HB.out.size)⟩
        case measure => simp [intOf]; omega
      · have HE' : Hid (gapM L (cpus.take (k + 1)) = m) := by show _ = _; rw [HE.out]; omega
        go_wp2_with (go_at_call 15; (with_reducible refine HG.out.mono ?_); rintro e w3 ⟨rfl, hb3⟩; have HB3 := Lib.hid hb3; clear hb3)
        go_roundw
        case rel => exact ⟨k + 1, by rw [HE'.out], by go_num, by omega, HB.out.trans (HB3.out.mono HB.out.size)⟩
        case measure => simp [intOf]; omega
    · obtain rfl : k = n2 := by omega
      have HT : Hid (gapM L cpus = m) := by show _ = _; rw [← HM.out, ← HL2.out, List.take_length]
      go_wp2_with fail
      go_ret
      refine ⟨?_, HB.out⟩
      rw [HT.out]
      have := HML.out
      rw [show wrap64 ((m : Int) + 1) = (m : Int) + 1 by unfold wrap64; omega]
      rfl
end Go.Proofs.Ytogplndhciaoeaa
