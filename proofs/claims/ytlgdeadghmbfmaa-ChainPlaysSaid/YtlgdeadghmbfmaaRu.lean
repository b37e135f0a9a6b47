/- A ring's behind, widen, At. -/
import Derived.Test.YtlgdeadghmbfmaaRt
namespace Go.Proofs.Ytlgdeadghmbfmaa
open Go.RowKit

theorem infoInt : (Try.prog.info? 3).map (fun i => (i.zero, i.size, i.bytes)) = some (some (.int .i64 0), 1, 8) := by kernel_rfl
theorem make_ints (w : World) (N : Nat) (z : Int) (hz : z = N) (hN : N ≤ 16777216) : ∃ Z : List Value, (Instr.makeSlice 27 (.int .i64 z) (.int .i64 z)).run Try.prog w = .ok (.slice (some ⟨w.heap.size, 0, none⟩) N N) (w.alloc (.cells Z.toArray 3)) ∧ Z.length = N ∧ ∀ i, i < N → Z[i]? = some (.int .i64 0) := by
  subst hz
  obtain ⟨i0, hi0, hz0, hz1, hz2⟩ := info_parts infoInt
  have := run_makeSlice (P := Try.prog) w 27 3 i0 (.int .i64 0) Try.underlying27 hi0 hz0 .i64 .i64 N N (by omega) (by omega) (by rw [hz1]; simp; omega) (by rw [hz2]; omega) (by omega)
  simp only [Int.toNat_natCast, hz1, Nat.mul_one] at this
  have hc : madeCells (Value.int IntKind.i64 0).cells N = (List.replicate N (Value.int .i64 0)).toArray := Array.toList_inj.1 (by rw [show (Value.int IntKind.i64 0).cells = #[.int .i64 0] from rfl, toList_madeCells_one])
  rw [hc] at this
  exact ⟨_, this, by simp, fun i hi => by rw [List.getElem?_replicate, if_pos hi]⟩
/-- What behind gives. -/
def BehP (b g m room first n : Nat) (V : Nat → Int) (fr : Nat) (w : World) (e : Ending) (w' : World) : Prop :=
  ∃ g2 S, e = .returned (.slice (some ⟨g2, 0, none⟩) (n - fr) (n - fr)) ∧ w.heap.size ≤ g2 ∧ Blk w' g2 3 S ∧ S.size = n - fr ∧ (∀ j, j < n - fr → S[j]? = some (.int .i64 (V (fr + j)))) ∧ RgV b g m room first n V w' ∧ But Nob w w'
theorem beh_step {V : Nat → Int} {fr k : Nat} {S : Array Value} (hk : k < S.size) (h : ∀ j, j < k → S[j]? = some (.int .i64 (V (fr + j)))) :
    ∀ j, j < k + 1 → (S.setIfInBounds k (.int .i64 (V (fr + k))))[j]? = some (.int .i64 (V (fr + j))) := by
  intro j hj
  rw [Array.getElem?_setIfInBounds]
  by_cases e : k = j
  · subst e; rw [if_pos rfl, if_pos hk]
  · rw [if_neg e]; exact h j (by omega)
set_option maxRecDepth 100000 in
set_option maxHeartbeats 1000000 in
theorem behind_any (b g m room first n : Nat) (V : Nat → Int) (fr : Nat) (w : World) (h : RgV b g m room first n V w) (hf : fr < n) :
    Calls Try.prog 61 #[.pointer (some ⟨b, 0, none⟩), .int .i64 fr] w (BehP b g m room first n V fr w) := by
  obtain ⟨c0, c1, c2, -⟩ := h.cells
  have l1 := h.lim; have l2 := h.hm.1; have l3 := h.hf; have l4 := h.hn
  have hlen := len_any b n w c2
  have hlt := h.own.lt
  have hgl : g < w.heap.size := let ⟨_, _, c, _⟩ := h.row; c.lt
  obtain ⟨d, hd⟩ : ∃ d : Nat, d = n - fr := ⟨_, rfl⟩
  have hs : IntKind.i64.wrap ((n : Int) - fr) = (d : Int) := by rw [IntWalk.i64_in _ (by omega)]; omega
  have hs' : (n : Int) - fr = (d : Int) := by omega
  obtain ⟨Z, hmk, hZ, -⟩ := make_ints w d d rfl (by omega)
  have HZ := Lib.hid hZ; clear hZ
  have t1 : decide ((fr : Int) < 0) = false := by simp
  have t2 : decide (n ≤ fr) = false := by simp; omega
  have H := Lib.hid h; clear h
  have hd2 : fr + d ≤ n := by omega
  have HD := Lib.hid hd; clear hd
  have HL := Lib.hid hlen; clear hlen
  have HM := Lib.hid hmk; clear hmk
  have HS := Lib.hid hs; clear hs
  have HS' := Lib.hid hs'; clear hs'
  go_enter Try.func61, Try.ntmps61
  go_wp2_with (go_at_call 26; (with_reducible refine HL.out.mono ?_); rintro e wq ⟨rfl, rfl⟩; have hmk := HM.out; have hs := HS.out; have hs' := HS'.out)
  have hB0 : Blk (w.alloc (.cells Z.toArray 3)) w.heap.size 3 Z.toArray := Blk.new _ _ _
  have HB0 := Lib.hid hB0; clear hB0 hs hs' hmk
  go_loopw [24, 6] (fun i _ wr => ∃ (k : Nat) (S : Array Value), k ≤ d ∧ i = .int .i64 k ∧ Blk wr w.heap.size 3 S ∧ S.size = d ∧ (∀ j, j < k → S[j]? = some (.int .i64 (V (fr + j)))) ∧ RgV b g m room first n V wr ∧ But Nob w wr) (fun i _ _ => d - (intOf i).toNat)
  case atStart => exact ⟨0, _, Nat.zero_le _, rfl, HB0.out, by simpa using HZ.out, fun j hj => absurd hj (by omega), H.out.but ((But.refl Nob _).alloc _) id id, (But.refl Nob _).alloc _⟩
  case round =>
    obtain ⟨k, S, hk, rfl, hB, hS, hS2, hR, hG⟩ := hrel
    have HS2 := Lib.hid hS2; clear hS2
    have HG := Lib.hid hG; clear hG
    have HSz := Lib.hid hS; clear hS
    by_cases hlt2 : k < d
    · have q0 : IntKind.i64.wrap ((fr : Int) + k) = (fr : Int) + k := IntWalk.i64_in _ (by omega)
      have q1 : fr + k < m := by have := HD.out; omega
      have hsl := slot_any b g m room first n V (fr + k) wr hR q1
      rw [show ((fr + k : Nat) : Int) = (fr : Int) + k by omega] at hsl
      have HSL := Lib.hid hsl; clear hsl hR
      have k0 : (0 : Int) ≤ (k : Int) := by omega
      have k1 : (k : Int) < (d : Int) := by omega
      go_wp2_with (go_at_call 59; (with_reducible refine HSL.out.mono ?_); rintro e w1 ⟨rfl, hR1, hG1⟩; have hB1 := Lib.hid (hB.but hG1 id); have hld := hR1.load q1; have hfz1 := hB1.out.free k; obtain ⟨vk, hvk⟩ := hB1.out.has (by rw [HSz.out]; exact hlt2))
      have HR1 := Lib.hid hR1; clear hR1 hld hvk
      go_roundw
      case rel =>
        refine ⟨k + 1, S.setIfInBounds k (.int .i64 (V (fr + k))), by omega, by go_num, hB1.out.set_ _ _, by rw [Array.size_setIfInBounds]; exact HSz.out, beh_step (by rw [HSz.out]; exact hlt2) HS2.out, ?_, (HG.out.trans hG1).set _ _ (.inr (Nat.le_refl _))⟩
        exact HR1.out.but ((But.refl (fun q => q = w.heap.size) w1).set ⟨w.heap.size, k, none⟩ _ (.inl rfl)) (by show ¬ b = _; omega) (by show ¬ g = _; omega)
      case measure => simp [intOf]; omega
    · have hkd : k = d := by omega
      have t : decide ((k : Int) < (d : Int)) = false := by simp; omega
      have HK := Lib.hid hkd; clear hkd
      go_wp2
      go_ret
      have hk' := HK.out; have hd' := HD.out; subst hk'; subst hd'
      exact ⟨w.heap.size, S, rfl, Nat.le_refl _, hB, HSz.out, HS2.out, hR, HG.out⟩
end Go.Proofs.Ytlgdeadghmbfmaa
