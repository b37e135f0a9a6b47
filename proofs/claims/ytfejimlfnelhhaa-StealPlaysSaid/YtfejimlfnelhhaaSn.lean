/- Layer 28's law file: one. -/
import Derived.Test.YtfejimlfnelhhaaSq
import Derived.BigQuiet
namespace Go.Proofs.Ytfejimlfnelhhaa
open Go.RowKit

section
variable {w0 : World} {b n : Nat} {D D' : Dq} {w : World}
theorem itS_ld {D0 : Dq} {k : Int} {i : Nat} (h : Ld w0 b (itS D0 k i) (n + i) w) (hn : n + i ≤ 900000) : Calls Try.prog 16 #[.pointer (some ⟨b, 0, none⟩), .int .i64 k] w
    fun e w' => e = .returned (.tuple #[.agg #[.bool (dnB (stH (itS D0 k i) k)), .int .i64 (stH (itS D0 k i) k), .int .i64 (stX (itS D0 k i) k)], .int .i64 (stE (itS D0 k i) k)]) ∧ Ld w0 b (itS D0 k (i + 1)) (n + (i + 1)) w' ∧ But (OneB b) w w' :=
  step_ld k h hn
theorem Ld.mono {m : Nat} (h : Ld w0 b D n w) (hm : n ≤ m) : Ld w0 b D m w := ⟨h.v, h.nice.mono hm, h.old, h.new⟩
set_option maxRecDepth 100000 in
set_option maxHeartbeats 8000000 in
theorem one_any (k : Nat) (c : Nat) (D0 : Dq) (m how : Nat) (x : Int) (h : Ld w0 b D n w) (hn : n ≤ 800000) (hD : D0 = if k = 0 then beginR D 0 5 0 else stealR D k) (hE : EndsC D0 k m how x D') (hc : c = if how = 1 then 1 else 0) :
    Calls Try.prog 17 #[.pointer (some ⟨b, 0, none⟩), .int .i64 k] w fun e w' => e = .returned (.tuple #[.int .i64 x, .bool (c == 1)]) ∧ Ld w0 b D' (n + 6) w' ∧ But (OneB b) w w' := by
  have hm5 := hE.le
  have HE := Lib.hid hE; clear hE
  have P1 := Lib.hid (pop_ld h); have P2 := Lib.hid (steal_ld k h)
  clear h
  have HC := Lib.hid hc; clear hc
  by_cases k0 : k = 0
  case pos =>
    rw [if_pos k0] at hD
    subst k0
    have HE0 : Hid (EndsC D0 0 m how x D') := HE
    have HD := Lib.hid hD; clear hD P2 HE
    rename Hid (EndsC D0 0 m how x D') => HE
    rw [show ((0 : Nat) : Int) = 0 from rfl]
    go_enter Try.func17, Try.ntmps17
    go_wp2_with fail
    refine P1.out.mono ?_
    rintro e w1 ⟨rfl, h1, hg1⟩
    rw [← HD.out] at h1
    have H1 := Lib.hid h1; have HG1 := Lib.hid hg1; clear h1 hg1 P1
    go_wp2_with fail
    go_loopw [15] (fun t wr => ∃ i : Nat, i ≤ m ∧ t = .int .i64 i ∧ Ld w0 b (itS D0 0 i) (n + i) wr ∧ But (OneB b) w wr) (fun t _ => 6 - (intOf t).toNat)
    case atStart => exact ⟨0, Nat.zero_le _, rfl, H1.out, HG1.out⟩
    case round =>
      obtain ⟨i, hi, rfl, hS, hSG⟩ := hrel
      have HSG := Lib.hid hSG; clear hSG
      have P := itS_ld hS (by omega)
      by_cases hlt : i < m
      · rw [HE.out.on i hlt] at P
        have d0 : dnB 0 = false := rfl
        have P := Lib.hid P
        have i6 : (i : Int) < 6 := by omega
        clear hS H1
        go_wp2_with fail
        refine P.out.mono ?_
        rintro e w2 ⟨rfl, h2, hg2⟩
        have H2 := Lib.hid h2; have HG2 := Lib.hid (HSG.out.trans hg2); clear h2 hg2 P
        go_wp2_with fail
        go_roundw
        case rel => exact ⟨i + 1, hlt, by go_num, H2.out.nob ((But.refl _ _).alloc _), HG2.out.alloc _⟩
        case measure => simp [intOf]; omega
      · obtain rfl : i = m := by omega
        rw [HE.out.hw, HE.out.gt, HE.out.nx] at P
        have d0 : dnB how = true := by simp [dnB, HE.out.h0]
        have i6 : (i : Int) < 6 := by omega
        have P := Lib.hid P
        clear hS H1 hlt hi
        go_wp2_with fail
        refine P.out.mono ?_
        rintro e w2 ⟨rfl, h2, hg2⟩
        have H2 := Lib.hid h2; have HG2 := Lib.hid (HSG.out.trans hg2); clear h2 hg2 P
        have te : (((how : Nat) : Int) == 1) = (c == 1) := by
          rw [HC.out]
          by_cases q : how = 1
          · subst q; rfl
          · rw [if_neg q]; simp; omega
        go_wp2_with fail
        go_quiet (fail)
        go_wp2_with fail
        go_ret2
        exact ⟨rfl, (H2.out.nob (((But.refl _ _).alloc _).drewN _)).mono (by omega), (HG2.out.alloc _).drewN _⟩
  case neg =>
    rw [if_neg k0] at hD
    have t0 : (((k : Nat) : Int) == 0) = false := by simp; omega
    have HD := Lib.hid hD; have K0 := Lib.hid k0; clear hD P1 k0
    go_enter Try.func17, Try.ntmps17
    go_wp2_with fail
    refine P2.out.mono ?_
    rintro e w1 ⟨rfl, h1, hg1⟩
    rw [← HD.out] at h1
    have H1 := Lib.hid h1; have HG1 := Lib.hid hg1; clear h1 hg1 P2 t0
    go_wp2_with fail
    go_loopw [15] (fun t wr => ∃ i : Nat, i ≤ m ∧ t = .int .i64 i ∧ Ld w0 b (itS D0 (k : Nat) i) (n + i) wr ∧ But (OneB b) w wr) (fun t _ => 6 - (intOf t).toNat)
    case atStart => exact ⟨0, Nat.zero_le _, rfl, H1.out, HG1.out⟩
    case round =>
      obtain ⟨i, hi, rfl, hS, hSG⟩ := hrel
      have HSG := Lib.hid hSG; clear hSG
      have P := itS_ld hS (by omega)
      by_cases hlt : i < m
      · rw [HE.out.on i hlt] at P
        have d0 : dnB 0 = false := rfl
        have P := Lib.hid P
        have i6 : (i : Int) < 6 := by omega
        clear hS H1
        go_wp2_with fail
        refine P.out.mono ?_
        rintro e w2 ⟨rfl, h2, hg2⟩
        have H2 := Lib.hid h2; have HG2 := Lib.hid (HSG.out.trans hg2); clear h2 hg2 P
        go_wp2_with fail
        go_roundw
        case rel => exact ⟨i + 1, hlt, by go_num, H2.out.nob ((But.refl _ _).alloc _), HG2.out.alloc _⟩
        case measure => simp [intOf]; omega
      · obtain rfl : i = m := by omega
        rw [HE.out.hw, HE.out.gt, HE.out.nx] at P
        have d0 : dnB how = true := by simp [dnB, HE.out.h0]
        have i6 : (i : Int) < 6 := by omega
        have P := Lib.hid P
        clear hS H1 hlt hi
        go_wp2_with fail
        refine P.out.mono ?_
        rintro e w2 ⟨rfl, h2, hg2⟩
        have H2 := Lib.hid h2; have HG2 := Lib.hid (HSG.out.trans hg2); clear h2 hg2 P
        have te : (((how : Nat) : Int) == 1) = (c == 1) := by
          rw [HC.out]
          by_cases q : how = 1
          · subst q; rfl
          · rw [if_neg q]; simp; omega
        go_wp2_with fail
        go_quiet (fail)
        go_wp2_with fail
        go_ret2
        exact ⟨rfl, (H2.out.nob (((But.refl _ _).alloc _).drewN _)).mono (by omega), (HG2.out.alloc _).drewN _⟩
end
end Go.Proofs.Ytfejimlfnelhhaa
