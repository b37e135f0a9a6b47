/- The document's lock: a call begins. -/
import Derived.Test.YtckdabokaelnoaaMu
import Derived.StillTailTactics
namespace Go.Proofs.Ytckdabokaelnoaa
open Go.RowKit

section
variable {rb gn gw gs ga gx n : Nat} {R : Rf} {w : World}
set_option maxRecDepth 100000 in
set_option maxHeartbeats 4000000 in
theorem rbeg_out (k : Int) (fr : Int) (h : RefM rb gn gw gs ga gx n R w) (hk : k < 0 ∨ (n : Int) ≤ k) :
    Calls Try.prog 43 #[.pointer (some ⟨rb, 0, none⟩), .int .i64 k, .int .i64 fr] w fun e w' => e = .returned (.int .i64 1) ∧ w = w' := by
  obtain ⟨c, hc, b0, b1, b2, b3, b4, b5, bf⟩ := h.cells
  clear h
  by_cases h0 : k < 0
  · have t : decide (k < 0) = true := by simpa using h0
    clear hk
    go_enter Try.func43, Try.ntmps43
    go_wp2
    go_ret
    exact ⟨rfl, rfl⟩
  · have t : decide (k < 0) = false := by simpa using h0
    have t2 : (n : Int) ≤ k := by omega
    have t3 : decide ((n : Int) ≤ k) = true := by simpa using t2
    clear hk
    go_enter Try.func43, Try.ntmps43
    go_wp2
    go_ret
    exact ⟨rfl, rfl⟩
set_option maxRecDepth 100000 in
set_option maxHeartbeats 4000000 in
theorem rbeg_no (k : Nat) (fr : Int) (h : RefM rb gn gw gs ga gx n R w) (hk : k < n) (hs : R.st k ≠ fr) :
    Calls Try.prog 43 #[.pointer (some ⟨rb, 0, none⟩), .int .i64 k, .int .i64 fr] w fun e w' => e = .returned (.int .i64 5) ∧ w = w' := by
  obtain ⟨c, hc, b0, b1, b2, b3, b4, b5, bf⟩ := h.cells
  have cs := h.st.at_ hk
  have k0 : (0 : Int) ≤ (k : Int) := by omega
  have k1 : ¬ (k : Int) < 0 := by omega
  have k2 : decide ((k : Int) < 0) = false := by simp
  have k3 : decide ((n : Int) ≤ (k : Int)) = false := by simp; omega
  have k4 : decide (n ≤ k) = false := by simp; omega
  have k5 : (k : Int) < (n : Int) := by omega
  have t1 : (R.st k == fr) = false := by simpa using hs
  have t2 : (R.st k != fr) = true := by simpa using hs
  clear h hs
  go_enter Try.func43, Try.ntmps43
  go_wp2
  go_ret
  exact ⟨rfl, rfl⟩
set_option maxRecDepth 100000 in
set_option maxHeartbeats 4000000 in
theorem rbeg_ok (k fr : Nat) (hf : fr ≤ 2) (h : RefM rb gn gw gs ga gx n R w) (hk : k < n) (hs : R.st k = (fr : Int)) :
    Calls Try.prog 43 #[.pointer (some ⟨rb, 0, none⟩), .int .i64 k, .int .i64 (fr : Nat)] w fun e w' => e = .returned (.int .i64 0) ∧ RefM rb gn gw gs ga gx n { R with st := updF R.st k ((fr : Int) + 1), ps := updF R.ps k 1 } w' ∧ But (OwnX rb gn gw gs ga gx) w w' := by
  obtain ⟨c, hc, b0, b1, b2, b3, b4, b5, bf⟩ := h.cells
  have cs := h.st.at_ hk
  rw [hs] at cs
  have k0 : (0 : Int) ≤ (k : Int) := by omega
  have k1 : ¬ (k : Int) < 0 := by omega
  have k2 : decide ((k : Int) < 0) = false := by simp
  have k3 : decide ((n : Int) ≤ (k : Int)) = false := by simp; omega
  have k4 : decide (n ≤ k) = false := by simp; omega
  have k5 : (k : Int) < (n : Int) := by omega
  have f1 := h.st.free k
  have H := Lib.hid h
  clear h hs
  go_enter Try.func43, Try.ntmps43
  go_upto_region 5 with fail
  go_cut [] (fun wx => RefM rb gn gw gs ga gx n { R with st := updF R.st k ((fr : Int) + 1) } wx ∧ But (OwnX rb gn gw gs ga gx) w wx)
  case first =>
    go_wp2_with fail
    go_meet
    have q : IntKind.i64.wrap ((fr : Int) + 1) = (fr : Int) + 1 := IntWalk.i64_in _ (by omega)
    first
      | exact ⟨H.out.sst hk _, (But.refl _ w).set ⟨gs, _, none⟩ _ (.inl (.inr (.inr (.inr (.inl rfl)))))⟩
      | (rw [q]; exact ⟨H.out.sst hk _, (But.refl _ w).set ⟨gs, _, none⟩ _ (.inl (.inr (.inr (.inr (.inl rfl)))))⟩)
  case rest =>
    obtain ⟨h1, hG1⟩ := hcut
    rename World => w1
    have H1 := Lib.hid h1; have HG1 := Lib.hid hG1; clear h1 hG1 b0 b1 b2 b3 b4 b5 bf cs f1 hc
    obtain ⟨c1, hc1, b0, b1, b2, b3, b4, b5, bf⟩ := H1.out.cells
    have f2 := H1.out.ps.free k
    have q2 := H1.out.ps.at_ hk
    go_wp2_with fail
    go_ret
    exact ⟨rfl, H1.out.sps hk 1, HG1.out.set ⟨ga, _, none⟩ _ (.inl (.inr (.inr (.inr (.inr (.inl rfl))))))⟩
end
end Go.Proofs.Ytckdabokaelnoaa
