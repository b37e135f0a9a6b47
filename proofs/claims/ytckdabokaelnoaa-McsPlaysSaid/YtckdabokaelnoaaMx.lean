/- The document's lock: its step, number by number (the second half). -/
import Derived.Test.YtckdabokaelnoaaMu
import Derived.StillTailTactics
import Derived.RegionCalls
import Derived.Deep.RegionHeld3
namespace Go.Proofs.Ytckdabokaelnoaa
open Go.RowKit

section
variable {rb gn gw gs ga gx n : Nat} {R : Rf} {w : World}
set_option maxRecDepth 100000 in
set_option maxHeartbeats 4000000 in
theorem rst_15a (k : Nat) (h : RefM rb gn gw gs ga gx n R w) (hk : k < n) (hs : R.st k = 1) (ha : R.ps k = 5) (ht : R.wt k = false) :
    Calls Try.prog 46 #[.pointer (some ⟨rb, 0, none⟩), .int .i64 k] w (RStQ rb gn gw gs ga gx n w true 0 { R with ps := updF R.ps k 5, st := updF R.st k 2 }) := by
  obtain ⟨c, hc, b0, b1, b2, b3, b4, b5, bf⟩ := h.cells
  have cs := h.st.at_ hk
  have cp := h.ps.at_ hk
  rw [hs] at cs; rw [ha] at cp
  have k0 : (0 : Int) ≤ (k : Int) := by omega
  have k1 : ¬ (k : Int) < 0 := by omega
  have k2 : decide ((k : Int) < 0) = false := by simp
  have k3 : decide ((n : Int) ≤ (k : Int)) = false := by simp; omega
  have k4 : decide (n ≤ k) = false := by simp; omega
  have k5 : (k : Int) < (n : Int) := by omega
  have HT := Lib.hid ht; clear ht
  have H := Lib.hid h; clear h hs ha
  go_enter Try.func46, Try.ntmps46
  have cq : w.cell? ⟨gw, k, none⟩ = some (.bool false) := by have := H.out.wt.at_ hk; rw [HT.out] at this; exact this
  go_upto_region 36 with fail
  have H1 := H
  have HG1 : Hid (But (OwnX rb gn gw gs ga gx) w w) := But.refl _ w
  clear b0 b1 b2 b3 b4 b5 bf cs cp hc
  clear cq
  obtain ⟨c2, hc2, e0, e1, e2, e3, e4, e5, ef⟩ := H1.out.cells
  have f36 := H1.out.ps.free k
  have q36 := H1.out.ps.at_ hk
  go_cut [] (fun wx => RefM rb gn gw gs ga gx n { R with ps := updF R.ps k 5 } wx ∧ But (OwnX rb gn gw gs ga gx) w wx)
  case first =>
    go_wp2_with fail
    go_meet
    exact ⟨H1.out.sps hk 5, HG1.out.set ⟨ga, _, none⟩ _ (.inl (.inr (.inr (.inr (.inr (.inl rfl))))))⟩
  case rest =>
    obtain ⟨h2, hG2⟩ := hcut
    rename World => w2
    have H2 := Lib.hid h2; have HG2 := Lib.hid hG2; clear h2 hG2 e0 e1 e2 e3 e4 e5 ef f36 q36 H1 HG1 hc2
    obtain ⟨c3, hc3, e0, e1, e2, e3, e4, e5, ef⟩ := H2.out.cells
    have f37 := H2.out.st.free k
    have q37 := H2.out.st.at_ hk
    go_upto_region 37 with fail
    go_cut [] (fun wx => RefM rb gn gw gs ga gx n { R with ps := updF R.ps k 5, st := updF R.st k 2 } wx ∧ But (OwnX rb gn gw gs ga gx) w wx)
    case first =>
      go_wp2_with fail
      go_meet
      exact ⟨H2.out.sst hk 2, HG2.out.set ⟨gs, _, none⟩ _ (.inl (.inr (.inr (.inr (.inl rfl)))))⟩
    case rest =>
      obtain ⟨h4, hG4⟩ := hcut
      rename World => w4
      have H4 := Lib.hid h4; have HG4 := Lib.hid hG4; clear h4 hG4 e0 e1 e2 e3 e4 e5 ef f37 q37
      go_wp2_with fail
      go_ret2
      exact ⟨rfl, H4.out, HG4.out⟩
set_option maxRecDepth 100000 in
set_option maxHeartbeats 4000000 in
theorem rst_15b (k : Nat) (h : RefM rb gn gw gs ga gx n R w) (hk : k < n) (hs : R.st k = 1) (ha : R.ps k = 5) (ht : R.wt k = true) :
    Calls Try.prog 46 #[.pointer (some ⟨rb, 0, none⟩), .int .i64 k] w (RStQ rb gn gw gs ga gx n w false 0 { R with ps := updF R.ps k 5, st := updF R.st k 1 }) := by
  obtain ⟨c, hc, b0, b1, b2, b3, b4, b5, bf⟩ := h.cells
  have cs := h.st.at_ hk
  have cp := h.ps.at_ hk
  rw [hs] at cs; rw [ha] at cp
  have k0 : (0 : Int) ≤ (k : Int) := by omega
  have k1 : ¬ (k : Int) < 0 := by omega
  have k2 : decide ((k : Int) < 0) = false := by simp
  have k3 : decide ((n : Int) ≤ (k : Int)) = false := by simp; omega
  have k4 : decide (n ≤ k) = false := by simp; omega
  have k5 : (k : Int) < (n : Int) := by omega
  have HT := Lib.hid ht; clear ht
  have H := Lib.hid h; clear h hs ha
  go_enter Try.func46, Try.ntmps46
  have cq : w.cell? ⟨gw, k, none⟩ = some (.bool true) := by have := H.out.wt.at_ hk; rw [HT.out] at this; exact this
  go_upto_region 36 with fail
  have H1 := H
  have HG1 : Hid (But (OwnX rb gn gw gs ga gx) w w) := But.refl _ w
  clear b0 b1 b2 b3 b4 b5 bf cs cp hc
  clear cq
  obtain ⟨c2, hc2, e0, e1, e2, e3, e4, e5, ef⟩ := H1.out.cells
  have f36 := H1.out.ps.free k
  have q36 := H1.out.ps.at_ hk
  go_cut [] (fun wx => RefM rb gn gw gs ga gx n { R with ps := updF R.ps k 5 } wx ∧ But (OwnX rb gn gw gs ga gx) w wx)
  case first =>
    go_wp2_with fail
    go_meet
    exact ⟨H1.out.sps hk 5, HG1.out.set ⟨ga, _, none⟩ _ (.inl (.inr (.inr (.inr (.inr (.inl rfl))))))⟩
  case rest =>
    obtain ⟨h2, hG2⟩ := hcut
    rename World => w2
    have H2 := Lib.hid h2; have HG2 := Lib.hid hG2; clear h2 hG2 e0 e1 e2 e3 e4 e5 ef f36 q36 H1 HG1 hc2
    obtain ⟨c3, hc3, e0, e1, e2, e3, e4, e5, ef⟩ := H2.out.cells
    have f37 := H2.out.st.free k
    have q37 := H2.out.st.at_ hk
    go_upto_region 37 with fail
    go_cut [] (fun wx => RefM rb gn gw gs ga gx n { R with ps := updF R.ps k 5, st := updF R.st k 1 } wx ∧ But (OwnX rb gn gw gs ga gx) w wx)
    case first =>
      go_wp2_with fail
      go_meet
      exact ⟨H2.out.sst hk 1, HG2.out.set ⟨gs, _, none⟩ _ (.inl (.inr (.inr (.inr (.inl rfl)))))⟩
    case rest =>
      obtain ⟨h4, hG4⟩ := hcut
      rename World => w4
      have H4 := Lib.hid h4; have HG4 := Lib.hid hG4; clear h4 hG4 e0 e1 e2 e3 e4 e5 ef f37 q37
      go_wp2_with fail
      go_ret2
      exact ⟨rfl, H4.out, HG4.out⟩
set_option maxRecDepth 100000 in
set_option maxHeartbeats 4000000 in
theorem rst_31a (k : Nat) (h : RefM rb gn gw gs ga gx n R w) (hk : k < n) (hs : R.st k = 3) (ha : R.ps k = 1) (ht : R.nx k = -1) :
    Calls Try.prog 46 #[.pointer (some ⟨rb, 0, none⟩), .int .i64 k] w (RStQ rb gn gw gs ga gx n w false 0 { { R with ox := updF R.ox k (R.nx k) } with ps := updF { R with ox := updF R.ox k (R.nx k) }.ps k 2, st := updF { R with ox := updF R.ox k (R.nx k) }.st k 3 }) := by
  obtain ⟨c, hc, b0, b1, b2, b3, b4, b5, bf⟩ := h.cells
  have cs := h.st.at_ hk
  have cp := h.ps.at_ hk
  rw [hs] at cs; rw [ha] at cp
  have k0 : (0 : Int) ≤ (k : Int) := by omega
  have k1 : ¬ (k : Int) < 0 := by omega
  have k2 : decide ((k : Int) < 0) = false := by simp
  have k3 : decide ((n : Int) ≤ (k : Int)) = false := by simp; omega
  have k4 : decide (n ≤ k) = false := by simp; omega
  have k5 : (k : Int) < (n : Int) := by omega
  have HT := Lib.hid ht; clear ht
  have H := Lib.hid h; clear h hs ha
  go_enter Try.func46, Try.ntmps46
  have fq := H.out.ox.free k
  have cq := H.out.ox.at_ hk
  have cn := H.out.nx.at_ hk
  go_upto_region 25 with fail
  go_cut [] (fun wx => RefM rb gn gw gs ga gx n { R with ox := updF R.ox k (R.nx k) } wx ∧ But (OwnX rb gn gw gs ga gx) w wx)
  case first =>
    first | go_region | (go_wp2_with fail; go_region)
    go_wp2_with fail
    go_meet
    exact ⟨(H.out.sox hk (R.nx k)).drew, ((But.refl _ w).set ⟨gx, _, none⟩ _ (.inl (.inr (.inr (.inr (.inr (.inr rfl))))))).drew⟩
  obtain ⟨h1, hG1⟩ := hcut
  rename World => w1
  have H1 := Lib.hid h1; have HG1 := Lib.hid hG1
  clear h1 hG1 fq cq cn
  clear b0 b1 b2 b3 b4 b5 bf cs cp hc
  obtain ⟨c2, hc2, e0, e1, e2, e3, e4, e5, ef⟩ := H1.out.cells
  have cq : w1.cell? ⟨gx, k, none⟩ = some (.int .i64 (-1)) := by have := H1.out.ox.at_ hk; simp only [updF_same, HT.out] at this; exact this
  go_upto_region 36 with fail
  clear e0 e1 e2 e3 e4 e5 ef hc2 cq
  obtain ⟨c2, hc2, e0, e1, e2, e3, e4, e5, ef⟩ := H1.out.cells
  have f36 := H1.out.ps.free k
  have q36 := H1.out.ps.at_ hk
  go_cut [] (fun wx => RefM rb gn gw gs ga gx n { { R with ox := updF R.ox k (R.nx k) } with ps := updF { R with ox := updF R.ox k (R.nx k) }.ps k 2 } wx ∧ But (OwnX rb gn gw gs ga gx) w wx)
  case first =>
    go_wp2_with fail
    go_meet
    exact ⟨H1.out.sps hk 2, HG1.out.set ⟨ga, _, none⟩ _ (.inl (.inr (.inr (.inr (.inr (.inl rfl))))))⟩
  case rest =>
    obtain ⟨h2, hG2⟩ := hcut
    rename World => w2
    have H2 := Lib.hid h2; have HG2 := Lib.hid hG2; clear h2 hG2 e0 e1 e2 e3 e4 e5 ef f36 q36 H1 HG1 hc2
    obtain ⟨c3, hc3, e0, e1, e2, e3, e4, e5, ef⟩ := H2.out.cells
    have f37 := H2.out.st.free k
    have q37 := H2.out.st.at_ hk
    go_upto_region 37 with fail
    go_cut [] (fun wx => RefM rb gn gw gs ga gx n { { R with ox := updF R.ox k (R.nx k) } with ps := updF { R with ox := updF R.ox k (R.nx k) }.ps k 2, st := updF { R with ox := updF R.ox k (R.nx k) }.st k 3 } wx ∧ But (OwnX rb gn gw gs ga gx) w wx)
    case first =>
      go_wp2_with fail
      go_meet
      exact ⟨H2.out.sst hk 3, HG2.out.set ⟨gs, _, none⟩ _ (.inl (.inr (.inr (.inr (.inl rfl)))))⟩
    case rest =>
      obtain ⟨h4, hG4⟩ := hcut
      rename World => w4
      have H4 := Lib.hid h4; have HG4 := Lib.hid hG4; clear h4 hG4 e0 e1 e2 e3 e4 e5 ef f37 q37
      go_wp2_with fail
      go_ret2
      exact ⟨rfl, H4.out, HG4.out⟩
set_option maxRecDepth 100000 in
set_option maxHeartbeats 4000000 in
theorem rst_31b (k : Nat) (h : RefM rb gn gw gs ga gx n R w) (hk : k < n) (hs : R.st k = 3) (ha : R.ps k = 1) (ht : R.nx k ≠ -1) :
    Calls Try.prog 46 #[.pointer (some ⟨rb, 0, none⟩), .int .i64 k] w (RStQ rb gn gw gs ga gx n w false 0 { { R with ox := updF R.ox k (R.nx k) } with ps := updF { R with ox := updF R.ox k (R.nx k) }.ps k 3, st := updF { R with ox := updF R.ox k (R.nx k) }.st k 3 }) := by
  obtain ⟨c, hc, b0, b1, b2, b3, b4, b5, bf⟩ := h.cells
  have cs := h.st.at_ hk
  have cp := h.ps.at_ hk
  rw [hs] at cs; rw [ha] at cp
  have k0 : (0 : Int) ≤ (k : Int) := by omega
  have k1 : ¬ (k : Int) < 0 := by omega
  have k2 : decide ((k : Int) < 0) = false := by simp
  have k3 : decide ((n : Int) ≤ (k : Int)) = false := by simp; omega
  have k4 : decide (n ≤ k) = false := by simp; omega
  have k5 : (k : Int) < (n : Int) := by omega
  have t1 : (R.nx k == -1) = false := by simpa using ht
  clear ht
  have H := Lib.hid h; clear h hs ha
  go_enter Try.func46, Try.ntmps46
  have fq := H.out.ox.free k
  have cq := H.out.ox.at_ hk
  have cn := H.out.nx.at_ hk
  go_upto_region 25 with fail
  go_cut [] (fun wx => RefM rb gn gw gs ga gx n { R with ox := updF R.ox k (R.nx k) } wx ∧ But (OwnX rb gn gw gs ga gx) w wx)
  case first =>
    first | go_region | (go_wp2_with fail; go_region)
    go_wp2_with fail
    go_meet
    exact ⟨(H.out.sox hk (R.nx k)).drew, ((But.refl _ w).set ⟨gx, _, none⟩ _ (.inl (.inr (.inr (.inr (.inr (.inr rfl))))))).drew⟩
  obtain ⟨h1, hG1⟩ := hcut
  rename World => w1
  have H1 := Lib.hid h1; have HG1 := Lib.hid hG1
  clear h1 hG1 fq cq cn
  clear b0 b1 b2 b3 b4 b5 bf cs cp hc
  obtain ⟨c2, hc2, e0, e1, e2, e3, e4, e5, ef⟩ := H1.out.cells
  have cq : w1.cell? ⟨gx, k, none⟩ = some (.int .i64 (R.nx k)) := by have := H1.out.ox.at_ hk; simp only [updF_same] at this; exact this
  go_upto_region 36 with fail
  clear e0 e1 e2 e3 e4 e5 ef hc2 cq
  obtain ⟨c2, hc2, e0, e1, e2, e3, e4, e5, ef⟩ := H1.out.cells
  have f36 := H1.out.ps.free k
  have q36 := H1.out.ps.at_ hk
  go_cut [] (fun wx => RefM rb gn gw gs ga gx n { { R with ox := updF R.ox k (R.nx k) } with ps := updF { R with ox := updF R.ox k (R.nx k) }.ps k 3 } wx ∧ But (OwnX rb gn gw gs ga gx) w wx)
  case first =>
    go_wp2_with fail
    go_meet
    exact ⟨H1.out.sps hk 3, HG1.out.set ⟨ga, _, none⟩ _ (.inl (.inr (.inr (.inr (.inr (.inl rfl))))))⟩
  case rest =>
    obtain ⟨h2, hG2⟩ := hcut
    rename World => w2
    have H2 := Lib.hid h2; have HG2 := Lib.hid hG2; clear h2 hG2 e0 e1 e2 e3 e4 e5 ef f36 q36 H1 HG1 hc2
    obtain ⟨c3, hc3, e0, e1, e2, e3, e4, e5, ef⟩ := H2.out.cells
    have f37 := H2.out.st.free k
    have q37 := H2.out.st.at_ hk
    go_upto_region 37 with fail
    go_cut [] (fun wx => RefM rb gn gw gs ga gx n { { R with ox := updF R.ox k (R.nx k) } with ps := updF { R with ox := updF R.ox k (R.nx k) }.ps k 3, st := updF { R with ox := updF R.ox k (R.nx k) }.st k 3 } wx ∧ But (OwnX rb gn gw gs ga gx) w wx)
    case first =>
      go_wp2_with fail
      go_meet
      exact ⟨H2.out.sst hk 3, HG2.out.set ⟨gs, _, none⟩ _ (.inl (.inr (.inr (.inr (.inl rfl)))))⟩
    case rest =>
      obtain ⟨h4, hG4⟩ := hcut
      rename World => w4
      have H4 := Lib.hid h4; have HG4 := Lib.hid hG4; clear h4 hG4 e0 e1 e2 e3 e4 e5 ef f37 q37
      go_wp2_with fail
      go_ret2
      exact ⟨rfl, H4.out, HG4.out⟩
set_option maxRecDepth 100000 in
set_option maxHeartbeats 4000000 in
theorem rst_32a (k : Nat) (h : RefM rb gn gw gs ga gx n R w) (hk : k < n) (hs : R.st k = 3) (ha : R.ps k = 2) (ht : R.tail = (k : Int)) :
    Calls Try.prog 46 #[.pointer (some ⟨rb, 0, none⟩), .int .i64 k] w (RStQ rb gn gw gs ga gx n w true 0 { { R with tail := -1 } with ps := updF { R with tail := -1 }.ps k 1, st := updF { R with tail := -1 }.st k 0 }) := by
  obtain ⟨c, hc, b0, b1, b2, b3, b4, b5, bf⟩ := h.cells
  have cs := h.st.at_ hk
  have cp := h.ps.at_ hk
  rw [hs] at cs; rw [ha] at cp
  have k0 : (0 : Int) ≤ (k : Int) := by omega
  have k1 : ¬ (k : Int) < 0 := by omega
  have k2 : decide ((k : Int) < 0) = false := by simp
  have k3 : decide ((n : Int) ≤ (k : Int)) = false := by simp; omega
  have k4 : decide (n ≤ k) = false := by simp; omega
  have k5 : (k : Int) < (n : Int) := by omega
  have HT := Lib.hid ht; clear ht
  have H := Lib.hid h; clear h hs ha
  go_enter Try.func46, Try.ntmps46
  have c0 : w.cell? ⟨rb, 0, none⟩ = some (.int .i64 (k : Int)) := by rw [← HT.out]; exact b0
  clear b0
  have b0 := c0
  go_upto_region 36 with fail
  have H1 := Lib.hid (H.out.stail (-1))
  have HG1 : Hid (But (OwnX rb gn gw gs ga gx) w (w.setCell ⟨rb, 0, none⟩ (.int .i64 (-1)))) := (But.refl _ w).set ⟨rb, _, none⟩ _ (.inl (.inl rfl))
  clear c0
  clear b0 b1 b2 b3 b4 b5 bf cs cp hc
  generalize w.setCell ⟨rb, 0, none⟩ (.int .i64 (-1)) = w1 at *
  obtain ⟨c2, hc2, e0, e1, e2, e3, e4, e5, ef⟩ := H1.out.cells
  have f36 := H1.out.ps.free k
  have q36 := H1.out.ps.at_ hk
  go_cut [] (fun wx => RefM rb gn gw gs ga gx n { { R with tail := -1 } with ps := updF { R with tail := -1 }.ps k 1 } wx ∧ But (OwnX rb gn gw gs ga gx) w wx)
  case first =>
    go_wp2_with fail
    go_meet
    exact ⟨H1.out.sps hk 1, HG1.out.set ⟨ga, _, none⟩ _ (.inl (.inr (.inr (.inr (.inr (.inl rfl))))))⟩
  case rest =>
    obtain ⟨h2, hG2⟩ := hcut
    rename World => w2
    have H2 := Lib.hid h2; have HG2 := Lib.hid hG2; clear h2 hG2 e0 e1 e2 e3 e4 e5 ef f36 q36 H1 HG1 hc2
    obtain ⟨c3, hc3, e0, e1, e2, e3, e4, e5, ef⟩ := H2.out.cells
    have f37 := H2.out.st.free k
    have q37 := H2.out.st.at_ hk
    go_upto_region 37 with fail
    go_cut [] (fun wx => RefM rb gn gw gs ga gx n { { R with tail := -1 } with ps := updF { R with tail := -1 }.ps k 1, st := updF { R with tail := -1 }.st k 0 } wx ∧ But (OwnX rb gn gw gs ga gx) w wx)
    case first =>
      go_wp2_with fail
      go_meet
      exact ⟨H2.out.sst hk 0, HG2.out.set ⟨gs, _, none⟩ _ (.inl (.inr (.inr (.inr (.inl rfl)))))⟩
    case rest =>
      obtain ⟨h4, hG4⟩ := hcut
      rename World => w4
      have H4 := Lib.hid h4; have HG4 := Lib.hid hG4; clear h4 hG4 e0 e1 e2 e3 e4 e5 ef f37 q37
      go_wp2_with fail
      go_ret2
      exact ⟨rfl, H4.out, HG4.out⟩
set_option maxRecDepth 100000 in
set_option maxHeartbeats 4000000 in
theorem rst_32b (k : Nat) (h : RefM rb gn gw gs ga gx n R w) (hk : k < n) (hs : R.st k = 3) (ha : R.ps k = 2) (ht : R.tail ≠ (k : Int)) :
    Calls Try.prog 46 #[.pointer (some ⟨rb, 0, none⟩), .int .i64 k] w (RStQ rb gn gw gs ga gx n w false 0 { R with ps := updF R.ps k 1, st := updF R.st k 3 }) := by
  obtain ⟨c, hc, b0, b1, b2, b3, b4, b5, bf⟩ := h.cells
  have cs := h.st.at_ hk
  have cp := h.ps.at_ hk
  rw [hs] at cs; rw [ha] at cp
  have k0 : (0 : Int) ≤ (k : Int) := by omega
  have k1 : ¬ (k : Int) < 0 := by omega
  have k2 : decide ((k : Int) < 0) = false := by simp
  have k3 : decide ((n : Int) ≤ (k : Int)) = false := by simp; omega
  have k4 : decide (n ≤ k) = false := by simp; omega
  have k5 : (k : Int) < (n : Int) := by omega
  have t1 : (R.tail == (k : Int)) = false := by simpa using ht
  clear ht
  have H := Lib.hid h; clear h hs ha
  go_enter Try.func46, Try.ntmps46
  go_upto_region 36 with fail
  have H1 := H
  have HG1 : Hid (But (OwnX rb gn gw gs ga gx) w w) := But.refl _ w
  clear b0 b1 b2 b3 b4 b5 bf cs cp hc
  obtain ⟨c2, hc2, e0, e1, e2, e3, e4, e5, ef⟩ := H1.out.cells
  have f36 := H1.out.ps.free k
  have q36 := H1.out.ps.at_ hk
  go_cut [] (fun wx => RefM rb gn gw gs ga gx n { R with ps := updF R.ps k 1 } wx ∧ But (OwnX rb gn gw gs ga gx) w wx)
  case first =>
    go_wp2_with fail
    go_meet
    exact ⟨H1.out.sps hk 1, HG1.out.set ⟨ga, _, none⟩ _ (.inl (.inr (.inr (.inr (.inr (.inl rfl))))))⟩
  case rest =>
    obtain ⟨h2, hG2⟩ := hcut
    rename World => w2
    have H2 := Lib.hid h2; have HG2 := Lib.hid hG2; clear h2 hG2 e0 e1 e2 e3 e4 e5 ef f36 q36 H1 HG1 hc2
    obtain ⟨c3, hc3, e0, e1, e2, e3, e4, e5, ef⟩ := H2.out.cells
    have f37 := H2.out.st.free k
    have q37 := H2.out.st.at_ hk
    go_upto_region 37 with fail
    go_cut [] (fun wx => RefM rb gn gw gs ga gx n { R with ps := updF R.ps k 1, st := updF R.st k 3 } wx ∧ But (OwnX rb gn gw gs ga gx) w wx)
    case first =>
      go_wp2_with fail
      go_meet
      exact ⟨H2.out.sst hk 3, HG2.out.set ⟨gs, _, none⟩ _ (.inl (.inr (.inr (.inr (.inl rfl)))))⟩
    case rest =>
      obtain ⟨h4, hG4⟩ := hcut
      rename World => w4
      have H4 := Lib.hid h4; have HG4 := Lib.hid hG4; clear h4 hG4 e0 e1 e2 e3 e4 e5 ef f37 q37
      go_wp2_with fail
      go_ret2
      exact ⟨rfl, H4.out, HG4.out⟩
set_option maxRecDepth 100000 in
set_option maxHeartbeats 4000000 in
theorem rst_33 (k : Nat) (h : RefM rb gn gw gs ga gx n R w) (hk : k < n) (hs : R.st k = 3) (ha : R.ps k = 3) (q : Nat) (hq : q < n) (ho : R.ox k = (q : Int)) :
    Calls Try.prog 46 #[.pointer (some ⟨rb, 0, none⟩), .int .i64 k] w (RStQ rb gn gw gs ga gx n w true 0 { { R with wt := updF R.wt q false } with ps := updF { R with wt := updF R.wt q false }.ps k 4, st := updF { R with wt := updF R.wt q false }.st k 0 }) := by
  obtain ⟨c, hc, b0, b1, b2, b3, b4, b5, bf⟩ := h.cells
  have cs := h.st.at_ hk
  have cp := h.ps.at_ hk
  rw [hs] at cs; rw [ha] at cp
  have k0 : (0 : Int) ≤ (k : Int) := by omega
  have k1 : ¬ (k : Int) < 0 := by omega
  have k2 : decide ((k : Int) < 0) = false := by simp
  have k3 : decide ((n : Int) ≤ (k : Int)) = false := by simp; omega
  have k4 : decide (n ≤ k) = false := by simp; omega
  have k5 : (k : Int) < (n : Int) := by omega
  have co : w.cell? ⟨gx, k, none⟩ = some (.int .i64 (q : Int)) := by rw [← ho]; exact h.ox.at_ hk
  have q0 : (0 : Int) ≤ (q : Int) := by omega
  have q1 : (q : Int) < (n : Int) := by omega
  clear ho
  have H := Lib.hid h; clear h hs ha
  go_enter Try.func46, Try.ntmps46
  have fq := H.out.wt.free q
  have cq := H.out.wt.at_ hq
  go_upto_region 34 with fail
  first | go_region | (go_wp2_with fail; go_region)
  go_upto_region 36 with fail
  have H1 := Lib.hid (H.out.swt hq false).drew
  have HG1 : Hid (But (OwnX rb gn gw gs ga gx) w (w.setCell ⟨gw, q, none⟩ (.bool false)).drew) := ((But.refl _ w).set ⟨gw, _, none⟩ _ (.inl (.inr (.inr (.inl rfl))))).drew
  clear b0 b1 b2 b3 b4 b5 bf cs cp hc
  generalize (w.setCell ⟨gw, q, none⟩ (.bool false)).drew = w1 at *
  obtain ⟨c2, hc2, e0, e1, e2, e3, e4, e5, ef⟩ := H1.out.cells
  have f36 := H1.out.ps.free k
  have q36 := H1.out.ps.at_ hk
  go_cut [] (fun wx => RefM rb gn gw gs ga gx n { { R with wt := updF R.wt q false } with ps := updF { R with wt := updF R.wt q false }.ps k 4 } wx ∧ But (OwnX rb gn gw gs ga gx) w wx)
  case first =>
    go_wp2_with fail
    go_meet
    exact ⟨H1.out.sps hk 4, HG1.out.set ⟨ga, _, none⟩ _ (.inl (.inr (.inr (.inr (.inr (.inl rfl))))))⟩
  case rest =>
    obtain ⟨h2, hG2⟩ := hcut
    rename World => w2
    have H2 := Lib.hid h2; have HG2 := Lib.hid hG2; clear h2 hG2 e0 e1 e2 e3 e4 e5 ef f36 q36 H1 HG1 hc2
    obtain ⟨c3, hc3, e0, e1, e2, e3, e4, e5, ef⟩ := H2.out.cells
    have f37 := H2.out.st.free k
    have q37 := H2.out.st.at_ hk
    go_upto_region 37 with fail
    go_cut [] (fun wx => RefM rb gn gw gs ga gx n { { R with wt := updF R.wt q false } with ps := updF { R with wt := updF R.wt q false }.ps k 4, st := updF { R with wt := updF R.wt q false }.st k 0 } wx ∧ But (OwnX rb gn gw gs ga gx) w wx)
    case first =>
      go_wp2_with fail
      go_meet
      exact ⟨H2.out.sst hk 0, HG2.out.set ⟨gs, _, none⟩ _ (.inl (.inr (.inr (.inr (.inl rfl)))))⟩
    case rest =>
      obtain ⟨h4, hG4⟩ := hcut
      rename World => w4
      have H4 := Lib.hid h4; have HG4 := Lib.hid hG4; clear h4 hG4 e0 e1 e2 e3 e4 e5 ef f37 q37
      go_wp2_with fail
      go_ret2
      exact ⟨rfl, H4.out, HG4.out⟩
set_option maxRecDepth 100000 in
set_option maxHeartbeats 4000000 in
theorem rst_no (k : Int) (h : RefM rb gn gw gs ga gx n R w) (hk : k < 0 ∨ (n : Int) ≤ k) :
    Calls Try.prog 46 #[.pointer (some ⟨rb, 0, none⟩), .int .i64 k] w fun e w' => e = .returned (.tuple #[.bool false, .int .i64 1]) ∧ w = w' := by
  obtain ⟨c, hc, b0, b1, b2, b3, b4, b5, bf⟩ := h.cells
  clear h
  by_cases h0 : k < 0
  · have t : decide (k < 0) = true := by simpa using h0
    clear hk
    go_enter Try.func46, Try.ntmps46
    go_wp2
    go_ret2
    exact ⟨rfl, rfl⟩
  · have t : decide (k < 0) = false := by simpa using h0
    have t2 : (n : Int) ≤ k := by omega
    have t3 : decide ((n : Int) ≤ k) = true := by simpa using t2
    clear hk
    go_enter Try.func46, Try.ntmps46
    go_wp2
    go_ret2
    exact ⟨rfl, rfl⟩
set_option maxRecDepth 100000 in
set_option maxHeartbeats 8000000 in
theorem rst_idle (k : Nat) (h : RefM rb gn gw gs ga gx n R w) (hk : k < n) (hs : R.st k = 0 ∨ R.st k = 2) (ha : 0 ≤ R.ps k ∧ R.ps k ≤ 6) :
    Calls Try.prog 46 #[.pointer (some ⟨rb, 0, none⟩), .int .i64 k] w fun e w' => e = .returned (.tuple #[.bool false, .int .i64 5]) ∧ w = w' := by
  obtain ⟨c, hc, b0, b1, b2, b3, b4, b5, bf⟩ := h.cells
  have cs := h.st.at_ hk
  have cp := h.ps.at_ hk
  have k0 : (0 : Int) ≤ (k : Int) := by omega
  have k1 : ¬ (k : Int) < 0 := by omega
  have k2 : decide ((k : Int) < 0) = false := by simp
  have k3 : decide ((n : Int) ≤ (k : Int)) = false := by simp; omega
  have k4 : decide (n ≤ k) = false := by simp; omega
  have k5 : (k : Int) < (n : Int) := by omega
  have ha' : R.ps k = 0 ∨ R.ps k = 1 ∨ R.ps k = 2 ∨ R.ps k = 3 ∨ R.ps k = 4 ∨ R.ps k = 5 ∨ R.ps k = 6 := by omega
  clear h ha
  generalize R.st k = s at *
  generalize R.ps k = a at *
  rcases hs with rfl | rfl <;> rcases ha' with rfl | rfl | rfl | rfl | rfl | rfl | rfl
  all_goals
    go_enter Try.func46, Try.ntmps46
    go_wp2
    go_ret2
    exact ⟨rfl, rfl⟩
end
end Go.Proofs.Ytckdabokaelnoaa
