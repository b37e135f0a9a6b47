/- layer 35 (census): IndexFunc, Histogram; the document's Slot. -/
import Derived.Test.YtnbiklkgkidlnaaCd
namespace Go.Proofs.Ytnbiklkgkidlnaa
open Go.RowKit Go.Shelf Go.Maps
set_option maxRecDepth 100000

theorem lt_of_cell {w : World} {p : Addr} {v : Value} (h : w.cell? p = some v) : p.block < w.heap.size := by
  unfold World.cell? at h
  by_cases q : p.block < w.heap.size
  · exact q
  · rw [Array.getElem?_eq_none (by omega)] at h; cases h
theorem below1_any (b n : Int) (q : Nat) (w : World) (hq : w.cell? ⟨q, 0, none⟩ = some (.int .i64 n)) :
    Calls Try.prog 18 #[.int .i64 b, .pointer (some ⟨q, 0, none⟩)] w fun e w' => e = .returned (.bool (decide (n < b))) ∧ w = w' := by
  go_enter Try.func18, Try.ntmps18
  go_wp2_with fail
  go_ret
  exact ⟨rfl, rfl⟩
def idxV (bs : List Int) (n : Int) : Int := if slotF bs n < bs.length then (slotF bs n : Nat) else -1
theorem slotF_drop (bs : List Int) (n : Int) {k : Nat} (hk : k < bs.length) : slotF (bs.drop k) n = if n < bs[k] then 0 else slotF (bs.drop (k + 1)) n + 1 := by
  rw [List.drop_eq_getElem_cons hk]; rfl
theorem slotF_end (bs : List Int) (n : Int) {k : Nat} (hk : bs.length ≤ k) : slotF (bs.drop k) n = 0 := by
  rw [List.drop_eq_nil_of_le hk]; rfl
set_option maxHeartbeats 2000000 in
theorem idxf_any (A : Option Addr) (bs : List Int) (m cap : Nat) (hm : bs.length = m) (hl : m ≤ 1000) (n : Int) (q : Nat) (w : World) (hq : w.cell? ⟨q, 0, none⟩ = some (.int .i64 n)) (h : RowN w.heap.size w A bs) :
    Calls Try.prog 17 #[.slice A m cap, .func (.func 18) #[] #[.pointer (some ⟨q, 0, none⟩)]] w fun e w' => e = .returned (.int .i64 (idxV bs n)) ∧ Below w.heap.size w w' := by
  have HQ := Lib.hid hq; have HR := Lib.hid h; have HM := Lib.hid hm
  obtain ⟨R, hR⟩ : ∃ R, slotF bs n = R := ⟨_, rfl⟩
  have HE : Hid (idxV bs n = if R < m then (R : Int) else -1) := by show _ = _; unfold idxV; rw [hR, hm]
  rw [HE.out]
  have HS := Lib.hid hR
  clear hq h hm hR HE
  go_enter Try.func17, Try.ntmps17
  go_wp2_with fail
  go_loopw [8] (fun iv wr => ∃ k : Nat, iv = .int .i64 k ∧ k ≤ m ∧ Below w.heap.size w wr ∧ slotF (bs.drop k) n + k = R) (fun iv _ => m - (intOf iv).toNat)
  case atStart => exact ⟨0, rfl, Nat.zero_le _, Below.refl _ _, by simpa using HS.out⟩
  case round =>
    obtain ⟨k, rfl, hk, hb, hr0⟩ := hrel
    have HB := Lib.hid hb; have HR0 := Lib.hid hr0
    clear hb hr0
    by_cases hlt : k < m
    · obtain ⟨b, o, rfl, -, hc⟩ := (HR.out.below HB.out) k (by rw [HM.out]; exact hlt)
      have hd := slotF_drop bs n (k := k) (by rw [HM.out]; exact hlt)
      generalize bs[k]'(by rw [HM.out]; exact hlt) = x at *
      have HD := Lib.hid hd
      clear hd
      have P := Lib.hid (below1_any x n q wr ((HB.out.cell (p := ⟨q, 0, none⟩) (lt_of_cell HQ.out)).trans HQ.out))
      have k0 : (0 : Int) ≤ (k : Int) := by omega
      have k1 : (k : Int) < (m : Int) := by omega
      by_cases hnx : n < x
      · have e : R = k := by have := HR0.out; rw [HD.out, if_pos hnx] at this; omega
        have ed : decide (n < x) = true := by simp [hnx]
        rw [ed] at P
        clear ed hnx
        go_wp2_with (go_at_call 18; (with_reducible refine P.out.mono ?_); rintro e w3 ⟨rfl, rfl⟩)
        go_ret
        exact ⟨by first | rfl | (rw [if_pos hlt]; rfl) | (rw [e, if_pos hlt]; rfl), HB.out⟩
      · have ed : decide (n < x) = false := by simp [hnx]
        have HN : Hid (slotF (bs.drop (k + 1)) n + (k + 1) = R) := by
          show _ = _
          have := HR0.out; rw [HD.out, if_neg hnx] at this; omega
        rw [ed] at P
        clear ed hnx
        go_wp2_with (go_at_call 18; (with_reducible refine P.out.mono ?_); rintro e w3 ⟨rfl, rfl⟩)
        go_roundw
        case rel => exact ⟨k + 1, by go_num, by omega, HB.out, HN.out⟩
        case measure => simp [intOf]; omega
    · obtain rfl : k = m := by omega
      have tk : ¬ (k : Int) < (k : Int) := by omega
      have e : R = k := by have := HR0.out; rw [slotF_end bs n (by rw [HM.out]; exact Nat.le_refl _)] at this; omega
      go_wp2_with fail
      go_ret
      exact ⟨by first | rfl | (rw [if_neg (Nat.lt_irrefl _)]; rfl) | (rw [e, if_neg (Nat.lt_irrefl _)]; rfl), HB.out⟩
set_option maxHeartbeats 2000000 in
theorem refslot_any (A : Option Addr) (bs : List Int) (m cap : Nat) (hm : bs.length = m) (hl : m ≤ 1000) (n : Int) (w : World) (h : RowN w.heap.size w A bs) :
    Calls Try.prog 8 #[.int .i64 n, .slice A m cap] w fun e w' => e = .returned (.int .i64 (slotF bs n : Nat)) ∧ w = w' := by
  have HR := Lib.hid h; have HM := Lib.hid hm
  obtain ⟨R, hR⟩ : ∃ R, slotF bs n = R := ⟨_, rfl⟩
  rw [hR]
  have HS := Lib.hid hR
  clear h hm hR
  go_enter Try.func8, Try.ntmps8
  go_wp2_with fail
  go_loopw [9] (fun iv wr => ∃ k : Nat, iv = .int .i64 k ∧ k ≤ m ∧ w = wr ∧ slotF (bs.drop k) n + k = R) (fun iv _ => m - (intOf iv).toNat)
  case atStart => exact ⟨0, rfl, Nat.zero_le _, rfl, by simpa using HS.out⟩
  case round =>
    obtain ⟨k, rfl, hk, rfl, hr0⟩ := hrel
    have HR0 := Lib.hid hr0
    clear hr0
    by_cases hlt : k < m
    · obtain ⟨b, o, rfl, -, hc⟩ := HR.out k (by rw [HM.out]; exact hlt)
      have hd := slotF_drop bs n (k := k) (by rw [HM.out]; exact hlt)
      generalize bs[k]'(by rw [HM.out]; exact hlt) = x at *
      have HD := Lib.hid hd
      clear hd
      have k0 : (0 : Int) ≤ (k : Int) := by omega
      have k1 : (k : Int) < (m : Int) := by omega
      by_cases hnx : n < x
      · have e : R = k := by have := HR0.out; rw [HD.out, if_pos hnx] at this; omega
        go_wp2_with fail
        go_ret
        exact ⟨by first | rfl | (rw [e]; rfl), rfl⟩
      · have HN : Hid (slotF (bs.drop (k + 1)) n + (k + 1) = R) := by
          show _ = _
          have := HR0.out; rw [HD.out, if_neg hnx] at this; omega
        go_wp2_with fail
        go_roundw
        case rel => exact ⟨k + 1, by go_num, by omega, trivial, HN.out⟩
        case measure => simp [intOf]; omega
    · obtain rfl : k = m := by omega
      have tk : ¬ (k : Int) < (k : Int) := by omega
      have e : R = k := by have := HR0.out; rw [slotF_end bs n (by rw [HM.out]; exact Nat.le_refl _)] at this; omega
      go_wp2_with fail
      go_ret
      exact ⟨by first | rfl | (rw [e]; rfl), rfl⟩
theorem make_zeros (m : Nat) (hm : m ≤ 4096) (W : World) : (Instr.makeSlice 26 (.int .i64 m) (.int .i64 m)).run Try.prog W = .ok (.slice (some ⟨W.heap.size, 0, none⟩) m m) (W.alloc (.cells (cN (List.replicate m 0)).toArray 3)) := by
  obtain ⟨i0, hi0, hz0, hz1, hz2⟩ := info_partsN infoI
  have := run_makeSlice (P := Try.prog) W 26 3 i0 (.int .i64 0) Try.underlying26 hi0 hz0 .i64 .i64 m m (by omega) (by omega) (by rw [hz1]; simp; omega) (by rw [hz2]; omega) (by omega)
  simp only [Int.toNat_natCast, hz1, Nat.mul_one] at this
  have hc : madeCells (Value.int IntKind.i64 0).cells m = (cN (List.replicate m 0)).toArray := Array.toList_inj.1 (by rw [show (Value.int IntKind.i64 0).cells = #[.int .i64 0] from rfl, toList_madeCells_one]; simp [cN])
  rw [hc] at this
  exact this
end Go.Proofs.Ytnbiklkgkidlnaa
