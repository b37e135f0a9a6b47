/- The first row of which a question holds: printed by wip/src14/gen_cg.py (layer 14). -/
import Derived.Test.YtdomgipbadimmaaCf
namespace Go.Proofs.Ytdomgipbadimmaa
open Go.RowKit
set_option maxRecDepth 100000

/-- A round's rows in a block. -/
theorem RndM.at_ {w : World} {lab : Nat → LabC} {i : Nat} {rv : Value} {L : List CRow} (h : RndM w lab i rv L) {k : Nat} {r : CRow} (hr : L[k]? = some r) :
    ∃ (g cap : Nat) (tv : Value), rv = .slice (some ⟨g, 0, none⟩) L.length cap ∧ w.cell? ⟨g, k * 2, none⟩ = some (.int .i64 r.1) ∧ w.cell? ⟨g, k * 2 + 1, none⟩ = some tv ∧ CutR 0 tv r.2 w ∧ g < w.heap.size := by
  rcases h with ⟨rfl, rfl⟩ | ⟨g, cap, cs, rfl, hc, hg, hk, hs, hrow⟩
  · simp at hr
  · obtain ⟨h1, tv, h2, h3⟩ := hrow k r hr
    exact ⟨g, cap, tv, rfl, by rw [hk.cell, Nat.mul_comm]; exact h1, by rw [hk.cell, Nat.mul_comm]; exact h2, h3.cut, hk.lt⟩
set_option maxHeartbeats 2000000 in
theorem idx_of {w : World} {lab : Nat → LabC} {i : Nat} {rv : Value} {L : List CRow} (z : Int) (hl : L.length ≤ 1000) (h : RndM w lab i rv L) (q : Nat) (hq : w.cell? ⟨q, 0, none⟩ = some (.int .i64 z)) :
    Calls Try.prog 64 #[rv, fOf q] w fun e w' => e = .returned (.int .i64 (idxR (ofR z) L 0)) ∧ Below w.heap.size w w' := by
  have HQ := Lib.hid hq
  clear hq
  obtain ⟨A, cap, rfl, -⟩ := h.slice
  have HR := Lib.hid h
  obtain ⟨R, hR⟩ : ∃ R, idxR (ofR z) L 0 = R := ⟨_, rfl⟩
  have HE := Lib.hid hR
  rw [hR]
  clear h hR
  obtain ⟨n, hn⟩ : ∃ n, L.length = n := ⟨_, rfl⟩
  rw [hn] at hl ⊢
  have HN := Lib.hid hn
  clear hn
  unfold fOf
  go_enter Try.func64, Try.ntmps64
  go_wp2_with fail
  go_loopw [8] (fun iv wr => ∃ k : Nat, iv = .int .i64 k ∧ k ≤ n ∧ Below w.heap.size w wr ∧ idxR (ofR z) (L.drop k) k = R) (fun iv _ => n - (intOf iv).toNat)
  case atStart => exact ⟨0, rfl, Nat.zero_le _, Below.refl _ _, by simpa using HE.out⟩
  case round =>
    obtain ⟨k, rfl, hk, hb, hr0⟩ := hrel
    by_cases hlt : k < n
    · have hn := HN.out
      obtain ⟨r, hr⟩ : ∃ r, L[k]? = some r := ⟨_, List.getElem?_eq_getElem (by omega)⟩
      have hd : L.drop k = r :: L.drop (k + 1) := by
        rw [List.drop_eq_getElem_cons (by omega)]
        congr 1
        rw [List.getElem?_eq_getElem (by omega)] at hr; simpa using hr
      rw [hd] at hr0
      obtain ⟨g, c, tv, hrv, c0, c1, htv, hg⟩ := HR.out.at_ hr
      simp only [Value.slice.injEq] at hrv
      obtain ⟨rfl, -, rfl⟩ := hrv
      have P := Lib.hid (of1_any r.1 z tv q wr ((hb.cell (p := ⟨q, 0, none⟩) (lt_of_cell HQ.out)).trans HQ.out))
      have e0 := (hb.cell (p := ⟨g, k * 2, none⟩) hg).trans c0
      have e1 := (hb.cell (p := ⟨g, k * 2 + 1, none⟩) hg).trans c1
      have HB := Lib.hid hb; have HR0 := Lib.hid hr0
      have k0 : (0 : Int) ≤ (k : Int) := by omega
      have k1 : (k : Int) < (n : Int) := by omega
      clear c0 c1 htv hb hr0 hd hr hn
      unfold idxR ofR at HR0
      obtain ⟨b, hbv⟩ : ∃ b, (r.1 == z) = b := ⟨_, rfl⟩
      rw [hbv] at P HR0
      clear hbv
      cases b with
      | true =>
        go_wp2_with (go_at_call 82; (with_reducible refine P.out.mono ?_); rintro e w3 ⟨rfl, h3⟩; have HB3 := Lib.hid (HB.out.trans (h3.mono HB.out.size)); clear h3)
        go_ret
        have e := HR0.out
        simp only [↓reduceIte] at e
        exact ⟨by rw [← e] <;> rfl, HB3.out⟩
      | false =>
        go_wp2_with (go_at_call 82; (with_reducible refine P.out.mono ?_); rintro e w3 ⟨rfl, h3⟩; have HB3 := Lib.hid (HB.out.trans (h3.mono HB.out.size)); clear h3)
        go_roundw
        case rel =>
          have e := HR0.out
          rw [if_neg (by simp)] at e
          exact ⟨k + 1, by go_num, by omega, HB3.out, e⟩
        case measure => simp [intOf]; omega
    · obtain rfl : k = n := by omega
      have tk : ¬ (k : Int) < (k : Int) := by omega
      have HB := Lib.hid hb; have HR0 := Lib.hid hr0
      clear hb hr0
      go_wp2_with fail
      go_ret
      have e := HR0.out
      rw [List.drop_of_length_le (by rw [HN.out]; exact Nat.le_refl _)] at e
      exact ⟨by rw [← e] <;> rfl, HB.out⟩
set_option maxHeartbeats 2000000 in
theorem idx_not {w : World} {lab : Nat → LabC} {i : Nat} {rv : Value} {L : List CRow} (z : Int) (hl : L.length ≤ 1000) (h : RndM w lab i rv L) (q q0 : Nat) (hq : w.cell? ⟨q, 0, none⟩ = some (fOf q0)) (hq0 : w.cell? ⟨q0, 0, none⟩ = some (.int .i64 z)) :
    Calls Try.prog 64 #[rv, fNot q] w fun e w' => e = .returned (.int .i64 (idxR (notR z) L 0)) ∧ Below w.heap.size w w' := by
  have HQ := Lib.hid hq; have HQ0 := Lib.hid hq0
  clear hq hq0
  obtain ⟨A, cap, rfl, -⟩ := h.slice
  have HR := Lib.hid h
  obtain ⟨R, hR⟩ : ∃ R, idxR (notR z) L 0 = R := ⟨_, rfl⟩
  have HE := Lib.hid hR
  rw [hR]
  clear h hR
  obtain ⟨n, hn⟩ : ∃ n, L.length = n := ⟨_, rfl⟩
  rw [hn] at hl ⊢
  have HN := Lib.hid hn
  clear hn
  unfold fNot
  go_enter Try.func64, Try.ntmps64
  go_wp2_with fail
  go_loopw [8] (fun iv wr => ∃ k : Nat, iv = .int .i64 k ∧ k ≤ n ∧ Below w.heap.size w wr ∧ idxR (notR z) (L.drop k) k = R) (fun iv _ => n - (intOf iv).toNat)
  case atStart => exact ⟨0, rfl, Nat.zero_le _, Below.refl _ _, by simpa using HE.out⟩
  case round =>
    obtain ⟨k, rfl, hk, hb, hr0⟩ := hrel
    by_cases hlt : k < n
    · have hn := HN.out
      obtain ⟨r, hr⟩ : ∃ r, L[k]? = some r := ⟨_, List.getElem?_eq_getElem (by omega)⟩
      have hd : L.drop k = r :: L.drop (k + 1) := by
        rw [List.drop_eq_getElem_cons (by omega)]
        congr 1
        rw [List.getElem?_eq_getElem (by omega)] at hr; simpa using hr
      rw [hd] at hr0
      obtain ⟨g, c, tv, hrv, c0, c1, htv, hg⟩ := HR.out.at_ hr
      simp only [Value.slice.injEq] at hrv
      obtain ⟨rfl, -, rfl⟩ := hrv
      have P := Lib.hid (not1_any r.1 z tv q q0 wr ((hb.cell (p := ⟨q, 0, none⟩) (lt_of_cell HQ.out)).trans HQ.out) ((hb.cell (p := ⟨q0, 0, none⟩) (lt_of_cell HQ0.out)).trans HQ0.out))
      have e0 := (hb.cell (p := ⟨g, k * 2, none⟩) hg).trans c0
      have e1 := (hb.cell (p := ⟨g, k * 2 + 1, none⟩) hg).trans c1
      have HB := Lib.hid hb; have HR0 := Lib.hid hr0
      have k0 : (0 : Int) ≤ (k : Int) := by omega
      have k1 : (k : Int) < (n : Int) := by omega
      clear c0 c1 htv hb hr0 hd hr hn
      unfold idxR notR at HR0
      obtain ⟨b, hbv⟩ : ∃ b, (!(r.1 == z)) = b := ⟨_, rfl⟩
      rw [hbv] at P HR0
      clear hbv
      cases b with
      | true =>
        go_wp2_with (go_at_call 83; (with_reducible refine P.out.mono ?_); rintro e w3 ⟨rfl, h3⟩; have HB3 := Lib.hid (HB.out.trans (h3.mono HB.out.size)); clear h3)
        go_ret
        have e := HR0.out
        simp only [↓reduceIte] at e
        exact ⟨by rw [← e] <;> rfl, HB3.out⟩
      | false =>
        go_wp2_with (go_at_call 83; (with_reducible refine P.out.mono ?_); rintro e w3 ⟨rfl, h3⟩; have HB3 := Lib.hid (HB.out.trans (h3.mono HB.out.size)); clear h3)
        go_roundw
        case rel =>
          have e := HR0.out
          rw [if_neg (by simp)] at e
          exact ⟨k + 1, by go_num, by omega, HB3.out, e⟩
        case measure => simp [intOf]; omega
    · obtain rfl : k = n := by omega
      have tk : ¬ (k : Int) < (k : Int) := by omega
      have HB := Lib.hid hb; have HR0 := Lib.hid hr0
      clear hb hr0
      go_wp2_with fail
      go_ret
      have e := HR0.out
      rw [List.drop_of_length_le (by rw [HN.out]; exact Nat.le_refl _)] at e
      exact ⟨by rw [← e] <;> rfl, HB.out⟩
set_option maxHeartbeats 2000000 in
theorem idx_with {w : World} {lab : Nat → LabC} {i : Nat} {rv : Value} {L : List CRow} (z : Int) (hl : L.length ≤ 1000) (h : RndM w lab i rv L) (q : Nat) (hq : w.cell? ⟨q, 0, none⟩ = some (.int .i64 z)) (hm : ∀ r ∈ L, r.2.length ≤ 1000) :
    Calls Try.prog 64 #[rv, fWith q] w fun e w' => e = .returned (.int .i64 (idxR (withR z) L 0)) ∧ Below w.heap.size w w' := by
  have HQ := Lib.hid hq; have HM := Lib.hid hm
  clear hq hm
  obtain ⟨A, cap, rfl, -⟩ := h.slice
  have HR := Lib.hid h
  obtain ⟨R, hR⟩ : ∃ R, idxR (withR z) L 0 = R := ⟨_, rfl⟩
  have HE := Lib.hid hR
  rw [hR]
  clear h hR
  obtain ⟨n, hn⟩ : ∃ n, L.length = n := ⟨_, rfl⟩
  rw [hn] at hl ⊢
  have HN := Lib.hid hn
  clear hn
  unfold fWith
  go_enter Try.func64, Try.ntmps64
  go_wp2_with fail
  go_loopw [8] (fun iv wr => ∃ k : Nat, iv = .int .i64 k ∧ k ≤ n ∧ Below w.heap.size w wr ∧ idxR (withR z) (L.drop k) k = R) (fun iv _ => n - (intOf iv).toNat)
  case atStart => exact ⟨0, rfl, Nat.zero_le _, Below.refl _ _, by simpa using HE.out⟩
  case round =>
    obtain ⟨k, rfl, hk, hb, hr0⟩ := hrel
    by_cases hlt : k < n
    · have hn := HN.out
      obtain ⟨r, hr⟩ : ∃ r, L[k]? = some r := ⟨_, List.getElem?_eq_getElem (by omega)⟩
      have hd : L.drop k = r :: L.drop (k + 1) := by
        rw [List.drop_eq_getElem_cons (by omega)]
        congr 1
        rw [List.getElem?_eq_getElem (by omega)] at hr; simpa using hr
      rw [hd] at hr0
      obtain ⟨g, c, tv, hrv, c0, c1, htv, hg⟩ := HR.out.at_ hr
      simp only [Value.slice.injEq] at hrv
      obtain ⟨rfl, -, rfl⟩ := hrv
      have P := Lib.hid (with1_any r.1 z tv r.2 q wr ((hb.cell (p := ⟨q, 0, none⟩) (lt_of_cell HQ.out)).trans HQ.out) (htv.but (But.of_below (X := Nob) hb) (fun _ _ => id)) (HM.out r (List.mem_of_getElem? hr)))
      have e0 := (hb.cell (p := ⟨g, k * 2, none⟩) hg).trans c0
      have e1 := (hb.cell (p := ⟨g, k * 2 + 1, none⟩) hg).trans c1
      have HB := Lib.hid hb; have HR0 := Lib.hid hr0
      have k0 : (0 : Int) ≤ (k : Int) := by omega
      have k1 : (k : Int) < (n : Int) := by omega
      clear c0 c1 htv hb hr0 hd hr hn
      unfold idxR withR at HR0
      obtain ⟨b, hbv⟩ : ∃ b, (r.2.contains z) = b := ⟨_, rfl⟩
      rw [hbv] at P HR0
      clear hbv
      cases b with
      | true =>
        go_wp2_with (go_at_call 65; (with_reducible refine P.out.mono ?_); rintro e w3 ⟨rfl, h3⟩; have HB3 := Lib.hid (HB.out.trans (h3.mono HB.out.size)); clear h3)
        go_ret
        have e := HR0.out
        simp only [↓reduceIte] at e
        exact ⟨by rw [← e] <;> rfl, HB3.out⟩
      | false =>
        go_wp2_with (go_at_call 65; (with_reducible refine P.out.mono ?_); rintro e w3 ⟨rfl, h3⟩; have HB3 := Lib.hid (HB.out.trans (h3.mono HB.out.size)); clear h3)
        go_roundw
        case rel =>
          have e := HR0.out
          rw [if_neg (by simp)] at e
          exact ⟨k + 1, by go_num, by omega, HB3.out, e⟩
        case measure => simp [intOf]; omega
    · obtain rfl : k = n := by omega
      have tk : ¬ (k : Int) < (k : Int) := by omega
      have HB := Lib.hid hb; have HR0 := Lib.hid hr0
      clear hb hr0
      go_wp2_with fail
      go_ret
      have e := HR0.out
      rw [List.drop_of_length_le (by rw [HN.out]; exact Nat.le_refl _)] at e
      exact ⟨by rw [← e] <;> rfl, HB.out⟩
end Go.Proofs.Ytdomgipbadimmaa
