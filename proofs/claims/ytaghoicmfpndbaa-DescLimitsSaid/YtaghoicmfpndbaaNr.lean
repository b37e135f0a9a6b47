/- The contract of the document's IsName. -/
import Derived.Test.YtaghoicmfpndbaaNm
namespace Go.Proofs.Ytaghoicmfpndbaa
open Go.RowKit

theorem kind_low (c : Nat) : kindF c = 1 ↔ lowB c = true := by
  unfold kindF lowB
  constructor
  · intro h
    by_cases h1 : 97 ≤ c ∧ c ≤ 122
    · simp [h1.1, h1.2]
    · rw [if_neg h1] at h
      exfalso; revert h; (repeat' split) <;> omega
  · intro h; simp at h; rw [if_pos h]
theorem kind_name (c : Nat) : (kindF c = 1 ∨ kindF c = 2 ∨ kindF c = 3) ↔ nameB c = true := by
  have e : nameB c = true ↔ (97 ≤ c ∧ c ≤ 122) ∨ (48 ≤ c ∧ c ≤ 57) ∨ c = 95 := by simp [nameB, lowB, digB]
  rw [e]
  unfold kindF
  constructor
  · intro h; revert h; (repeat' split) <;> omega
  · intro h; (repeat' split) <;> omega
theorem nameF_yes {s : ByteArray} (h0 : 0 < s.size) (h : ∀ j, j < s.size → nameB (byteAt s j) = true) (hl : lowB (byteAt s 0) = true) : nameF s = (decide (s.size < 33) && !wordF s) := by
  unfold nameF
  rw [name_all h, hl, show decide (0 < s.size) = true by simpa using h0, show decide (s.size ≤ 32) = decide (s.size < 33) by simp; omega]; simp
theorem nameF_no {s : ByteArray} {j : Nat} (hj : j < s.size) (h : nameB (byteAt s j) = false ∨ (j = 0 ∧ lowB (byteAt s j) = false)) : nameF s = false := by
  unfold nameF
  rcases h with h | ⟨rfl, h⟩
  · rw [show decide (runEnd nameB (byteAt s) s.size 0 = s.size) = false by simpa using name_not hj h]; simp
  · rw [h]; simp
set_option maxHeartbeats 1000000 in
theorem refIsName_any (s : ByteArray) (w : World) (hs : s.size ≤ 100000) :
    Calls Try.prog 15 #[.string s] w fun e w' => e = .returned (.bool (nameF s)) ∧ w = w' := by
  obtain ⟨NF, hNF⟩ : ∃ NF, nameF s = NF := ⟨_, rfl⟩
  rw [hNF]
  have HNF := Lib.hid hNF; clear hNF
  go_enter Try.func15, Try.ntmps15
  go_wp2_with fail
  go_loopg [3] s.size (fun g x wx => ∃ k, k ≤ s.size ∧ g = s.size - k ∧ x = .int .i64 k ∧ Hid ((∀ j, j < k → nameB (byteAt s j) = true) ∧ (0 < k → lowB (byteAt s 0) = true)) ∧ w = wx)
  case atStart => exact ⟨0, by omega, by omega, rfl, ⟨fun j hj => by omega, fun h => by omega⟩, rfl⟩
  case round =>
    obtain ⟨k, hk, hg, hx, HA, rfl⟩ := hrel
    have HG := Lib.hid hg; clear hg
    subst hx
    by_cases hlt : k < s.size
    · have hbk := byteAt_eq s k hlt
      have j0 : (0 : Int) ≤ (k : Int) := by omega
      have j1 : (k : Int) < (s.size : Int) := by omega
      have hq := kind_any (byteAt s k)
      obtain ⟨n, hn⟩ : ∃ n, kindF (byteAt s k) = n := ⟨_, rfl⟩
      rw [hn] at hq
      have hlow := kind_low (byteAt s k)
      have hnam := kind_name (byteAt s k)
      rw [hn] at hlow hnam
      by_cases h1 : n = 1
      · subst h1
        have NB := Lib.hid (hnam.1 (.inl rfl))
        have LW := Lib.hid (hlow.1 rfl)
        have HQ := Lib.hid hq; have HN := Lib.hid hn; clear hq hn hlow hnam
        go_wp2_with (first | (go_at_call 25; (with_reducible refine (HQ.out _).mono ?_); rintro e wq ⟨rfl, rfl⟩))
        go_roundg (s.size - (k + 1))
        case measure => have := HG.out; omega
        case rel => exact ⟨k + 1, by omega, rfl, by go_num, ⟨fun j hj => by
          by_cases e : j = k
          · subst e; exact NB.out
          · exact HA.out.1 j (by omega), fun _ => (by
            by_cases e : k = 0
            · subst e; exact LW.out
            · exact HA.out.2 (by omega))⟩, rfl⟩
      have ln : lowB (byteAt s k) = false := by
        cases hb : lowB (byteAt s k) with
        | false => rfl
        | true => exact absurd (hlow.2 hb) h1
      have LN := Lib.hid ln; clear ln
      by_cases hk0 : k = 0
      · have t0 : ((k : Int) == 0) = true := by simp; omega
        have t1 : ((n : Int) != 1) = true := by simp; omega
        have K0 := Lib.hid hk0; have H1 := Lib.hid h1; clear hk0 h1
        have hv := nameF_no hlt (.inr ⟨K0.out, LN.out⟩)
        rw [HNF.out] at hv
        have HV := Lib.hid hv
        have HQ := Lib.hid hq; have HN := Lib.hid hn; clear hq hn hlow hnam hv
        go_wp2_with (first | (go_at_call 25; (with_reducible refine (HQ.out _).mono ?_); rintro e wq ⟨rfl, rfl⟩))
        go_ret
        exact ⟨by rw [HV.out] <;> rfl, rfl⟩
      have t0 : ((k : Int) == 0) = false := by simp; omega
      by_cases h2 : n = 2
      · subst h2
        have NB := Lib.hid (hnam.1 (by omega))
        have K0 := Lib.hid hk0; have H1 := Lib.hid h1; clear hk0 h1
        have HQ := Lib.hid hq; have HN := Lib.hid hn; clear hq hn hlow hnam
        go_wp2_with (first | (go_at_call 25; (with_reducible refine (HQ.out _).mono ?_); rintro e wq ⟨rfl, rfl⟩))
        go_roundg (s.size - (k + 1))
        case measure => have := HG.out; omega
        case rel => exact ⟨k + 1, by omega, rfl, by go_num, ⟨fun j hj => by
          by_cases e : j = k
          · subst e; exact NB.out
          · exact HA.out.1 j (by omega), fun _ => (HA.out.2 (by have := K0.out; omega))⟩, rfl⟩
      by_cases h3 : n = 3
      · subst h3
        have NB := Lib.hid (hnam.1 (by omega))
        have K0 := Lib.hid hk0; have H1 := Lib.hid h1; clear hk0 h1 h2
        have HQ := Lib.hid hq; have HN := Lib.hid hn; clear hq hn hlow hnam
        go_wp2_with (first | (go_at_call 25; (with_reducible refine (HQ.out _).mono ?_); rintro e wq ⟨rfl, rfl⟩))
        go_roundg (s.size - (k + 1))
        case measure => have := HG.out; omega
        case rel => exact ⟨k + 1, by omega, rfl, by go_num, ⟨fun j hj => by
          by_cases e : j = k
          · subst e; exact NB.out
          · exact HA.out.1 j (by omega), fun _ => (HA.out.2 (by have := K0.out; omega))⟩, rfl⟩
      have t1 : ((n : Int) != 1) = true := by simp; omega
      have t2 : ((n : Int) != 2) = true := by simp; omega
      have t3 : ((n : Int) != 3) = true := by simp; omega
      have nf : nameB (byteAt s k) = false := by
        cases hb : nameB (byteAt s k) with
        | false => rfl
        | true => have := hnam.2 hb; omega
      have NFF := Lib.hid nf; clear nf
      have K0 := Lib.hid hk0; clear hk0 h1 h2 h3
      have hv := nameF_no hlt (.inl NFF.out)
      rw [HNF.out] at hv
      have HV := Lib.hid hv
      have HQ := Lib.hid hq; have HN := Lib.hid hn; clear hq hn hlow hnam hv
      go_wp2_with (first | (go_at_call 25; (with_reducible refine (HQ.out _).mono ?_); rintro e wq ⟨rfl, rfl⟩))
      go_ret
      exact ⟨by rw [HV.out] <;> rfl, rfl⟩
    · obtain rfl : k = s.size := by omega
      by_cases h0 : s.size = 0
      · have d0 : decide (0 < s.size) = false := decide_eq_false (by omega)
        have d0' : decide ((0 : Int) < (s.size : Int)) = false := decide_eq_false (by omega)
        have hv : NF = false := by rw [← HNF.out]; unfold nameF; rw [d0]; simp
        have HV := Lib.hid hv; have H0 := Lib.hid h0; clear hv h0
        go_wp2_with fail
        go_ret
        exact ⟨by rw [HV.out] <;> rfl, rfl⟩
      · have hv := nameF_yes (by omega) HA.out.1 (HA.out.2 (by omega))
        rw [HNF.out] at hv
        have d0 : decide (0 < s.size) = true := decide_eq_true (by omega)
        have d0' : decide ((0 : Int) < (s.size : Int)) = true := decide_eq_true (by omega)
        have hwd := refIsWord_any s
        by_cases h33 : s.size < 33
        · have d1 : decide ((s.size : Int) < 33) = true := by simp; omega
          rw [show decide (s.size < 33) = true by simpa using h33] at hv
          have HV := Lib.hid hv; have HW := Lib.hid hwd; have H0 := Lib.hid h0; clear hv hwd h0
          generalize wordF s = WF at *
          go_wp2_with (first | (go_at_call 17; (with_reducible refine (HW.out _).mono ?_); rintro e wq ⟨rfl, rfl⟩))
          go_ret
          exact ⟨by rw [HV.out] <;> simp, rfl⟩
        · have d1 : decide ((s.size : Int) < 33) = false := by simp; omega
          rw [show decide (s.size < 33) = false by simpa using h33] at hv
          have HV := Lib.hid hv; have H0 := Lib.hid h0; clear hv hwd h0
          go_wp2_with fail
          go_ret
          exact ⟨by rw [HV.out] <;> rfl, rfl⟩
end Go.Proofs.Ytaghoicmfpndbaa
