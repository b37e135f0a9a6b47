/- The contracts of IsName, the code's and the document's. -/
import Derived.Test.YtaghoicmfpndbaaIn
namespace Go.Proofs.Ytaghoicmfpndbaa
open Go.RowKit

/-- May a text be a name? -/
def nameF (s : ByteArray) : Bool := decide (0 < s.size) && (decide (s.size ≤ 32) && (lowB (byteAt s 0) && (!wordF s && decide (runEnd nameB (byteAt s) s.size 0 = s.size))))
theorem name_all {s : ByteArray} (h : ∀ j, j < s.size → nameB (byteAt s j) = true) : runEnd nameB (byteAt s) s.size 0 = s.size :=
  runEnd_eq nameB (byteAt s) s.size 0 s.size (by omega) (Nat.le_refl _) (fun j _ hj => h j hj) (.inl rfl)
theorem name_not {s : ByteArray} {j : Nat} (hj : j < s.size) (h : nameB (byteAt s j) = false) : ¬ runEnd nameB (byteAt s) s.size 0 = s.size := fun e => by
  have := (runEnd_spec nameB (byteAt s) s.size 0 (by omega)).2.2.1 j (by omega) (by rw [e]; exact hj)
  rw [h] at this; cases this
theorem empty_t {s : ByteArray} (h : s.size = 0) : s.toList.isEmpty = true := by
  rw [ByteArray.toList_eq]
  have : s.data.toList.length = 0 := by simpa using h
  rw [List.eq_nil_of_length_eq_zero this]; rfl
theorem empty_f {s : ByteArray} (h : s.size ≠ 0) : s.toList.isEmpty = false := by
  rw [ByteArray.toList_eq]
  cases hl : s.data.toList with
  | nil => have : s.data.toList.length = s.size := by simp
           rw [hl] at this; simp at this; omega
  | cons a l => rfl
set_option maxHeartbeats 1000000 in
theorem isName_any (s : ByteArray) (w : World) (hs : s.size ≤ 100000) :
    Calls Try.prog 14 #[.string s] w fun e w' => e = .returned (.bool (nameF s)) ∧ w = w' := by
  by_cases h0 : s.size = 0
  · have q := empty_t h0
    have hv : nameF s = false := by unfold nameF; simp [h0]
    rw [hv]; have H := Lib.hid h0; clear hv h0
    go_enter Try.func14, Try.ntmps14
    go_wp2_with fail
    go_ret
    exact ⟨rfl, rfl⟩
  have q := empty_f h0
  by_cases h1 : 32 < s.size
  · have d : decide ((32 : Int) < (s.size : Int)) = true := by simp; omega
    have hv : nameF s = false := by unfold nameF; rw [show decide (s.size ≤ 32) = false by simpa using h1]; simp
    rw [hv]; have H := Lib.hid h0; clear hv h0
    go_enter Try.func14, Try.ntmps14
    go_wp2_with fail
    go_ret
    exact ⟨rfl, rfl⟩
  have d : decide ((32 : Int) < (s.size : Int)) = false := by simp; omega
  have i0 : (0 : Int) < (s.size : Int) := by omega
  have hb := byteAt_eq s 0 (by omega)
  have hlw := isLetter_any (byteAt s 0)
  by_cases h2 : lowB (byteAt s 0) = true
  · rw [h2] at hlw
    have HL := Lib.hid hlw; clear hlw
    have hwd := isWord_any s
    by_cases h3 : wordF s = true
    · rw [h3] at hwd
      have HW := Lib.hid hwd; clear hwd
      have hv : nameF s = false := by unfold nameF; rw [h3]; simp
      rw [hv]; have H := Lib.hid h0; clear hv h0 h2 h3
      go_enter Try.func14, Try.ntmps14
      go_wp2_with (first | (go_at_call 26; (with_reducible refine (HL.out _).mono ?_); rintro e wq ⟨rfl, rfl⟩) | (go_at_call 16; (with_reducible refine (HW.out _).mono ?_); rintro e wq ⟨rfl, rfl⟩))
      go_ret
      exact ⟨rfl, rfl⟩
    · have h3' : wordF s = false := by simpa using h3
      rw [h3'] at hwd
      have HW := Lib.hid hwd; clear hwd
      have hT : Hid ((∀ j, j < s.size → nameB (byteAt s j) = true) → nameF s = true) := fun h => by
        unfold nameF; rw [h2, h3', name_all h, show decide (s.size ≤ 32) = true by simp; omega, show decide (0 < s.size) = true by simp; omega]; simp
      have hF : Hid (∀ j, j < s.size → nameB (byteAt s j) = false → nameF s = false) := fun j hj h => by
        unfold nameF; rw [show decide (runEnd nameB (byteAt s) s.size 0 = s.size) = false by simpa using name_not hj h]; simp
      have H := Lib.hid h0; clear h0 h2 h3 h3'
      generalize nameF s = NF at *
      go_enter Try.func14, Try.ntmps14
      go_wp2_with (first | (go_at_call 26; (with_reducible refine (HL.out _).mono ?_); rintro e wq ⟨rfl, rfl⟩) | (go_at_call 16; (with_reducible refine (HW.out _).mono ?_); rintro e wq ⟨rfl, rfl⟩))
      clear hb
      go_loopg [23] s.size (fun g x wx => ∃ k, k ≤ s.size ∧ g = s.size - k ∧ x = .int .i64 k ∧ Hid (∀ j, j < k → nameB (byteAt s j) = true) ∧ w = wx)
      case atStart => exact ⟨0, by omega, by omega, rfl, fun j hj => by omega, rfl⟩
      case round =>
        obtain ⟨k, hk, hg, hx, HA, rfl⟩ := hrel
        have HG := Lib.hid hg; clear hg
        subst hx
        by_cases hlt : k < s.size
        · have hbk := byteAt_eq s k hlt
          have j0 : (0 : Int) ≤ (k : Int) := by omega
          have j1 : (k : Int) < (s.size : Int) := by omega
          have hq := isNameByte_any (byteAt s k)
          by_cases hn : nameB (byteAt s k) = true
          · rw [hn] at hq
            have HQ := Lib.hid hq; have HN := Lib.hid hn; clear hq hn
            go_wp2_with (first | (go_at_call 27; (with_reducible refine (HQ.out _).mono ?_); rintro e wq ⟨rfl, rfl⟩))
            go_roundg (s.size - (k + 1))
            case measure => have := HG.out; omega
            case rel => exact ⟨k + 1, by omega, rfl, by go_num, fun j hj => by
              by_cases e : j = k
              · subst e; exact HN.out
              · exact HA.out j (by omega), rfl⟩
          · have hn : nameB (byteAt s k) = false := by simpa using hn
            rw [hn] at hq
            have hv := hF.out k hlt hn
            have HQ := Lib.hid hq; have HV := Lib.hid hv; clear hq hn hv
            go_wp2_with (first | (go_at_call 27; (with_reducible refine (HQ.out _).mono ?_); rintro e wq ⟨rfl, rfl⟩))
            go_ret
            exact ⟨by rw [HV.out] <;> rfl, rfl⟩
        · obtain rfl : k = s.size := by omega
          have HV := Lib.hid (hT.out HA.out)
          go_wp2_with fail
          go_ret
          exact ⟨by rw [HV.out] <;> rfl, rfl⟩
  · have h2' : lowB (byteAt s 0) = false := by simpa using h2
    rw [h2'] at hlw
    have HL := Lib.hid hlw; clear hlw
    have hv : nameF s = false := by unfold nameF; rw [h2']; simp
    rw [hv]; have H := Lib.hid h0; clear hv h0 h2 h2'
    go_enter Try.func14, Try.ntmps14
    go_wp2_with (first | (go_at_call 26; (with_reducible refine (HL.out _).mono ?_); rintro e wq ⟨rfl, rfl⟩))
    go_ret
    exact ⟨rfl, rfl⟩
end Go.Proofs.Ytaghoicmfpndbaa
