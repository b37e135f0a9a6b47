/- The contracts of desc's byte kinds, of the reader's pass and skip. -/
import Derived.Test.YtaghoicmfpndbaaDr
namespace Go.Proofs.Ytaghoicmfpndbaa
open Go.RowKit

set_option maxHeartbeats 400000 in
theorem isLetter_any (c : Nat) (w : World) : Calls Try.prog 26 #[.int .u8 c] w fun e w' => e = .returned (.bool (lowB c)) ∧ w = w' := by
  by_cases h1 : 97 ≤ c
  · have d1 : decide ((97 : Int) ≤ (c : Int)) = true := by simp; omega
    by_cases h2 : c ≤ 122
    · have d2 : decide ((c : Int) ≤ 122) = true := by simp; omega
      have hv : lowB c = true := by simp [lowB, h1, h2]
      rw [hv]; clear hv
      go_enter Try.func26, Try.ntmps26
      go_wp2
      go_ret
      exact ⟨rfl, rfl⟩
    · have d2 : decide ((c : Int) ≤ 122) = false := by simp; omega
      have hv : lowB c = false := by simp [lowB]; omega
      rw [hv]; clear hv
      go_enter Try.func26, Try.ntmps26
      go_wp2
      go_ret
      exact ⟨rfl, rfl⟩
  · have d1 : decide ((97 : Int) ≤ (c : Int)) = false := by simp; omega
    have hv : lowB c = false := by simp [lowB]; omega
    rw [hv]; clear hv
    go_enter Try.func26, Try.ntmps26
    go_wp2
    go_ret
    exact ⟨rfl, rfl⟩
set_option maxHeartbeats 400000 in
theorem isDigit_any (c : Nat) (w : World) : Calls Try.prog 34 #[.int .u8 c] w fun e w' => e = .returned (.bool (digB c)) ∧ w = w' := by
  by_cases h1 : 48 ≤ c
  · have d1 : decide ((48 : Int) ≤ (c : Int)) = true := by simp; omega
    by_cases h2 : c ≤ 57
    · have d2 : decide ((c : Int) ≤ 57) = true := by simp; omega
      have hv : digB c = true := by simp [digB, h1, h2]
      rw [hv]; clear hv
      go_enter Try.func34, Try.ntmps34
      go_wp2
      go_ret
      exact ⟨rfl, rfl⟩
    · have d2 : decide ((c : Int) ≤ 57) = false := by simp; omega
      have hv : digB c = false := by simp [digB]; omega
      rw [hv]; clear hv
      go_enter Try.func34, Try.ntmps34
      go_wp2
      go_ret
      exact ⟨rfl, rfl⟩
  · have d1 : decide ((48 : Int) ≤ (c : Int)) = false := by simp; omega
    have hv : digB c = false := by simp [digB]; omega
    rw [hv]; clear hv
    go_enter Try.func34, Try.ntmps34
    go_wp2
    go_ret
    exact ⟨rfl, rfl⟩
set_option maxHeartbeats 400000 in
theorem isBlank_any (c : Nat) (w : World) : Calls Try.prog 31 #[.int .u8 c] w fun e w' => e = .returned (.bool (blankB c)) ∧ w = w' := by
  by_cases h32 : c = 32
  · have t32 : ((c : Int) == 32) = true := by simp; omega
    have hv : blankB c = true := by simp [blankB, h32]
    rw [hv]
    clear hv h32
    go_enter Try.func31, Try.ntmps31
    go_wp2
    go_ret
    exact ⟨rfl, rfl⟩
  · have t32 : ((c : Int) == 32) = false := by simp; omega
    by_cases h9 : c = 9
    · have t9 : ((c : Int) == 9) = true := by simp; omega
      have hv : blankB c = true := by simp [blankB, h9]
      rw [hv]
      clear hv h9
      go_enter Try.func31, Try.ntmps31
      go_wp2
      go_ret
      exact ⟨rfl, rfl⟩
    · have t9 : ((c : Int) == 9) = false := by simp; omega
      by_cases h10 : c = 10
      · have t10 : ((c : Int) == 10) = true := by simp; omega
        have hv : blankB c = true := by simp [blankB, h10]
        rw [hv]
        clear hv h10
        go_enter Try.func31, Try.ntmps31
        go_wp2
        go_ret
        exact ⟨rfl, rfl⟩
      · have t10 : ((c : Int) == 10) = false := by simp; omega
        by_cases h13 : c = 13
        · have t13 : ((c : Int) == 13) = true := by simp; omega
          have hv : blankB c = true := by simp [blankB, h13]
          rw [hv]
          clear hv h13
          go_enter Try.func31, Try.ntmps31
          go_wp2
          go_ret
          exact ⟨rfl, rfl⟩
        · have t13 : ((c : Int) == 13) = false := by simp; omega
          have hv : blankB c = false := by simp [blankB, h32, h9, h10, h13]
          rw [hv]
          clear hv h32 h9 h10 h13
          go_enter Try.func31, Try.ntmps31
          go_wp2
          go_ret
          exact ⟨rfl, rfl⟩
set_option maxHeartbeats 400000 in
theorem isSign_any (c : Nat) (w : World) : Calls Try.prog 36 #[.int .u8 c] w fun e w' => e = .returned (.bool (signB c)) ∧ w = w' := by
  by_cases h123 : c = 123
  · have t123 : ((c : Int) == 123) = true := by simp; omega
    have hv : signB c = true := by simp [signB, h123]
    rw [hv]
    clear hv h123
    go_enter Try.func36, Try.ntmps36
    go_wp2
    go_ret
    exact ⟨rfl, rfl⟩
  · have t123 : ((c : Int) == 123) = false := by simp; omega
    by_cases h125 : c = 125
    · have t125 : ((c : Int) == 125) = true := by simp; omega
      have hv : signB c = true := by simp [signB, h125]
      rw [hv]
      clear hv h125
      go_enter Try.func36, Try.ntmps36
      go_wp2
      go_ret
      exact ⟨rfl, rfl⟩
    · have t125 : ((c : Int) == 125) = false := by simp; omega
      by_cases h59 : c = 59
      · have t59 : ((c : Int) == 59) = true := by simp; omega
        have hv : signB c = true := by simp [signB, h59]
        rw [hv]
        clear hv h59
        go_enter Try.func36, Try.ntmps36
        go_wp2
        go_ret
        exact ⟨rfl, rfl⟩
      · have t59 : ((c : Int) == 59) = false := by simp; omega
        have hv : signB c = false := by simp [signB, h123, h125, h59]
        rw [hv]
        clear hv h123 h125 h59
        go_enter Try.func36, Try.ntmps36
        go_wp2
        go_ret
        exact ⟨rfl, rfl⟩
set_option maxHeartbeats 400000 in
theorem isNoteByte_any (c : Nat) (w : World) : Calls Try.prog 33 #[.int .u8 c] w fun e w' => e = .returned (.bool (noteB c)) ∧ w = w' := by
  by_cases h10 : c = 10
  · have t10 : ((c : Int) != 10) = false := by simp; omega
    have hv : noteB c = false := by simp [noteB, h10]
    rw [hv]; clear hv h10
    go_enter Try.func33, Try.ntmps33
    go_wp2
    go_ret
    exact ⟨rfl, rfl⟩
  · have t10 : ((c : Int) != 10) = true := by simp; omega
    have hv : noteB c = true := by simp [noteB, h10]
    rw [hv]; clear hv h10
    go_enter Try.func33, Try.ntmps33
    go_wp2
    go_ret
    exact ⟨rfl, rfl⟩
set_option maxHeartbeats 400000 in
theorem isNameByte_any (c : Nat) (w : World) : Calls Try.prog 27 #[.int .u8 c] w fun e w' => e = .returned (.bool (nameB c)) ∧ w = w' := by
  have c0 := isLetter_any c
  have c1 := isDigit_any c
  by_cases b0 : lowB c = true
  · rw [b0] at c0
    have C0 := Lib.hid c0
    have C1 := Lib.hid c1
    clear c0 c1
    have hv : nameB c = true := by simp [nameB, b0]
    rw [hv]; clear hv b0
    go_enter Try.func27, Try.ntmps27
    go_wp2_with (first | (go_at_call 26; (with_reducible refine (C0.out _).mono ?_); rintro e w1 ⟨rfl, rfl⟩) | (go_at_call 34; (with_reducible refine (C1.out _).mono ?_); rintro e w1 ⟨rfl, rfl⟩))
    go_ret
    exact ⟨rfl, rfl⟩
  · have b0 : lowB c = false := by simpa using b0
    rw [b0] at c0
    by_cases b1 : digB c = true
    · rw [b1] at c1
      have C0 := Lib.hid c0
      have C1 := Lib.hid c1
      clear c0 c1
      have hv : nameB c = true := by simp [nameB, b1]
      rw [hv]; clear hv b1
      go_enter Try.func27, Try.ntmps27
      go_wp2_with (first | (go_at_call 26; (with_reducible refine (C0.out _).mono ?_); rintro e w1 ⟨rfl, rfl⟩) | (go_at_call 34; (with_reducible refine (C1.out _).mono ?_); rintro e w1 ⟨rfl, rfl⟩))
      go_ret
      exact ⟨rfl, rfl⟩
    · have b1 : digB c = false := by simpa using b1
      rw [b1] at c1
      have C0 := Lib.hid c0
      have C1 := Lib.hid c1
      clear c0 c1
      by_cases h95 : c = 95
      · have t95 : ((c : Int) == 95) = true := by simp; omega
        have hv : nameB c = true := by simp [nameB, h95]
        rw [hv]; clear hv b0 b1 h95
        go_enter Try.func27, Try.ntmps27
        go_wp2_with (first | (go_at_call 26; (with_reducible refine (C0.out _).mono ?_); rintro e w1 ⟨rfl, rfl⟩) | (go_at_call 34; (with_reducible refine (C1.out _).mono ?_); rintro e w1 ⟨rfl, rfl⟩))
        go_ret
        exact ⟨rfl, rfl⟩
      · have t95 : ((c : Int) == 95) = false := by simp; omega
        have hv : nameB c = false := by simp [nameB, b0, b1, h95]
        rw [hv]; clear hv b0 b1 h95
        go_enter Try.func27, Try.ntmps27
        go_wp2_with (first | (go_at_call 26; (with_reducible refine (C0.out _).mono ?_); rintro e w1 ⟨rfl, rfl⟩) | (go_at_call 34; (with_reducible refine (C1.out _).mono ?_); rintro e w1 ⟨rfl, rfl⟩))
        go_ret
        exact ⟨rfl, rfl⟩
set_option maxHeartbeats 400000 in
theorem isListByte_any (c : Nat) (w : World) : Calls Try.prog 35 #[.int .u8 c] w fun e w' => e = .returned (.bool (listB c)) ∧ w = w' := by
  have c0 := isDigit_any c
  by_cases b0 : digB c = true
  · rw [b0] at c0
    have C0 := Lib.hid c0
    clear c0
    have hv : listB c = true := by simp [listB, b0]
    rw [hv]; clear hv b0
    go_enter Try.func35, Try.ntmps35
    go_wp2_with (first | (go_at_call 34; (with_reducible refine (C0.out _).mono ?_); rintro e w1 ⟨rfl, rfl⟩))
    go_ret
    exact ⟨rfl, rfl⟩
  · have b0 : digB c = false := by simpa using b0
    rw [b0] at c0
    have C0 := Lib.hid c0
    clear c0
    by_cases h44 : c = 44
    · have t44 : ((c : Int) == 44) = true := by simp; omega
      have hv : listB c = true := by simp [listB, h44]
      rw [hv]; clear hv b0 h44
      go_enter Try.func35, Try.ntmps35
      go_wp2_with (first | (go_at_call 34; (with_reducible refine (C0.out _).mono ?_); rintro e w1 ⟨rfl, rfl⟩))
      go_ret
      exact ⟨rfl, rfl⟩
    · have t44 : ((c : Int) == 44) = false := by simp; omega
      by_cases h45 : c = 45
      · have t45 : ((c : Int) == 45) = true := by simp; omega
        have hv : listB c = true := by simp [listB, h45]
        rw [hv]; clear hv b0 h45
        go_enter Try.func35, Try.ntmps35
        go_wp2_with (first | (go_at_call 34; (with_reducible refine (C0.out _).mono ?_); rintro e w1 ⟨rfl, rfl⟩))
        go_ret
        exact ⟨rfl, rfl⟩
      · have t45 : ((c : Int) == 45) = false := by simp; omega
        have hv : listB c = false := by simp [listB, b0, h44, h45]
        rw [hv]; clear hv b0 h44 h45
        go_enter Try.func35, Try.ntmps35
        go_wp2_with (first | (go_at_call 34; (with_reducible refine (C0.out _).mono ?_); rintro e w1 ⟨rfl, rfl⟩))
        go_ret
        exact ⟨rfl, rfl⟩
end Go.Proofs.Ytaghoicmfpndbaa
