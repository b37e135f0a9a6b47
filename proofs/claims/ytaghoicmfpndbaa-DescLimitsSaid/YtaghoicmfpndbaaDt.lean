/- The contracts of the reader's pass and skip. -/
import Derived.Test.YtaghoicmfpndbaaDs
import Derived.Deep.LoopGhost
namespace Go.Proofs.Ytaghoicmfpndbaa
open Go.RowKit

theorem Adv.at {b : Nat} {s : ByteArray} {i : Nat} {w w' : World} (h : Adv b s i w w') : Rd b s i w' := h.2
theorem adv_refl {b : Nat} {s : ByteArray} {i : Nat} {w : World} (h : Rd b s i w) : Adv b s i w w := ⟨⟨rfl, rfl, rfl, Nat.le_refl _, fun _ _ _ => rfl⟩, h⟩
set_option maxHeartbeats 1000000 in
theorem pass_blank (b : Nat) (s : ByteArray) (i : Nat) (w : World) (h : Rd b s i w) (hi : i ≤ s.size) (hs : s.size ≤ 100000) :
    Calls Try.prog 30 #[.pointer (some ⟨b, 0, none⟩), .func (.func 31) #[] #[]] w fun e w' => e = .returned (.tuple #[]) ∧ Adv b s (runEnd blankB (byteAt s) s.size i) w w' := by
  obtain ⟨E, hE⟩ : ∃ E, runEnd blankB (byteAt s) s.size i = E := ⟨_, rfl⟩
  rw [hE]
  have HE := Lib.hid hE; clear hE
  go_enter Try.func30, Try.ntmps30
  go_wp2_with fail
  go_loopg [] (s.size - i) (fun g wx => ∃ j, j ≤ s.size ∧ g = s.size - j ∧ Hid (runEnd blankB (byteAt s) s.size j = E) ∧ Adv b s j w wx)
  case atStart => exact ⟨i, hi, rfl, HE, adv_refl h⟩
  case round =>
    obtain ⟨j, hj, hg, HJ, hA⟩ := hrel
    have HG := Lib.hid hg; clear hg h hi
    by_cases hlt : j < s.size
    · have hqj := fun w => isBlank_any (byteAt s j) w
      by_cases hb : blankB (byteAt s j) = true
      · rw [hb] at hqj
        have HQJ := Lib.hid hqj; clear hqj
        have HB := Lib.hid hb; clear hb
        go_wp2_with (first | (go_at_call 23; (with_reducible refine (more_yes b s j _ hA.at hlt).mono ?_); rintro e w1 ⟨rfl, h1⟩) | (go_at_call 32; (with_reducible refine (here_any b s j _ h1.at hlt).mono ?_); rintro e w2 ⟨rfl, h2⟩) | (go_at_call 28; (with_reducible refine (step_any b s j _ h2.at hlt hs).mono ?_); rintro e w3 ⟨rfl, h3⟩) | (go_at_call 31; (with_reducible refine (HQJ.out _).mono ?_); rintro e wq ⟨rfl, rfl⟩))
        go_roundg (s.size - (j + 1))
        case measure => have := HG.out; omega
        case rel => exact ⟨j + 1, by omega, rfl, (runEnd_one blankB (byteAt s) s.size j hlt HB.out).trans HJ.out, ((hA.trans h1).trans h2).trans h3⟩
      · have hb : blankB (byteAt s j) = false := by simpa using hb
        rw [hb] at hqj
        have HQJ := Lib.hid hqj; clear hqj
        have hEj : j = E := by rw [← HJ.out, runEnd_stop blankB (byteAt s) s.size j hb]
        subst hEj
        clear hb
        go_wp2_with (first | (go_at_call 23; (with_reducible refine (more_yes b s j _ hA.at hlt).mono ?_); rintro e w1 ⟨rfl, h1⟩) | (go_at_call 32; (with_reducible refine (here_any b s j _ h1.at hlt).mono ?_); rintro e w2 ⟨rfl, h2⟩) | (go_at_call 31; (with_reducible refine (HQJ.out _).mono ?_); rintro e wq ⟨rfl, rfl⟩))
        go_end0
        exact ⟨rfl, (hA.trans h1).trans h2⟩
    · have hjs : j = s.size := by omega
      have hEj : j = E := by rw [← HJ.out, hjs, runEnd_len]
      subst hEj
      have HJS := Lib.hid hjs; clear hjs
      have hle : s.size ≤ j := by omega
      go_wp2_with (first | (go_at_call 23; (with_reducible refine (more_no b s j _ hA.at hle).mono ?_); rintro e w1 ⟨rfl, h1⟩))
      go_end0
      exact ⟨rfl, hA.trans h1⟩
set_option maxHeartbeats 1000000 in
theorem pass_note (b : Nat) (s : ByteArray) (i : Nat) (w : World) (h : Rd b s i w) (hi : i ≤ s.size) (hs : s.size ≤ 100000) :
    Calls Try.prog 30 #[.pointer (some ⟨b, 0, none⟩), .func (.func 33) #[] #[]] w fun e w' => e = .returned (.tuple #[]) ∧ Adv b s (runEnd noteB (byteAt s) s.size i) w w' := by
  obtain ⟨E, hE⟩ : ∃ E, runEnd noteB (byteAt s) s.size i = E := ⟨_, rfl⟩
  rw [hE]
  have HE := Lib.hid hE; clear hE
  go_enter Try.func30, Try.ntmps30
  go_wp2_with fail
  go_loopg [] (s.size - i) (fun g wx => ∃ j, j ≤ s.size ∧ g = s.size - j ∧ Hid (runEnd noteB (byteAt s) s.size j = E) ∧ Adv b s j w wx)
  case atStart => exact ⟨i, hi, rfl, HE, adv_refl h⟩
  case round =>
    obtain ⟨j, hj, hg, HJ, hA⟩ := hrel
    have HG := Lib.hid hg; clear hg h hi
    by_cases hlt : j < s.size
    · have hqj := fun w => isNoteByte_any (byteAt s j) w
      by_cases hb : noteB (byteAt s j) = true
      · rw [hb] at hqj
        have HQJ := Lib.hid hqj; clear hqj
        have HB := Lib.hid hb; clear hb
        go_wp2_with (first | (go_at_call 23; (with_reducible refine (more_yes b s j _ hA.at hlt).mono ?_); rintro e w1 ⟨rfl, h1⟩) | (go_at_call 32; (with_reducible refine (here_any b s j _ h1.at hlt).mono ?_); rintro e w2 ⟨rfl, h2⟩) | (go_at_call 28; (with_reducible refine (step_any b s j _ h2.at hlt hs).mono ?_); rintro e w3 ⟨rfl, h3⟩) | (go_at_call 33; (with_reducible refine (HQJ.out _).mono ?_); rintro e wq ⟨rfl, rfl⟩))
        go_roundg (s.size - (j + 1))
        case measure => have := HG.out; omega
        case rel => exact ⟨j + 1, by omega, rfl, (runEnd_one noteB (byteAt s) s.size j hlt HB.out).trans HJ.out, ((hA.trans h1).trans h2).trans h3⟩
      · have hb : noteB (byteAt s j) = false := by simpa using hb
        rw [hb] at hqj
        have HQJ := Lib.hid hqj; clear hqj
        have hEj : j = E := by rw [← HJ.out, runEnd_stop noteB (byteAt s) s.size j hb]
        subst hEj
        clear hb
        go_wp2_with (first | (go_at_call 23; (with_reducible refine (more_yes b s j _ hA.at hlt).mono ?_); rintro e w1 ⟨rfl, h1⟩) | (go_at_call 32; (with_reducible refine (here_any b s j _ h1.at hlt).mono ?_); rintro e w2 ⟨rfl, h2⟩) | (go_at_call 33; (with_reducible refine (HQJ.out _).mono ?_); rintro e wq ⟨rfl, rfl⟩))
        go_end0
        exact ⟨rfl, (hA.trans h1).trans h2⟩
    · have hjs : j = s.size := by omega
      have hEj : j = E := by rw [← HJ.out, hjs, runEnd_len]
      subst hEj
      have HJS := Lib.hid hjs; clear hjs
      have hle : s.size ≤ j := by omega
      go_wp2_with (first | (go_at_call 23; (with_reducible refine (more_no b s j _ hA.at hle).mono ?_); rintro e w1 ⟨rfl, h1⟩))
      go_end0
      exact ⟨rfl, hA.trans h1⟩
set_option maxHeartbeats 1000000 in
theorem pass_name (b : Nat) (s : ByteArray) (i : Nat) (w : World) (h : Rd b s i w) (hi : i ≤ s.size) (hs : s.size ≤ 100000) :
    Calls Try.prog 30 #[.pointer (some ⟨b, 0, none⟩), .func (.func 27) #[] #[]] w fun e w' => e = .returned (.tuple #[]) ∧ Adv b s (runEnd nameB (byteAt s) s.size i) w w' := by
  obtain ⟨E, hE⟩ : ∃ E, runEnd nameB (byteAt s) s.size i = E := ⟨_, rfl⟩
  rw [hE]
  have HE := Lib.hid hE; clear hE
  go_enter Try.func30, Try.ntmps30
  go_wp2_with fail
  go_loopg [] (s.size - i) (fun g wx => ∃ j, j ≤ s.size ∧ g = s.size - j ∧ Hid (runEnd nameB (byteAt s) s.size j = E) ∧ Adv b s j w wx)
  case atStart => exact ⟨i, hi, rfl, HE, adv_refl h⟩
  case round =>
    obtain ⟨j, hj, hg, HJ, hA⟩ := hrel
    have HG := Lib.hid hg; clear hg h hi
    by_cases hlt : j < s.size
    · have hqj := fun w => isNameByte_any (byteAt s j) w
      by_cases hb : nameB (byteAt s j) = true
      · rw [hb] at hqj
        have HQJ := Lib.hid hqj; clear hqj
        have HB := Lib.hid hb; clear hb
        go_wp2_with (first | (go_at_call 23; (with_reducible refine (more_yes b s j _ hA.at hlt).mono ?_); rintro e w1 ⟨rfl, h1⟩) | (go_at_call 32; (with_reducible refine (here_any b s j _ h1.at hlt).mono ?_); rintro e w2 ⟨rfl, h2⟩) | (go_at_call 28; (with_reducible refine (step_any b s j _ h2.at hlt hs).mono ?_); rintro e w3 ⟨rfl, h3⟩) | (go_at_call 27; (with_reducible refine (HQJ.out _).mono ?_); rintro e wq ⟨rfl, rfl⟩))
        go_roundg (s.size - (j + 1))
        case measure => have := HG.out; omega
        case rel => exact ⟨j + 1, by omega, rfl, (runEnd_one nameB (byteAt s) s.size j hlt HB.out).trans HJ.out, ((hA.trans h1).trans h2).trans h3⟩
      · have hb : nameB (byteAt s j) = false := by simpa using hb
        rw [hb] at hqj
        have HQJ := Lib.hid hqj; clear hqj
        have hEj : j = E := by rw [← HJ.out, runEnd_stop nameB (byteAt s) s.size j hb]
        subst hEj
        clear hb
        go_wp2_with (first | (go_at_call 23; (with_reducible refine (more_yes b s j _ hA.at hlt).mono ?_); rintro e w1 ⟨rfl, h1⟩) | (go_at_call 32; (with_reducible refine (here_any b s j _ h1.at hlt).mono ?_); rintro e w2 ⟨rfl, h2⟩) | (go_at_call 27; (with_reducible refine (HQJ.out _).mono ?_); rintro e wq ⟨rfl, rfl⟩))
        go_end0
        exact ⟨rfl, (hA.trans h1).trans h2⟩
    · have hjs : j = s.size := by omega
      have hEj : j = E := by rw [← HJ.out, hjs, runEnd_len]
      subst hEj
      have HJS := Lib.hid hjs; clear hjs
      have hle : s.size ≤ j := by omega
      go_wp2_with (first | (go_at_call 23; (with_reducible refine (more_no b s j _ hA.at hle).mono ?_); rintro e w1 ⟨rfl, h1⟩))
      go_end0
      exact ⟨rfl, hA.trans h1⟩
set_option maxHeartbeats 1000000 in
theorem pass_list (b : Nat) (s : ByteArray) (i : Nat) (w : World) (h : Rd b s i w) (hi : i ≤ s.size) (hs : s.size ≤ 100000) :
    Calls Try.prog 30 #[.pointer (some ⟨b, 0, none⟩), .func (.func 35) #[] #[]] w fun e w' => e = .returned (.tuple #[]) ∧ Adv b s (runEnd listB (byteAt s) s.size i) w w' := by
  obtain ⟨E, hE⟩ : ∃ E, runEnd listB (byteAt s) s.size i = E := ⟨_, rfl⟩
  rw [hE]
  have HE := Lib.hid hE; clear hE
  go_enter Try.func30, Try.ntmps30
  go_wp2_with fail
  go_loopg [] (s.size - i) (fun g wx => ∃ j, j ≤ s.size ∧ g = s.size - j ∧ Hid (runEnd listB (byteAt s) s.size j = E) ∧ Adv b s j w wx)
  case atStart => exact ⟨i, hi, rfl, HE, adv_refl h⟩
  case round =>
    obtain ⟨j, hj, hg, HJ, hA⟩ := hrel
    have HG := Lib.hid hg; clear hg h hi
    by_cases hlt : j < s.size
    · have hqj := fun w => isListByte_any (byteAt s j) w
      by_cases hb : listB (byteAt s j) = true
      · rw [hb] at hqj
        have HQJ := Lib.hid hqj; clear hqj
        have HB := Lib.hid hb; clear hb
        go_wp2_with (first | (go_at_call 23; (with_reducible refine (more_yes b s j _ hA.at hlt).mono ?_); rintro e w1 ⟨rfl, h1⟩) | (go_at_call 32; (with_reducible refine (here_any b s j _ h1.at hlt).mono ?_); rintro e w2 ⟨rfl, h2⟩) | (go_at_call 28; (with_reducible refine (step_any b s j _ h2.at hlt hs).mono ?_); rintro e w3 ⟨rfl, h3⟩) | (go_at_call 35; (with_reducible refine (HQJ.out _).mono ?_); rintro e wq ⟨rfl, rfl⟩))
        go_roundg (s.size - (j + 1))
        case measure => have := HG.out; omega
        case rel => exact ⟨j + 1, by omega, rfl, (runEnd_one listB (byteAt s) s.size j hlt HB.out).trans HJ.out, ((hA.trans h1).trans h2).trans h3⟩
      · have hb : listB (byteAt s j) = false := by simpa using hb
        rw [hb] at hqj
        have HQJ := Lib.hid hqj; clear hqj
        have hEj : j = E := by rw [← HJ.out, runEnd_stop listB (byteAt s) s.size j hb]
        subst hEj
        clear hb
        go_wp2_with (first | (go_at_call 23; (with_reducible refine (more_yes b s j _ hA.at hlt).mono ?_); rintro e w1 ⟨rfl, h1⟩) | (go_at_call 32; (with_reducible refine (here_any b s j _ h1.at hlt).mono ?_); rintro e w2 ⟨rfl, h2⟩) | (go_at_call 35; (with_reducible refine (HQJ.out _).mono ?_); rintro e wq ⟨rfl, rfl⟩))
        go_end0
        exact ⟨rfl, (hA.trans h1).trans h2⟩
    · have hjs : j = s.size := by omega
      have hEj : j = E := by rw [← HJ.out, hjs, runEnd_len]
      subst hEj
      have HJS := Lib.hid hjs; clear hjs
      have hle : s.size ≤ j := by omega
      go_wp2_with (first | (go_at_call 23; (with_reducible refine (more_no b s j _ hA.at hle).mono ?_); rintro e w1 ⟨rfl, h1⟩))
      go_end0
      exact ⟨rfl, hA.trans h1⟩
/-- Past blanks and notes: what is to come is the same, and it begins at j. -/
def Skipped (s : ByteArray) (i j : Nat) : Prop := i ≤ j ∧ j ≤ s.size ∧ lexAt (byteAt s) s.size i = lexAt (byteAt s) s.size j ∧ (j = s.size ∨ (blankB (byteAt s j) = false ∧ byteAt s j ≠ 35))
def Bare (s : ByteArray) (i j : Nat) : Prop := i ≤ j ∧ j ≤ s.size ∧ lexAt (byteAt s) s.size i = lexAt (byteAt s) s.size j ∧ (j = s.size ∨ blankB (byteAt s j) = false)
theorem bare_first (s : ByteArray) (i : Nat) (hi : i ≤ s.size) : Bare s i (runEnd blankB (byteAt s) s.size i) := by
  obtain ⟨a, b, _, d⟩ := runEnd_spec blankB (byteAt s) s.size i hi
  exact ⟨a, b, lex_blanks _ _ _ hi, d⟩
theorem Bare.note {s : ByteArray} {i j : Nat} (h : Bare s i j) (hlt : j < s.size) (h35 : byteAt s j = 35) : Bare s i (runEnd blankB (byteAt s) s.size (runEnd noteB (byteAt s) s.size j)) ∧ j < runEnd blankB (byteAt s) s.size (runEnd noteB (byteAt s) s.size j) ∧ runEnd noteB (byteAt s) s.size j ≤ s.size := by
  have h1 := note_gt (byteAt s) s.size j hlt h35
  have h2 := (runEnd_spec noteB (byteAt s) s.size j (by omega)).2.1
  obtain ⟨a, b, c, d⟩ := bare_first s _ h2
  exact ⟨⟨by have := h.1; omega, b, h.2.2.1.trans ((lex_note _ _ _ hlt h35).trans c), d⟩, by omega, h2⟩
set_option maxHeartbeats 1000000 in
theorem skip_any (b : Nat) (s : ByteArray) (i : Nat) (w : World) (h : Rd b s i w) (hi : i ≤ s.size) (hs : s.size ≤ 100000) :
    Calls Try.prog 22 #[.pointer (some ⟨b, 0, none⟩)] w fun e w' => e = .returned (.tuple #[]) ∧ ∃ j, Skipped s i j ∧ Adv b s j w w' := by
  have HF := Lib.hid (bare_first s i hi)
  go_enter Try.func22, Try.ntmps22
  go_wp2_with (go_at_call 30; (with_reducible refine (pass_blank b s i _ h hi hs).mono ?_); rintro e w1 ⟨rfl, h1⟩)
  obtain ⟨j0, hj0⟩ : ∃ j0, runEnd blankB (byteAt s) s.size i = j0 := ⟨_, rfl⟩
  rw [hj0] at HF h1
  clear hj0
  go_loopg [] (s.size - j0) (fun g wx => ∃ j, g = s.size - j ∧ Hid (Bare s i j) ∧ Adv b s j w wx)
  case atStart => exact ⟨j0, rfl, HF, h1⟩
  case round =>
    obtain ⟨j, hg, HJ, hA⟩ := hrel
    have HG := Lib.hid hg; clear hg h hi h1
    by_cases hlt : j < s.size
    · by_cases h35 : byteAt s j = 35
      · have t35 : ((byteAt s j : Int) == 35) = true := by simp; omega
        obtain ⟨k1, k2, k3⟩ := HJ.out.note hlt h35
        have K1 := Lib.hid k1
        have H35 := Lib.hid h35; clear h35 k1
        have hjle : j ≤ s.size := by omega
        go_wp2_with (first | (go_at_call 23; (with_reducible refine (more_yes b s j _ hA.at hlt).mono ?_); rintro e w2 ⟨rfl, h2⟩) | (go_at_call 32; (with_reducible refine (here_any b s j _ h2.at hlt).mono ?_); rintro e w3 ⟨rfl, h3⟩) | (go_at_call 30; (with_reducible refine (pass_note b s j _ h3.at hjle hs).mono ?_); rintro e w4 ⟨rfl, h4⟩) | (go_at_call 30; (with_reducible refine (pass_blank b s _ _ h4.at k3 hs).mono ?_); rintro e w5 ⟨rfl, h5⟩))
        go_roundg (s.size - runEnd blankB (byteAt s) s.size (runEnd noteB (byteAt s) s.size j))
        case measure => have := HG.out; omega
        case rel => exact ⟨_, rfl, K1, (((hA.trans h2).trans h3).trans h4).trans h5⟩
      · have t35 : ((byteAt s j : Int) == 35) = false := by simp; omega
        have H35 := Lib.hid h35; clear h35
        go_wp2_with (first | (go_at_call 23; (with_reducible refine (more_yes b s j _ hA.at hlt).mono ?_); rintro e w2 ⟨rfl, h2⟩) | (go_at_call 32; (with_reducible refine (here_any b s j _ h2.at hlt).mono ?_); rintro e w3 ⟨rfl, h3⟩))
        go_end0
        refine ⟨rfl, j, ⟨HJ.out.1, HJ.out.2.1, HJ.out.2.2.1, ?_⟩, (hA.trans h2).trans h3⟩
        rcases HJ.out.2.2.2 with e | e
        · exact .inl e
        · exact .inr ⟨e, H35.out⟩
    · have hle : s.size ≤ j := by omega
      go_wp2_with (first | (go_at_call 23; (with_reducible refine (more_no b s j _ hA.at hle).mono ?_); rintro e w2 ⟨rfl, h2⟩))
      go_end0
      exact ⟨rfl, j, ⟨HJ.out.1, HJ.out.2.1, HJ.out.2.2.1, .inl (by have := HJ.out.2.1; omega)⟩, hA.trans h2⟩
end Go.Proofs.Ytaghoicmfpndbaa
