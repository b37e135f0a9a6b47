/- The contracts of cut, IsWord, IsName, the code's and the document's. -/
import Derived.Test.YtaghoicmfpndbaaDv
namespace Go.Proofs.Ytaghoicmfpndbaa
open Go.RowKit

/-- The first 2000 bytes. -/
def cutS (s : ByteArray) : ByteArray := s.extract 0 (min (s.size : Int) 2000).toNat
theorem cutS_size (s : ByteArray) : (cutS s).size ≤ 2000 := by unfold cutS; simp; omega
theorem cut_any (s : ByteArray) (w : World) :
    Calls Try.prog 8 #[.string s] w fun e w' => e = .returned (.string (cutS s)) ∧ w = w' := by
  go_enter Try.func8, Try.ntmps8
  go_wp2
  go_ret
  exact ⟨rfl, rfl⟩
/-- The description's own words. -/
def wordF (s : ByteArray) : Bool := s.toList == [100, 111, 109, 97, 105, 110] || (s.toList == [113, 117, 101, 117, 101] || s.toList == [99, 112, 117, 115])
theorem isWord_any (s : ByteArray) (w : World) :
    Calls Try.prog 16 #[.string s] w fun e w' => e = .returned (.bool (wordF s)) ∧ w = w' := by
  by_cases h0 : s.toList = [100, 111, 109, 97, 105, 110]
  · have q : (s.toList == [100, 111, 109, 97, 105, 110]) = true := by rw [h0]; rfl
    have hv : wordF s = true := by unfold wordF; rw [h0]; rfl
    rw [hv]
    have H := Lib.hid h0; clear hv h0
    go_enter Try.func16, Try.ntmps16
    go_wp2
    go_ret
    exact ⟨rfl, rfl⟩
  · have q0 : (s.toList == [100, 111, 109, 97, 105, 110]) = false := by simpa using h0
    by_cases h1 : s.toList = [113, 117, 101, 117, 101]
    · have q : (s.toList == [113, 117, 101, 117, 101]) = true := by rw [h1]; rfl
      have hv : wordF s = true := by unfold wordF; rw [h1]; rfl
      rw [hv]
      have H := Lib.hid h1; clear hv h1
      go_enter Try.func16, Try.ntmps16
      go_wp2
      go_ret
      exact ⟨rfl, rfl⟩
    · have q1 : (s.toList == [113, 117, 101, 117, 101]) = false := by simpa using h1
      by_cases h2 : s.toList = [99, 112, 117, 115]
      · have q : (s.toList == [99, 112, 117, 115]) = true := by rw [h2]; rfl
        have hv : wordF s = true := by unfold wordF; rw [h2]; rfl
        rw [hv]
        have H := Lib.hid h2; clear hv h2
        go_enter Try.func16, Try.ntmps16
        go_wp2
        go_ret
        exact ⟨rfl, rfl⟩
      · have q2 : (s.toList == [99, 112, 117, 115]) = false := by simpa using h2
        have hv : wordF s = false := by unfold wordF; rw [q0, q1, q2]; rfl
        rw [hv]
        have H0 := Lib.hid h0; have H1 := Lib.hid h1; have H2 := Lib.hid h2; clear hv h0 h1 h2
        go_enter Try.func16, Try.ntmps16
        go_wp2
        go_ret
        exact ⟨rfl, rfl⟩
theorem refIsWord_any (s : ByteArray) (w : World) :
    Calls Try.prog 17 #[.string s] w fun e w' => e = .returned (.bool (wordF s)) ∧ w = w' := by
  by_cases h0 : s.toList = [100, 111, 109, 97, 105, 110]
  · have q : (s.toList == [100, 111, 109, 97, 105, 110]) = true := by rw [h0]; rfl
    have hv : wordF s = true := by unfold wordF; rw [h0]; rfl
    rw [hv]
    have H := Lib.hid h0; clear hv h0
    go_enter Try.func17, Try.ntmps17
    go_wp2
    go_ret
    exact ⟨rfl, rfl⟩
  · have q0 : (s.toList == [100, 111, 109, 97, 105, 110]) = false := by simpa using h0
    by_cases h1 : s.toList = [113, 117, 101, 117, 101]
    · have q : (s.toList == [113, 117, 101, 117, 101]) = true := by rw [h1]; rfl
      have hv : wordF s = true := by unfold wordF; rw [h1]; rfl
      rw [hv]
      have H := Lib.hid h1; clear hv h1
      go_enter Try.func17, Try.ntmps17
      go_wp2
      go_ret
      exact ⟨rfl, rfl⟩
    · have q1 : (s.toList == [113, 117, 101, 117, 101]) = false := by simpa using h1
      by_cases h2 : s.toList = [99, 112, 117, 115]
      · have q : (s.toList == [99, 112, 117, 115]) = true := by rw [h2]; rfl
        have hv : wordF s = true := by unfold wordF; rw [h2]; rfl
        rw [hv]
        have H := Lib.hid h2; clear hv h2
        go_enter Try.func17, Try.ntmps17
        go_wp2
        go_ret
        exact ⟨rfl, rfl⟩
      · have q2 : (s.toList == [99, 112, 117, 115]) = false := by simpa using h2
        have hv : wordF s = false := by unfold wordF; rw [q0, q1, q2]; rfl
        rw [hv]
        have H0 := Lib.hid h0; have H1 := Lib.hid h1; have H2 := Lib.hid h2; clear hv h0 h1 h2
        go_enter Try.func17, Try.ntmps17
        go_wp2
        go_ret
        exact ⟨rfl, rfl⟩
end Go.Proofs.Ytaghoicmfpndbaa
