/- The contracts of the document's kind and At. -/
import Derived.Test.YtaghoicmfpndbaaDa
namespace Go.Proofs.Ytaghoicmfpndbaa
open Go.RowKit

/-- The document's kinds of bytes. -/
def kindF (c : Nat) : Nat := if 97 ≤ c ∧ c ≤ 122 then 1 else if 48 ≤ c ∧ c ≤ 57 then 2 else if c = 95 then 3 else if c = 44 ∨ c = 45 then 4 else if c = 123 ∨ c = 125 ∨ c = 59 then 5 else if c = 32 ∨ c = 9 ∨ c = 10 ∨ c = 13 then 6 else if c = 35 then 7 else 0
set_option maxHeartbeats 400000 in
theorem kind_lit (c : Nat) (w : World) (h : c = 95 ∨ c = 44 ∨ c = 45 ∨ c = 123 ∨ c = 125 ∨ c = 59 ∨ c = 32 ∨ c = 9 ∨ c = 10 ∨ c = 13 ∨ c = 35) : Calls Try.prog 25 #[.int .u8 c] w fun e w' => e = .returned (.int .i64 (kindF c)) ∧ w = w' := by
  rcases h with rfl | rfl | rfl | rfl | rfl | rfl | rfl | rfl | rfl | rfl | rfl
  all_goals
    go_enter Try.func25, Try.ntmps25
    go_wp2
    go_ret
    exact ⟨rfl, rfl⟩
set_option maxHeartbeats 400000 in
theorem kind_any (c : Nat) (w : World) : Calls Try.prog 25 #[.int .u8 c] w fun e w' => e = .returned (.int .i64 (kindF c)) ∧ w = w' := by
  by_cases h : c = 95 ∨ c = 44 ∨ c = 45 ∨ c = 123 ∨ c = 125 ∨ c = 59 ∨ c = 32 ∨ c = 9 ∨ c = 10 ∨ c = 13 ∨ c = 35
  · exact kind_lit c w h
  · have t95 : ((c : Int) == 95) = false := by simp; omega
    have t44 : ((c : Int) == 44) = false := by simp; omega
    have t45 : ((c : Int) == 45) = false := by simp; omega
    have t123 : ((c : Int) == 123) = false := by simp; omega
    have t125 : ((c : Int) == 125) = false := by simp; omega
    have t59 : ((c : Int) == 59) = false := by simp; omega
    have t32 : ((c : Int) == 32) = false := by simp; omega
    have t9 : ((c : Int) == 9) = false := by simp; omega
    have t10 : ((c : Int) == 10) = false := by simp; omega
    have t13 : ((c : Int) == 13) = false := by simp; omega
    have t35 : ((c : Int) == 35) = false := by simp; omega
    by_cases h1 : 97 ≤ c
    · by_cases h2 : c ≤ 122
      · have : decide ((97 : Int) ≤ (c : Int)) = true := by simp; omega
        have : decide ((c : Int) ≤ 122) = true := by simp; omega
        have e : kindF c = 1 := by unfold kindF; (repeat' split) <;> omega
        rw [e]
        have H := Lib.hid h; clear h e
        go_enter Try.func25, Try.ntmps25
        go_wp2
        go_ret
        exact ⟨rfl, rfl⟩
      · have : decide ((97 : Int) ≤ (c : Int)) = true := by simp; omega
        have : decide ((c : Int) ≤ 122) = false := by simp; omega
        have : decide ((48 : Int) ≤ (c : Int)) = true := by simp; omega
        have : decide ((c : Int) ≤ 57) = false := by simp; omega
        have e : kindF c = 0 := by unfold kindF; (repeat' split) <;> omega
        rw [e]
        have H := Lib.hid h; clear h e
        go_enter Try.func25, Try.ntmps25
        go_wp2
        go_ret
        exact ⟨rfl, rfl⟩
    · by_cases h2 : 48 ≤ c
      · by_cases h3 : c ≤ 57
        · have : decide ((97 : Int) ≤ (c : Int)) = false := by simp; omega
          have : decide ((48 : Int) ≤ (c : Int)) = true := by simp; omega
          have : decide ((c : Int) ≤ 57) = true := by simp; omega
          have e : kindF c = 2 := by unfold kindF; (repeat' split) <;> omega
          rw [e]
          have H := Lib.hid h; clear h e
          go_enter Try.func25, Try.ntmps25
          go_wp2
          go_ret
          exact ⟨rfl, rfl⟩
        · have : decide ((97 : Int) ≤ (c : Int)) = false := by simp; omega
          have : decide ((48 : Int) ≤ (c : Int)) = true := by simp; omega
          have : decide ((c : Int) ≤ 57) = false := by simp; omega
          have e : kindF c = 0 := by unfold kindF; (repeat' split) <;> omega
          rw [e]
          have H := Lib.hid h; clear h e
          go_enter Try.func25, Try.ntmps25
          go_wp2
          go_ret
          exact ⟨rfl, rfl⟩
      · have : decide ((97 : Int) ≤ (c : Int)) = false := by simp; omega
        have : decide ((48 : Int) ≤ (c : Int)) = false := by simp; omega
        have e : kindF c = 0 := by unfold kindF; (repeat' split) <;> omega
        rw [e]
        have H := Lib.hid h; clear h e
        go_enter Try.func25, Try.ntmps25
        go_wp2
        go_ret
        exact ⟨rfl, rfl⟩
theorem Pl.other {g : Nat} {x0 x1 x2 : Value} {w : World} (h : Pl g x0 x1 x2 w) (a : Addr) (v : Value) (hne : g ≠ a.block) : Pl g x0 x1 x2 (w.setCell a v) := (heap_setCell_other w a g v hne).trans h
set_option maxHeartbeats 1000000 in
theorem refAt_any (s : ByteArray) (off : Int) (w : World) (hs : s.size ≤ 100000) :
    Calls Try.prog 12 #[.string s, .int .i64 off] w fun e w' => e = .returned (.agg (plC (byteAt s) (clampN off s.size))) ∧ Below w.heap.size w w' := by
  have hk := clampN_eq off s.size
  have hle := clampN_le off s.size
  generalize clampN off s.size = k at *
  have HK := Lib.hid hk; clear hk
  have P0 := Lib.hid ((pl_new w (.int .i64 0) (.int .i64 0) (.int .i64 0)).keep (Below.heap_alloc (w.alloc (.cells #[.int .i64 0, .int .i64 0, .int .i64 0] 26)) (.cells #[.int .i64 0, .int .i64 1, .int .i64 1] 26) w.heap.size (by simp)))
  have P1 : Hid (Pl (w.heap.size + 1) (.int .i64 0) (.int .i64 1) (.int .i64 1) ((w.alloc (.cells #[.int .i64 0, .int .i64 0, .int .i64 0] 26)).alloc (.cells #[.int .i64 0, .int .i64 1, .int .i64 1] 26))) := by
    have := pl_new (w.alloc (.cells #[.int .i64 0, .int .i64 0, .int .i64 0] 26)) (.int .i64 0) (.int .i64 1) (.int .i64 1)
    rw [World.size_alloc] at this
    exact this
  have B0 := Lib.hid (((Below.refl w.heap.size w).alloc (Nat.le_refl _) (.cells #[.int .i64 0, .int .i64 0, .int .i64 0] 26)).alloc (by simp) (.cells #[.int .i64 0, .int .i64 1, .int .i64 1] 26))
  go_enter Try.func12, Try.ntmps12
  go_wp2_with fail
  go_loopg [] k (fun g wx => ∃ j, j ≤ k ∧ g = k - j ∧ Pl w.heap.size (.int .i64 0) (.int .i64 0) (.int .i64 0) wx ∧ Pl (w.heap.size + 1) (.int .i64 j) (.int .i64 (lineA (byteAt s) j)) (.int .i64 (colA (byteAt s) j)) wx ∧ Below w.heap.size w wx)
  case atStart => exact ⟨0, by omega, by omega, P0.out, P1.out, B0.out⟩
  case round =>
    obtain ⟨j, hj, hg, hP0, hP1, hB⟩ := hrel
    have HG := Lib.hid hg; clear hg P0 P1 B0
    obtain ⟨c0, c1, c2, cf⟩ := hP1.cells
    obtain ⟨y0, y1, y2, yf⟩ := hP0.cells
    have f0 := cf 0; have f1 := cf 1; have f2 := cf 2
    have g0 := yf 0; have g1 := yf 1; have g2 := yf 2
    clear cf yf
    have H0 := Lib.hid hP0; have H1 := Lib.hid hP1; have HB := Lib.hid hB; clear hP0 hP1 hB
    have hl := lineA_le (byteAt s) j
    have hc := colA_le (byteAt s) j
    by_cases hlt : j < k
    · have d1 : decide ((j : Int) < off) = true := by have := HK.out; simp; omega
      have d2 : decide (j < s.size) = true := by simp; omega
      have hbt : ((s[j]'(by omega)).toNat : Nat) = byteAt s j := byteAt_eq s j (by omega)
      have i0 : (0 : Int) ≤ (j : Int) := by omega
      have i1 : (j : Int) < (s.size : Int) := by omega
      by_cases h10 : byteAt s j = 10
      · have t10 : ((byteAt s j : Int) == 10) = true := by simp; omega
        have H10 := Lib.hid h10; clear h10
        go_wp2_with fail
        go_roundg (k - (j + 1))
        case measure => have := HG.out; omega
        case rel =>
          refine ⟨j + 1, by omega, rfl, (((H0.out.other _ _ (by simp)).other _ _ (by simp)).other _ _ (by simp)).other _ _ (by simp), ?_, (((HB.out.setCell (by simp) _).setCell (by simp) _).setCell (by simp) _).setCell (by simp) _⟩
          rw [lineA, colA, if_pos H10.out, if_pos H10.out]
          exact (((H1.out.set2 _).set1 _).set2 _).set0 _
      · have t10 : ((byteAt s j : Int) == 10) = false := by simp; omega
        have H10 := Lib.hid h10; clear h10
        go_wp2_with fail
        go_roundg (k - (j + 1))
        case measure => have := HG.out; omega
        case rel =>
          refine ⟨j + 1, by omega, rfl, (H0.out.other _ _ (by simp)).other _ _ (by simp), ?_, (HB.out.setCell (by simp) _).setCell (by simp) _⟩
          rw [lineA, colA, if_neg H10.out, if_neg H10.out]
          exact (H1.out.set2 _).set0 _
    · obtain rfl : j = k := by omega
      by_cases h1 : (j : Int) < off
      · have d1 : decide ((j : Int) < off) = true := by simp; omega
        have d2 : decide (j < s.size) = false := by have := HK.out; simp; omega
        have H1' := Lib.hid h1; clear h1
        go_wp2_with fail
        refine res_pl rfl w.heap.size _ _ _ rfl (((H0.out.set0 _).set1 _).set2 _) rfl ⟨rfl, ?_⟩
        exact ((HB.out.setCell (Nat.le_refl _) _).setCell (Nat.le_refl _) _).setCell (Nat.le_refl _) _
      · have d1 : decide ((j : Int) < off) = false := by simp; omega
        have H1' := Lib.hid h1; clear h1
        go_wp2_with fail
        refine res_pl rfl w.heap.size _ _ _ rfl (((H0.out.set0 _).set1 _).set2 _) rfl ⟨rfl, ?_⟩
        exact ((HB.out.setCell (Nat.le_refl _) _).setCell (Nat.le_refl _) _).setCell (Nat.le_refl _) _
end Go.Proofs.Ytaghoicmfpndbaa
