/- Layer 28's law file: lives. -/
import Derived.Test.YtfejimlfnelhhaaSz
namespace Go.Proofs.Ytfejimlfnelhhaa
open Go.RowKit

def itS (D : Dq) (k : Int) : Nat → Dq
  | 0 => D
  | i + 1 => stR (itS D k i) k
def pr (D : Dq) : Nat → Dq
  | 0 => D
  | i + 1 => stR (stR (pr D i) 1) 0
def hitN (D : Dq) (k : Int) : Nat := if stH D k = 1 ∧ stX D k = 7 then 1 else 0
def cnt (D : Dq) : Nat → Nat
  | 0 => 0
  | i + 1 => cnt D i + hitN (pr D i) 1 + hitN (stR (pr D i) 1) 0
theorem hitN_le (D : Dq) (k : Int) : hitN D k ≤ 1 := by unfold hitN; split <;> omega
theorem cnt_le (D : Dq) : ∀ i, cnt D i ≤ 2 * i
  | 0 => Nat.le_refl _
  | i + 1 => by have := cnt_le D i; have := hitN_le (pr D i) 1; have := hitN_le (stR (pr D i) 1) 0; simp only [cnt]; omega
def lv1 : Dq := itS (beginR (newD 2 1) 0 1 7) 0 4
def lv2 : Dq := beginR (stealR lv1 1) 0 5 0
theorem lv_a : stealE lv1 1 = 0 := by decide +kernel
theorem lv_b : beginE (stealR lv1 1) 0 = 0 := by decide +kernel
theorem lv_n : cnt lv2 6 = 1 := by decide +kernel
theorem lv_l : max ((pr lv2 6).bot - (pr lv2 6).top) 0 = 0 := by decide +kernel
def hv (g : Nat) (x : Int) : Nat := if g = 1 ∧ x = 7 then 1 else 0
theorem hv_le (g : Nat) (x : Int) : hv g x ≤ 1 := by unfold hv; split <;> omega
/-- The two ends of a step, in a list of the law's. -/
def TwoV (g : Nat) (h1 h2 : Nat) (x1 x2 : Int) (w : World) : Prop := Blk w g 44 #[.bool (dnB h1), .int .i64 h1, .int .i64 x1, .bool (dnB h2), .int .i64 h2, .int .i64 x2]
set_option maxRecDepth 100000 in
set_option maxHeartbeats 8000000 in
theorem lives28_any (w : World) : Calls Try.prog 14 #[] w fun e w' => e = .returned (.bool true) ∧ Below w.heap.size w w' := by
  have HN := Lib.hid (new_ld 2 1 2 1 (by decide) (by decide) w)
  go_enter Try.func14, Try.ntmps14
  go_wp2_with fail
  refine HN.out.mono ?_
  rintro e w1 ⟨b, rfl, h1⟩
  have P1 := Lib.hid (push_ld 7 h1); clear h1 HN
  go_wp2_with fail
  refine P1.out.mono ?_
  rintro e w2 ⟨rfl, h2, -⟩
  have H2 := Lib.hid h2; clear h2 P1
  go_wp2_with fail
  go_loopw [14] (fun t wr => ∃ i : Nat, i ≤ 4 ∧ t = .int .i64 i ∧ Ld w b (itS (beginR (newD 2 1) 0 1 7) 0 i) i wr) (fun t _ => 4 - (intOf t).toNat)
  case atStart => exact ⟨0, by omega, rfl, H2.out⟩
  case round =>
    obtain ⟨i, hi, rfl, hS⟩ := hrel
    by_cases hlt : i < 4
    · have P := Lib.hid (step_ld 0 hS (by omega)); clear hS
      go_wp2_with fail
      refine P.out.mono ?_
      rintro e w3 ⟨rfl, h3, -⟩
      have H3 := Lib.hid h3; clear h3 P
      go_wp2_with fail
      go_roundw
      case rel => exact ⟨i + 1, by omega, by go_num, H3.out⟩
      case measure => simp [intOf]; omega
    · obtain rfl : i = 4 := by omega
      have hS' : Ld w b lv1 4 wr := hS
      have P := Lib.hid (steal_ld 1 hS'); clear hS hS' hlt hi H2
      rw [lv_a] at P
      go_wp2_with fail
      refine P.out.mono ?_
      rintro e w3 ⟨rfl, h3, -⟩
      have P := Lib.hid (pop_ld h3); clear h3
      rw [lv_b] at P
      go_wp2_with fail
      refine P.out.mono ?_
      rintro e w4 ⟨rfl, h4, -⟩
      have h4' : Ld w b lv2 4 w4 := h4
      have H4 := Lib.hid h4'; clear h4 h4' P
      go_wp2_with fail
      go_loopw [23, 4] (fun t m wr => ∃ i : Nat, i ≤ 6 ∧ t = .int .i64 i ∧ m = .int .i64 (cnt lv2 i : Nat) ∧ Ld w b (pr lv2 i) (4 + 2 * i) wr) (fun t _ _ => 6 - (intOf t).toNat)
      case atStart => exact ⟨0, by omega, rfl, rfl, H4.out⟩
      case round =>
        obtain ⟨i, hi, rfl, rfl, hS⟩ := hrel
        by_cases hlt : i < 6
        · have P := Lib.hid (step_ld 1 hS (by omega)); clear hS
          obtain ⟨D1, hD1⟩ : ∃ D1, D1 = stR (pr lv2 i) 1 := ⟨_, rfl⟩
          obtain ⟨g1, hg1⟩ : ∃ h, h = stH (pr lv2 i) 1 := ⟨_, rfl⟩
          obtain ⟨x1, hx1⟩ : ∃ x, x = stX (pr lv2 i) 1 := ⟨_, rfl⟩
          rw [← hD1, ← hg1, ← hx1] at P
          go_wp2_with fail
          refine P.out.mono ?_
          rintro e w5 ⟨rfl, h5, -⟩
          have hb5 := h5.v.lt
          have P2 := Lib.hid (step_ld 0 (h5.nob ((But.refl Nob _).alloc (.cells #[.bool (dnB g1), .int .i64 g1, .int .i64 x1] 44))) (by omega)); clear h5 P
          obtain ⟨D2, hD2⟩ : ∃ D2, D2 = stR D1 0 := ⟨_, rfl⟩
          obtain ⟨g2, hg2⟩ : ∃ h, h = stH D1 0 := ⟨_, rfl⟩
          obtain ⟨x2, hx2⟩ : ∃ x, x = stX D1 0 := ⟨_, rfl⟩
          rw [← hD2, ← hg2, ← hx2] at P2
          have HD1 := Lib.hid hD1; have HG1 := Lib.hid hg1; have HX1 := Lib.hid hx1; have HD2 := Lib.hid hD2; have HG2 := Lib.hid hg2; have HX2 := Lib.hid hx2
          clear hD1 hg1 hx1 hD2 hg2 hx2
          go_wp2_with fail
          refine P2.out.mono ?_
          rintro e w6 ⟨rfl, h6, hG6⟩
          have hA := (Blk.new w5 44 #[.bool (dnB g1), .int .i64 g1, .int .i64 x1]).but hG6 (by show ¬ _ = b; omega)
          have a0 := hA.cell 0; have a1 := hA.cell 1; have a2 := hA.cell 2
          simp only [List.getElem?_toArray, List.getElem?_cons_zero, List.getElem?_cons_succ] at a0 a1 a2
          have hz6 := hA.lt
          have H6 := Lib.hid h6; clear h6 P2 hA hG6
          go_wp2_with fail
          have hT : TwoV (w6.heap.size + 1) g1 g2 x1 x2 ((w6.alloc (.cells #[.bool (dnB g2), .int .i64 g2, .int .i64 x2] 44)).alloc (.cells #[.bool (dnB g1), .int .i64 g1, .int .i64 x1, .bool (dnB g2), .int .i64 g2, .int .i64 x2] 44)) := by
            have := Blk.new (w6.alloc (.cells #[.bool (dnB g2), .int .i64 g2, .int .i64 x2] 44)) 44 #[.bool (dnB g1), .int .i64 g1, .int .i64 x1, .bool (dnB g2), .int .i64 g2, .int .i64 x2]
            rwa [World.size_alloc] at this
          have h7 := H6.out.nob (((But.refl Nob _).alloc (.cells #[.bool (dnB g2), .int .i64 g2, .int .i64 x2] 44)).alloc (.cells #[.bool (dnB g1), .int .i64 g1, .int .i64 x1, .bool (dnB g2), .int .i64 g2, .int .i64 x2] 44))
          have HT7 := Lib.hid hT; have H7 := Lib.hid h7; clear hT h7 H6 a0 a1 a2
          generalize ((w6.alloc (.cells #[.bool (dnB g2), .int .i64 g2, .int .i64 x2] 44)).alloc (.cells #[.bool (dnB g1), .int .i64 g1, .int .i64 x1, .bool (dnB g2), .int .i64 g2, .int .i64 x2] 44)) = w7 at *
          obtain ⟨c, hc⟩ : ∃ c, c = cnt lv2 i := ⟨_, rfl⟩
          have hc6 : c ≤ 12 := by have := cnt_le lv2 i; omega
          have HC := Lib.hid hc
          rw [← hc]
          clear hc
          go_loopw [39, 4] (fun t m wr => ∃ j c' : Nat, j ≤ 2 ∧ t = .int .i64 j ∧ m = .int .i64 c' ∧ c' = c + (if 1 ≤ j then hv g1 x1 else 0) + (if 2 ≤ j then hv g2 x2 else 0) ∧ TwoV (w6.heap.size + 1) g1 g2 x1 x2 wr ∧ Ld w b D2 (4 + 2 * i + 1 + 1) wr) (fun t _ _ => 2 - (intOf t).toNat)
          case atStart => exact ⟨0, c, by omega, rfl, rfl, by simp, HT7.out, H7.out⟩
          case round =>
            obtain ⟨j, c', hj, rfl, rfl, hc', hT, hS⟩ := hrel
            by_cases hj2 : j < 2
            · obtain ⟨g, x, e0, e1, e2, hcn⟩ : ∃ (g : Nat) (x : Int), wr.cell? ⟨w6.heap.size + 1, j * 3, none⟩ = some (.bool (dnB g)) ∧ wr.cell? ⟨w6.heap.size + 1, j * 3 + 1, none⟩ = some (.int .i64 (g : Nat)) ∧ wr.cell? ⟨w6.heap.size + 1, j * 3 + 2, none⟩ = some (.int .i64 x) ∧
                  c + (if 1 ≤ j + 1 then hv g1 x1 else 0) + (if 2 ≤ j + 1 then hv g2 x2 else 0) = c' + hv g x := by
                rcases (by omega : j = 0 ∨ j = 1) with rfl | rfl
                · exact ⟨g1, x1, Blk.cell hT 0, Blk.cell hT 1, Blk.cell hT 2, by simp at hc'; simp; omega⟩
                · exact ⟨g2, x2, Blk.cell hT 3, Blk.cell hT 4, Blk.cell hT 5, by simp at hc'; simp; omega⟩
              have j0 : (0 : Int) ≤ (j : Int) := by omega
              have j1 : (j : Int) < 2 := by omega
              have hc13 : c' ≤ 13 := by rw [hc']; have := hv_le g1 x1; split <;> split <;> omega
              have hT' := hT.lt
              have HT := Lib.hid hT; have HS := Lib.hid hS; have HCN := Lib.hid hcn
              clear hT hS hcn hc' HT7 H7
              by_cases hh : g = 1 ∧ x = 7
              · obtain ⟨rfl, rfl⟩ := hh
                have t0 : dnB 1 = true := rfl
                have hv1 : hv 1 7 = 1 := rfl
                have HV := Lib.hid hv1; clear hv1
                go_wp2_with fail
                go_roundw
                case rel => exact ⟨j + 1, c' + 1, by omega, by go_num, by go_num, by rw [HCN.out, HV.out], Blk.alloc HT.out _, HS.out.nob ((But.refl _ _).alloc _)⟩
                case measure => simp [intOf]; omega
              · have hv0 : hv g x = 0 := by unfold hv; exact if_neg hh
                have HV := Lib.hid hv0; clear hv0
                by_cases g0 : g = 0
                · subst g0
                  have t0 : dnB 0 = false := rfl
                  clear hh
                  go_wp2_with fail
                  go_roundw
                  case rel => exact ⟨j + 1, c', by omega, by go_num, rfl, by rw [HCN.out, HV.out]; rfl, Blk.alloc HT.out _, HS.out.nob ((But.refl _ _).alloc _)⟩
                  case measure => simp [intOf]; omega
                · have t0 : dnB g = true := by simp [dnB, g0]
                  by_cases g1' : g = 1
                  · subst g1'
                    have t1 : (x == 7) = false := by simp; omega
                    clear hh g0
                    go_wp2_with fail
                    go_roundw
                    case rel => exact ⟨j + 1, c', by omega, by go_num, rfl, by rw [HCN.out, HV.out]; rfl, Blk.alloc HT.out _, HS.out.nob ((But.refl _ _).alloc _)⟩
                    case measure => simp [intOf]; omega
                  · have t1 : (((g : Nat) : Int) == 1) = false := by simp; omega
                    clear hh g0 g1'
                    go_wp2_with fail
                    go_roundw
                    case rel => exact ⟨j + 1, c', by omega, by go_num, rfl, by rw [HCN.out, HV.out]; rfl, Blk.alloc HT.out _, HS.out.nob ((But.refl _ _).alloc _)⟩
                    case measure => simp [intOf]; omega
            · obtain rfl : j = 2 := by omega
              have HCN : Hid (c' = cnt lv2 (i + 1)) := by
                simp at hc'
                simp only [cnt, hitN, ← HD1.out, ← HG1.out, ← HX1.out, ← HG2.out, ← HX2.out, ← HC.out]
                exact hc'
              have h9 : Ld w b (pr lv2 (i + 1)) (4 + 2 * (i + 1)) wr := by
                simp only [pr, ← HD1.out, ← HD2.out]
                exact hS
              have H9 := Lib.hid h9
              clear hS hc' hT h9 H7 HT7
              go_wp2_with fail
              go_roundw
              case rel => exact ⟨i + 1, by omega, by go_num, by rw [HCN.out], H9.out⟩
              case measure => simp [intOf]; omega
        · obtain rfl : i = 6 := by omega
          have P := len_ld hS (by omega)
          rw [lv_l] at P
          rw [lv_n]
          have P := Lib.hid P; have HS := Lib.hid hS
          clear hS H4 hlt hi
          go_wp2_with fail
          refine P.out.mono ?_
          rintro e w9 ⟨rfl, q, rfl⟩
          go_wp2_with fail
          go_ret
          exact ⟨rfl, (HS.out.nob ((But.refl _ _).drewN q)).below⟩
end Go.Proofs.Ytfejimlfnelhhaa
