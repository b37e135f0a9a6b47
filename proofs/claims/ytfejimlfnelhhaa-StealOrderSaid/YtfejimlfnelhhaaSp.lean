/- StealOrder's walk. -/
import Derived.Test.YtfejimlfnelhhaaSo
namespace Go.Proofs.Ytfejimlfnelhhaa
open Go.RowKit

def lst (z : Nat → Int) (f c : Nat) : List Int := (List.range c).map fun j => z (f + j)
theorem lst_length (z : Nat → Int) (f c : Nat) : (lst z f c).length = c := by simp [lst]
theorem lst_snoc (z : Nat → Int) (f c : Nat) : lst z f (c + 1) = lst z f c ++ [z (f + c)] := by simp [lst, List.range_succ]
theorem lst_cons (z : Nat → Int) (f c : Nat) : lst z f (c + 1) = z f :: lst z (f + 1) c := by
  simp only [lst, List.range_succ_eq_map, List.map_cons, List.map_map]
  congr 1
  refine List.map_congr_left fun j _ => ?_
  show z (f + (j + 1)) = z (f + 1 + j)
  congr 1; omega
theorem Qui.pop_any {D : Dq} {L : List Int} {y : Int} (h : Qui D (L ++ [y])) : ∃ m D', EndsC (beginR D 0 5 0) 0 m 1 y D' ∧ Qui D' L ∧ D'.room = D.room ∧ D'.th = D.th := by
  cases L with
  | nil => obtain ⟨D', h1⟩ := h.pop_one; exact ⟨_, D', h1⟩
  | cons a t => obtain ⟨D', h1⟩ := h.pop_more (by simp); exact ⟨_, D', h1⟩
set_option maxRecDepth 100000 in
set_option maxHeartbeats 8000000 in
theorem order28_any (A : Option Addr) (len cap : Nat) (z : Nat → Int) (A2 : Option Addr) (len2 cap2 : Nat) (q : Nat → Bool) (w : World) (hcap : len ≤ cap) (hI : IntsIn w A len z) (hQ : BoolsIn w A2 len2 q) :
    Calls Try.prog 5 #[.slice A len cap, .slice A2 len2 cap2] w fun e w' => e = .returned (.bool true) ∧ Below w.heap.size w w' := by
  go_enter Try.func5, Try.ntmps5
  go_upto_region 1 with fail
  go_cut [0] (fun t wx => ∃ N : Nat, N ≤ 60 ∧ N ≤ len ∧ t = .slice A N cap ∧ w = wx)
  case first =>
    by_cases h60 : len ≤ 60
    · have t0 : ¬ (60 : Int) < len := by omega
      have t1 : (0 : Int) ≤ len := by omega
      have t2 : (len : Int) ≤ cap := by omega
      go_wp2_with fail
      go_meet
      exact ⟨len, h60, Nat.le_refl _, rfl, rfl⟩
    · have t0 : (60 : Int) < len := by omega
      have t2 : (60 : Int) ≤ cap := by omega
      have t3 : 60 ≤ cap := by omega
      go_wp2_with fail
      go_meet
      exact ⟨60, Nat.le_refl _, by omega, rfl, rfl⟩
  case rest =>
    obtain ⟨N, hN1, hN2, rfl, rfl⟩ := hcut
    have HI := Lib.hid (hI.less hN2); have HQ := Lib.hid hQ
    have HN := Lib.hid (new_ld 64 1 64 1 (by decide) (by decide) w)
    clear hI hQ hcap hN2
    go_wp2_with fail
    refine HN.out.mono ?_
    rintro e w1 ⟨b, rfl, h1⟩
    have H1 := Lib.hid h1; clear h1 HN
    go_wp2_with fail
    go_loopw [27, 35] (fun t _ wr => ∃ (i : Nat) (D : Dq), i ≤ N ∧ t = .int .i64 i ∧ Ld w b D (4 * i) wr ∧ Qui D (lst z 0 i) ∧ D.room = 64 ∧ D.th = 1) (fun t _ _ => N - (intOf t).toNat)
    case atStart => exact ⟨0, _, Nat.zero_le _, rfl, H1.out, Qui.new (by omega), rfl, rfl⟩
    case round =>
      obtain ⟨i, D, hi, rfl, hS, hqui, hroom, hth⟩ := hrel
      by_cases hlt : i < N
      · obtain ⟨bb, off, rfl, hbb, hcx⟩ := (HI.out.below hS.below) i hlt
        have k0 : (0 : Int) ≤ (i : Int) := by omega
        have k1 : (i : Int) < (N : Int) := by omega
        obtain ⟨hb0, hq1, hr1, ht1⟩ := hqui.push (z i) (by rw [lst_length, hroom]; omega)
        have P := push_ld (z i) hS
        rw [hb0] at P
        obtain ⟨D0, hD0⟩ : ∃ D0, D0 = beginR D 0 1 (z i) := ⟨_, rfl⟩
        rw [← hD0] at P hq1 hr1 ht1
        have hsn := lst_snoc z 0 i
        rw [Nat.zero_add] at hsn
        rw [← hsn, ] at hq1
        have P := Lib.hid P; have HQ1 := Lib.hid hq1; have HR1 := Lib.hid (hr1.trans hroom); have HT1 := Lib.hid (ht1.trans hth)
        clear hS hqui hroom hth hb0 hq1 hr1 ht1 hD0 hsn H1
        go_wp2_with fail
        refine P.out.mono ?_
        rintro e w2 ⟨rfl, h2, -⟩
        have H2 := Lib.hid h2; clear h2 P hcx
        go_wp2_with fail
        obtain ⟨wo, rfl⟩ : ∃ wo : World, wo = wr := ⟨_, rfl⟩
        go_loopw [35] (fun t wr => ∃ j : Nat, j ≤ 4 ∧ t = .int .i64 j ∧ Ld w b (itS D0 0 j) (4 * i + j) wr) (fun t _ => 4 - (intOf t).toNat)
        case atStart => exact ⟨0, by omega, rfl, H2.out⟩
        case round =>
          obtain ⟨j, hj, rfl, hS⟩ := hrel
          by_cases hj4 : j < 4
          · have P := Lib.hid (itS_ld hS (by omega)); clear hS
            go_wp2_with fail
            refine P.out.mono ?_
            rintro e w3 ⟨rfl, h3, -⟩
            have H3 := Lib.hid h3; clear h3 P
            go_wp2_with fail
            go_roundw
            case rel => exact ⟨j + 1, hj4, by go_num, H3.out⟩
            case measure => simp [intOf]; omega
          · obtain rfl : j = 4 := by omega
            have HS := Lib.hid hS; clear hS H2
            go_wp2_with fail
            go_roundw
            case rel => exact ⟨i + 1, _, hlt, by go_num, HS.out, HQ1.out, HR1.out, HT1.out⟩
            case measure => simp [intOf]; omega
      · obtain rfl : i = N := by omega
        have HS := Lib.hid hS; have HQU := Lib.hid hqui; have HRO := Lib.hid hroom; have HTH := Lib.hid hth
        clear hS hqui hroom hth H1
        go_wp2_with fail
        go_loopw [8, 9, 45] (fun t8 t9 t wr => ∃ (j f c : Nat) (D : Dq), t = .int .i64 j ∧ t8 = .int .i64 f ∧ t9 = .int .i64 (f + c : Nat) ∧ j + c = i ∧ f + c ≤ i ∧ Ld w b D (240 + 6 * j) wr ∧ Qui D (lst z f c) ∧ D.room = 64 ∧ D.th = 1) (fun _ _ t _ => i - (intOf t).toNat)
        case atStart => exact ⟨0, 0, i, _, rfl, rfl, by rw [Nat.zero_add], by omega, by omega, HS.out.mono (by omega), HQU.out, HRO.out, HTH.out⟩
        case round =>
          obtain ⟨j, f, c, D2, rfl, rfl, rfl, hjc, hfc, hS, hqui, hroom, hth⟩ := hrel
          by_cases hc0 : c = 0
          · subst hc0
            obtain rfl : j = i := by omega
            obtain ⟨D', hE, hq1, hr1, ht1⟩ := Qui.steal_none (k := 1) hqui (by omega)
            have P := Lib.hid (one_any 1 0 _ 1 3 0 hS (by omega) (by rw [if_neg (by omega)]; unfold stealR; rw [if_neg (by omega)]) hE rfl)
            clear hS hqui HS HQU hroom hth hE hq1 hr1 ht1
            go_wp2_with fail
            refine P.out.mono ?_
            rintro e w2 ⟨rfl, h2⟩
            have H2 := Lib.hid h2; clear h2 P
            go_wp2_with fail
            refine (dstep_out (p := none) 0 (fun W _ => is_nil 0)).mono ?_
            rintro e w3 ⟨rfl, h3⟩
            have H3 := Lib.hid (H2.out.nob h3); clear h3
            go_wp2_with fail
            refine (push_none 1).mono ?_
            rintro e w4 ⟨rfl, h4⟩
            have H4 := Lib.hid (H3.out.nob (((But.refl _ _).alloc _).trans h4)); clear h4
            go_wp2_with fail
            refine (busy_no (p := none) 0 (is_nil 0)).mono ?_
            rintro e w5 ⟨rfl, rfl⟩
            go_wp2_with fail
            refine dlen_nil.mono ?_
            rintro e w5 ⟨rfl, rfl⟩
            go_wp2_with fail
            refine (lives28_any _).mono ?_
            rintro e w9 ⟨rfl, h9⟩
            have H9 := Lib.hid h9; clear h9
            go_wp2_with fail
            go_ret
            exact ⟨rfl, H4.out.below.trans (H9.out.mono H4.out.below.size)⟩
          · obtain ⟨c, rfl⟩ : ∃ c', c = c' + 1 := ⟨c - 1, by omega⟩
            clear hc0
            have j0 : (0 : Int) ≤ (j : Int) := by omega
            have j1 : (j : Int) < (i : Int) := by omega
            have hf0 : (0 : Int) ≤ (f : Int) := by omega
            have hf1 : (f : Int) < (i : Int) := by omega
            have hg0 : (0 : Int) ≤ ((f + c : Nat) : Int) := by omega
            have hg1 : ((f + c : Nat) : Int) < (i : Int) := by omega
            have e9 : ((f + (c + 1) : Nat) : Int) = ((f + c : Nat) : Int) + 1 := by omega
            by_cases hl2 : j < len2
            · obtain ⟨ba, oa, rfl, hba, hca⟩ := (HQ.out.below hS.below) j hl2
              have tl : decide (j < len2) = true := by simpa using hl2
              have jl : (j : Int) < (len2 : Int) := by omega
              cases hqj : q j with
              | true =>
                rw [hqj] at hca
                obtain ⟨D', hE, hq1, hr1, ht1⟩ := Qui.steal_more (k := 1) (L := lst z (f + 1) c) (y := z f) (by rw [← lst_cons]; exact hqui) (by omega)
                have P := Lib.hid (one_any 1 1 _ 3 1 (z f) hS (by omega) (by rw [if_neg (by omega)]; unfold stealR; rw [if_neg (by omega)]) hE rfl)
                obtain ⟨bb, off, e', hbb, hcx⟩ := (HI.out.below hS.below) f (by omega)
                subst e'
                
                have hb9 := Lib.hid hbb
                clear hS hqui HS HQU hbb
                go_wp2_with fail
                refine P.out.mono ?_
                rintro e w2 ⟨rfl, h2⟩
                obtain ⟨bb', off', e2, hbb', hcx'⟩ := (HI.out.below h2.below) f (by omega)
                cases e2
                have HL := Lib.hid (len_ld h2 (by omega))
                have H2 := Lib.hid h2; have HQ1 := Lib.hid hq1; have HR1 := Lib.hid (hr1.trans hroom); have HT1 := Lib.hid (ht1.trans hth)
                have hlq := hq1.len
                rw [lst_length] at hlq
                have hmax : Hid (max (D'.bot - D'.top) 0 = (c : Int)) := by rw [hlq]; exact (by omega : max (D'.top + (c : Int) - D'.top) 0 = (c : Int))
                rw [hmax.out] at HL
                clear h2 hcx hq1 hr1 ht1 hroom hth hlq P
                go_wp2_with fail
                refine HL.out.mono ?_
                rintro e w3 ⟨rfl, qq, rfl⟩
                go_wp2_with fail
                go_roundw
                case rel => exact ⟨j + 1, f + 1, c, D', by go_num, by go_num, congrArg _ (by omega), by omega, by omega, (H2.out.nob ((But.refl _ _).drewN _)).mono (by omega), HQ1.out, HR1.out, HT1.out⟩
                case measure => simp [intOf]; omega
              | false =>
                rw [hqj] at hca
                obtain ⟨m, D', hE, hq1, hr1, ht1⟩ := Qui.pop_any (L := lst z f c) (y := z (f + c)) (by rw [← lst_snoc]; exact hqui)
                have P := Lib.hid (one_any 0 1 _ m 1 (z (f + c)) hS (by omega) (by rw [if_pos rfl]) hE rfl)
                obtain ⟨bb, off, e', hbb, hcx⟩ := (HI.out.below hS.below) (f + c) (by omega)
                subst e'
                
                have hb9 := Lib.hid hbb
                clear hS hqui HS HQU hbb
                go_wp2_with fail
                refine P.out.mono ?_
                rintro e w2 ⟨rfl, h2⟩
                obtain ⟨bb', off', e2, hbb', hcx'⟩ := (HI.out.below h2.below) (f + c) (by omega)
                cases e2
                have HL := Lib.hid (len_ld h2 (by omega))
                have H2 := Lib.hid h2; have HQ1 := Lib.hid hq1; have HR1 := Lib.hid (hr1.trans hroom); have HT1 := Lib.hid (ht1.trans hth)
                have hlq := hq1.len
                rw [lst_length] at hlq
                have hmax : Hid (max (D'.bot - D'.top) 0 = (c : Int)) := by rw [hlq]; exact (by omega : max (D'.top + (c : Int) - D'.top) 0 = (c : Int))
                rw [hmax.out] at HL
                clear h2 hcx hq1 hr1 ht1 hroom hth hlq P
                go_wp2_with fail
                refine HL.out.mono ?_
                rintro e w3 ⟨rfl, qq, rfl⟩
                go_wp2_with fail
                go_roundw
                case rel => exact ⟨j + 1, f, c, D', by go_num, rfl, congrArg _ (by omega), by omega, by omega, (H2.out.nob ((But.refl _ _).drewN _)).mono (by omega), HQ1.out, HR1.out, HT1.out⟩
                case measure => simp [intOf]; omega
            · have tl : decide (j < len2) = false := by simpa using hl2
              obtain ⟨m, D', hE, hq1, hr1, ht1⟩ := Qui.pop_any (L := lst z f c) (y := z (f + c)) (by rw [← lst_snoc]; exact hqui)
              have P := Lib.hid (one_any 0 1 _ m 1 (z (f + c)) hS (by omega) (by rw [if_pos rfl]) hE rfl)
              obtain ⟨bb, off, e', hbb, hcx⟩ := (HI.out.below hS.below) (f + c) (by omega)
              subst e'
              
              have hb9 := Lib.hid hbb
              clear hS hqui HS HQU hbb
              go_wp2_with fail
              refine P.out.mono ?_
              rintro e w2 ⟨rfl, h2⟩
              obtain ⟨bb', off', e2, hbb', hcx'⟩ := (HI.out.below h2.below) (f + c) (by omega)
              cases e2
              have HL := Lib.hid (len_ld h2 (by omega))
              have H2 := Lib.hid h2; have HQ1 := Lib.hid hq1; have HR1 := Lib.hid (hr1.trans hroom); have HT1 := Lib.hid (ht1.trans hth)
              have hlq := hq1.len
              rw [lst_length] at hlq
              have hmax : Hid (max (D'.bot - D'.top) 0 = (c : Int)) := by rw [hlq]; exact (by omega : max (D'.top + (c : Int) - D'.top) 0 = (c : Int))
              rw [hmax.out] at HL
              clear h2 hcx hq1 hr1 ht1 hroom hth hlq P
              go_wp2_with fail
              refine HL.out.mono ?_
              rintro e w3 ⟨rfl, qq, rfl⟩
              go_wp2_with fail
              go_roundw
              case rel => exact ⟨j + 1, f, c, D', by go_num, rfl, congrArg _ (by omega), by omega, by omega, (H2.out.nob ((But.refl _ _).drewN _)).mono (by omega), HQ1.out, HR1.out, HT1.out⟩
              case measure => simp [intOf]; omega
end Go.Proofs.Ytfejimlfnelhhaa
