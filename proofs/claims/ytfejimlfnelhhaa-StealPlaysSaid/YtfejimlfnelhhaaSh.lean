/- StealOnce's walk. -/
import Derived.Test.YtfejimlfnelhhaaSj
namespace Go.Proofs.Ytfejimlfnelhhaa
open Go.RowKit

theorem busy_in_or (D : Dq) (a : Nat) : (inS (a : Int) (D.th + 1) && busyB D (a : Int).toNat) = true ↔ a ≤ D.th ∧ (D.cl a).nx ≠ 0 := by
  rw [Int.toNat_natCast]; simp [inS, busyB]; omega
set_option maxRecDepth 100000 in
set_option maxHeartbeats 16000000 in
theorem once28_any (room thieves : Int) (A : Option Addr) (len cap : Nat) (K : Nat → Nat) (I X : Nat → Int) (w : World) (hcap : len ≤ cap) (hI : OpsIn w A len K I X) :
    Calls Try.prog 4 #[.int .i64 room, .int .i64 thieves, .slice A len cap] w fun e w' => e = .returned (.bool true) ∧ Below w.heap.size w w' := by
  obtain ⟨r, hr⟩ : ∃ r : Nat, min (max room 1) 64 = (r : Int) := ⟨(min (max room 1) 64).toNat, by omega⟩
  obtain ⟨t, ht⟩ : ∃ t : Nat, min (max thieves 0) 8 = (t : Int) := ⟨(min (max thieves 0) 8).toNat, by omega⟩
  have hr1 : 1 ≤ r := by omega
  have HN := Lib.hid (new_ld room thieves r t hr ht w)
  clear hr ht
  go_enter Try.func4, Try.ntmps4
  go_upto_region 1 with fail
  go_cut [2] (fun t wx => ∃ N : Nat, N ≤ 300 ∧ N ≤ len ∧ t = .slice A N cap ∧ w = wx)
  case first =>
    by_cases h60 : len ≤ 300
    · have t0 : ¬ (300 : Int) < len := by omega
      have t1 : (0 : Int) ≤ len := by omega
      have t2 : (len : Int) ≤ cap := by omega
      go_wp2_with fail
      go_meet
      exact ⟨len, h60, Nat.le_refl _, rfl, rfl⟩
    · have t0 : (300 : Int) < len := by omega
      have t2 : (300 : Int) ≤ cap := by omega
      have t3 : 300 ≤ cap := by omega
      go_wp2_with fail
      go_meet
      exact ⟨300, Nat.le_refl _, by omega, rfl, rfl⟩
  case rest =>
    obtain ⟨N, hN1, hN2, rfl, rfl⟩ := hcut
    have HI := Lib.hid (hI.less hN2)
    clear hI hcap hN2
    go_wp2_with fail
    refine HN.out.mono ?_
    rintro e w1 ⟨b, rfl, h1⟩
    have hb1 := h1.v.lt
    have P := Lib.hid (run28_any A N cap K I X w1 hN1 hr1 h1 (by omega) HI.out); clear h1 HN
    go_wp2_with fail
    refine P.out.mono ?_
    rintro e w2 ⟨v, D, nxt, T, rfl, hT, hL, hIn, hn1, hn2⟩
    obtain ⟨g, c2, rfl, hg⟩ := id hT.2
    have HT := Lib.hid hT; have HL := Lib.hid hL; have HIN := Lib.hid hIn
    clear hT hL hIn P
    go_wp2_with fail
    go_loopw [35, 38] (fun q _ wr => ∃ (a : Nat) (D : Dq) (T : Nat → Int), a ≤ 9 ∧ q = .int .i64 a ∧ Took w1.heap.size (.slice (some ⟨g, 0, none⟩) nxt c2) nxt T wr ∧ Ld w b D (300 + 6 * a) wr ∧ Inv D nxt T ∧ (∀ k, k < a → k ≤ D.th → (D.cl k).nx = 0)) (fun q _ _ => 9 - (intOf q).toNat)
    case atStart => exact ⟨0, D, T, by omega, rfl, HT.out, HL.out.mono (by omega), HIN.out, fun k hk => absurd hk (Nat.not_lt_zero _)⟩
    case round =>
      obtain ⟨a, D, T, ha, rfl, hT, hL, hIn, hid⟩ := hrel
      by_cases hlt : a < 9
      · have a0 : (0 : Int) ≤ (a : Int) := by omega
        have a9 : (a : Int) < 9 := by omega
        have HT := Lib.hid hT; have HL := Lib.hid hL; have HIN := Lib.hid hIn; have HID := Lib.hid hid
        clear hT hL hIn hid
        go_wp2_with fail
        obtain ⟨wo, rfl⟩ : ∃ wo : World, wo = wr := ⟨_, rfl⟩
        go_loopw [38] (fun q wr => ∃ (c : Nat) (D : Dq) (T : Nat → Int), c ≤ 6 ∧ q = .int .i64 c ∧ Took w1.heap.size (.slice (some ⟨g, 0, none⟩) nxt c2) nxt T wr ∧ Ld w b D (300 + 6 * a + c) wr ∧ Inv D nxt T ∧ (∀ k, k < a → k ≤ D.th → (D.cl k).nx = 0) ∧ (a ≤ D.th → remN (D.cl a).nx + c ≤ 6)) (fun q _ => 6 - (intOf q).toNat)
        case atStart => exact ⟨0, D, T, by omega, rfl, HT.out, HL.out, HIN.out, HID.out, fun _ => by have := (nice_rem HL.out.nice a).1; omega⟩
        case round =>
          obtain ⟨c, D, T, hc, rfl, hT, hL, hIn, hid, hrm⟩ := hrel
          by_cases hlt6 : c < 6
          · have c6 : (c : Int) < 6 := by omega
            have PB := dbusy_any a hL.v hL.nice.th
            cases hbz : (inS (a : Int) (D.th + 1) && busyB D (a : Int).toNat) with
            | false =>
              rw [hbz] at PB
              have PB := Lib.hid PB; have HT2 := Lib.hid hT; have HL2 := Lib.hid hL; have HIN2 := Lib.hid hIn; have HID2 := Lib.hid hid
              have hrm2 : Hid (a ≤ D.th → remN (D.cl a).nx + (c + 1) ≤ 6) := fun q => by
                have : (D.cl a).nx = 0 := by
                  by_cases e : (D.cl a).nx = 0
                  · exact e
                  · have := (busy_in_or D a).2 ⟨q, e⟩; rw [hbz] at this; cases this
                rw [this]; show 0 + (c + 1) ≤ 6; omega
              clear hT hL hIn hid hrm hbz HT HL HIN HID
              go_wp2_with fail
              refine PB.out.mono ?_
              rintro e w5 ⟨rfl, rfl⟩
              go_wp2_with fail
              go_roundw
              case rel => exact ⟨c + 1, D, T, hlt6, by go_num, HT2.out, HL2.out.mono (by omega), HIN2.out, HID2.out, hrm2.out⟩
              case measure => simp [intOf]; omega
            | true =>
              rw [hbz] at PB
              obtain ⟨hth, hne⟩ := (busy_in_or D a).1 hbz
              have P := step_ld a hL (by omega)
              obtain ⟨i1, i4, hin⟩ := hIn.stR hL.nice a
              have hrs := rem_step hL.nice a hth hne
              have hid2 : Hid (∀ k, k < a → k ≤ (stR D a).th → ((stR D a).cl k).nx = 0) := fun k k1 k2 => by
                rw [stR_cl D a (show k ≠ a by omega)]; rw [stR_th] at k2; exact hid k k1 k2
              have hrm2 : Hid (a ≤ (stR D a).th → remN ((stR D a).cl a).nx + (c + 1) ≤ 6) := fun q => by have := hrm hth; omega
              obtain ⟨D', hD'⟩ : ∃ D', D' = stR D a := ⟨_, rfl⟩
              obtain ⟨how, hhow⟩ : ∃ h, h = stH D a := ⟨_, rfl⟩
              obtain ⟨x, hx⟩ : ∃ x, x = stX D a := ⟨_, rfl⟩
              rw [← hD', ← hhow, ← hx] at P hin
              rw [← hD'] at hid2 hrm2
              rw [← hhow, ← hx] at i1
              rw [← hhow] at i4
              have P := Lib.hid P; have HI2 := Lib.hid hin; have PB := Lib.hid PB
              have HT2 := Lib.hid hT
              have nI : (nxt : Int) ≤ 301 := by omega
              clear hD' hhow hx hin hrs hrm hid hbz hT hL hIn HT HL HIN HID
              go_wp2_with fail
              refine PB.out.mono ?_
              rintro e w4 ⟨rfl, rfl⟩
              by_cases q4 : how = 4
              · subst q4
                have h2n := i4 rfl
                have nI2 : (0 : Int) ≤ ((nxt - 1 : Nat) : Int) := by omega
                have nI3 : ((nxt - 1 : Nat) : Int) < (nxt : Int) := by omega
                have nI4 : (nxt : Int) - 1 = ((nxt - 1 : Nat) : Int) := by omega
                clear i1 i4
                go_wp2_with fail
                refine P.out.mono ?_
                rintro e w5 ⟨rfl, h5, hG5⟩
                have HT5 := Lib.hid (HT2.out.but hG5 (fun k hk q => by have : k = b := q; omega)); have H5 := Lib.hid h5
                have cT : w5.cell? ⟨g, nxt - 1, none⟩ = some (.int .i64 (T (nxt - 1))) := HT5.out.cell (by omega)
                have fT := HT5.out.free (nxt - 1)
                have hg5 := HT5.out.gt
                clear h5 hG5 P PB
                go_wp2_with fail
                go_roundw
                case rel => exact ⟨c + 1, D', _, hlt6, by go_num, (HT5.out.put (nxt - 1) (-1)).but ((But.refl Nob _).alloc _) (fun _ _ q => q), ((H5.out.far (p := ⟨g, nxt - 1, none⟩) (by show b < g; omega)).nob ((But.refl Nob _).alloc _)).mono (m := 300 + 6 * a + (c + 1)) (Nat.le_refl _), by have := HI2.out; rw [afterT_4] at this; exact this, hid2.out, hrm2.out⟩
                case measure => simp [intOf]; omega
              · by_cases q1 : how = 1
                · subst q1
                  obtain ⟨v, rfl, v1, v2, v3⟩ := i1 rfl
                  have t1 : ((v : Int) < 1) = False := by simp; omega
                  have t2 : decide (v < 1) = false := by simp; omega
                  have t3 : decide (nxt ≤ v) = false := by simp; omega
                  have t4 : ¬ nxt ≤ v := by omega
                  have t5 : ¬ v < 1 := by omega
                  have nI2 : (0 : Int) ≤ (v : Int) := by omega
                  have nI3 : (v : Int) < (nxt : Int) := by omega
                  have HV := Lib.hid v3
                  clear i1 i4 q4 v3
                  go_wp2_with fail
                  refine P.out.mono ?_
                  rintro e w5 ⟨rfl, h5, hG5⟩
                  have HT5 := Lib.hid (HT2.out.but hG5 (fun k hk q => by have : k = b := q; omega)); have H5 := Lib.hid h5
                  have cT : w5.cell? ⟨g, v, none⟩ = some (.int .i64 (T v)) := HT5.out.cell (by omega)
                  rw [HV.out] at cT
                  have fT := HT5.out.free v
                  have hg5 := HT5.out.gt
                  clear h5 hG5 P PB
                  go_wp2_with fail
                  go_roundw
                  case rel => exact ⟨c + 1, D', _, hlt6, by go_num, (HT5.out.put v 1).but ((But.refl Nob _).alloc _) (fun _ _ q => q), ((H5.out.far (p := ⟨g, v, none⟩) (by show b < g; omega)).nob ((But.refl Nob _).alloc _)).mono (m := 300 + 6 * a + (c + 1)) (Nat.le_refl _), by have := HI2.out; rw [afterT_1 rfl] at this; exact this, hid2.out, hrm2.out⟩
                  case measure => simp [intOf]; omega
                · have t1 : ((how : Int) == 1) = false := by simp; omega
                  have t4 : ((how : Int) == 4) = false := by simp; omega
                  have hin := HI2.out
                  rw [afterT_o q1 q4] at hin
                  have HI3 := Lib.hid hin
                  clear i1 i4 q4 q1 hin
                  go_wp2_with fail
                  refine P.out.mono ?_
                  rintro e w5 ⟨rfl, h5, hG5⟩
                  have HT5 := Lib.hid (HT2.out.but hG5 (fun k hk q => by have : k = b := q; omega)); have H5 := Lib.hid h5
                  clear h5 hG5 P PB
                  go_wp2_with fail
                  go_roundw
                  case rel => exact ⟨c + 1, D', T, hlt6, by go_num, HT5.out.but ((But.refl Nob _).alloc _) (fun _ _ q => q), (H5.out.nob ((But.refl Nob _).alloc _)).mono (m := 300 + 6 * a + (c + 1)) (Nat.le_refl _), HI3.out, hid2.out, hrm2.out⟩
                  case measure => simp [intOf]; omega
          · obtain rfl : c = 6 := by omega
            have hid2 : Hid (∀ k, k < a + 1 → k ≤ D.th → (D.cl k).nx = 0) := fun k k1 k2 => by
              by_cases e : k = a
              · subst e; exact (nice_rem hL.nice k).2 (by have := hrm k2; omega)
              · exact hid k (by omega) k2
            have HT2 := Lib.hid hT; have HL2 := Lib.hid hL; have HIN2 := Lib.hid hIn
            clear hT hL hIn hid hrm HT HL HIN HID
            go_wp2_with fail
            go_roundw
            case rel => exact ⟨a + 1, D, T, hlt, by go_num, HT2.out, HL2.out.mono (by omega), HIN2.out, hid2.out⟩
            case measure => simp [intOf]; omega
      · obtain rfl : a = 9 := by omega
        obtain ⟨m, f, hm, hcz, hqui, hf, hup⟩ := hIn.quiet (fun k hk => hid k (by have := hL.nice.th; omega) hk)
        have HT2 := Lib.hid hT; have HL2 := Lib.hid hL; have HM := Lib.hid hm; have HCZ := Lib.hid hcz; have HQ := Lib.hid hqui; have HF := Lib.hid hf; have HUP := Lib.hid hup
        have hmn : m ≤ nxt - 1 := by rw [← hcz]; exact cz_le _ _
        clear hT hL hIn hid hm hcz hqui hf hup HT HL HIN
        obtain ⟨hcap2, hcm2⟩ : nxt ≤ c2 ∧ c2 ≤ 9223372036854775807 := by
          have := HT2.out.1
          unfold Mine at this
          rw [zs_length] at this
          rcases this.2 with ⟨q, _⟩ | ⟨g', cap', cur, q, _, _, q1, q2, _⟩
          · cases q
          · cases q; unfold maxLen at q2; exact ⟨q1, by omega⟩
        have n1I : (1 : Int) ≤ (nxt : Int) := by omega
        have ncI : (nxt : Int) ≤ (c2 : Int) := by omega
        go_upto_region 22 with fail
        go_cut [85, 86, 87] (fun q l j wx => ∃ ad cp, q = .slice ad (nxt - 1) cp ∧ l = .int .i64 (nxt - 1 : Nat) ∧ j = .int .i64 0 ∧ (1 < nxt → ad = some ⟨g, 1, none⟩) ∧ wr = wx)
        case first =>
          by_cases hc1 : c2 = 1
          · obtain rfl : nxt = 1 := by omega
            subst hc1
            go_wp2_with fail
            go_meet
            exact ⟨_, _, rfl, rfl, rfl, fun q => absurd q (by omega), rfl⟩
          · have hcI : ¬ (1 : Int) = (c2 : Int) := by omega
            have hcI2 : ((c2 : Int) == 1) = false := by simp; omega
            go_wp2_with fail
            go_meet
            exact ⟨_, _, rfl, rfl, rfl, fun _ => rfl, rfl⟩
        case rest =>
          obtain ⟨ad, cp, rfl, rfl, rfl, had, rfl⟩ := hcut
          have nl : nxt - 1 ≤ 301 := by omega
          go_wp2_with fail
          go_loopw [13, 87] (fun l q wx => ∃ j : Nat, j ≤ nxt - 1 ∧ q = .int .i64 j ∧ l = .int .i64 (cz T j : Nat) ∧ wr = wx) (fun _ q _ => nxt - 1 - (intOf q).toNat)
          case atStart => exact ⟨0, Nat.zero_le _, rfl, rfl, rfl⟩
          case round =>
            obtain ⟨j, hj, rfl, rfl, rfl⟩ := hrel
            have hcl := cz_le T j
            by_cases hlt : j < nxt - 1
            · obtain rfl := had (by omega)
              have cT : wr.cell? ⟨g, 1 + j, none⟩ = some (.int .i64 (T (j + 1))) := by rw [Nat.add_comm]; exact HT2.out.cell (by omega)
              have j0 : (0 : Int) ≤ (j : Int) := by omega
              have j1 : (j : Int) < ((nxt - 1 : Nat) : Int) := by omega
              by_cases q : T (j + 1) = 0
              · rw [q] at cT
                have HC : Hid (cz T (j + 1) = cz T j + 1) := by show cz T (j + 1) = _; simp only [cz]; rw [if_pos q]
                obtain ⟨c, hc⟩ : ∃ c, c = cz T j := ⟨_, rfl⟩
                rw [← hc] at HC ⊢
                have hc301 : c ≤ 301 := by omega
                clear q hcl hc had
                go_wp2_with fail
                go_roundw
                case rel => exact ⟨j + 1, hlt, by go_num, by rw [HC.out]; go_num, trivial⟩
                case measure => simp [intOf]; omega
              · have t0 : (T (j + 1) == 0) = false := by simpa using q
                have HC : Hid (cz T (j + 1) = cz T j) := by show cz T (j + 1) = _; simp only [cz]; rw [if_neg q, Nat.add_zero]
                obtain ⟨c, hc⟩ : ∃ c, c = cz T j := ⟨_, rfl⟩
                rw [← hc] at HC ⊢
                clear q hcl hc had
                go_wp2_with fail
                go_roundw
                case rel => exact ⟨j + 1, hlt, by go_num, by rw [HC.out], trivial⟩
                case measure => simp [intOf]; omega
            · obtain rfl : j = nxt - 1 := by omega
              rw [HCZ.out]
              have PL := len_ld HL2.out (by omega)
              rw [HM.out, show max (m : Int) 0 = (m : Int) by omega] at PL
              have PL := Lib.hid PL
              have tm : ((m : Int) != (m : Int)) = false := by simp
              have m0 : (0 : Int) ≤ (m : Int) := by omega
              clear hlt hj hcl had
              go_wp2_with fail
              refine PL.out.mono ?_
              rintro e w5 ⟨rfl, q5, hw5⟩
              have hG5 : But Nob wr w5 := by rw [hw5]; exact (But.refl _ _).drewN q5
              have HT5 := Lib.hid (HT2.out.but hG5 (fun _ _ q => q)); have HL5 := Lib.hid (HL2.out.nob hG5)
              clear hw5 hG5 PL
              go_wp2_with fail
              go_loopw [16, 17, 18, 103] (fun lv _ _ q wx => ∃ (j c : Nat) (D : Dq) (T : Nat → Int) (la : Int), j + c = m ∧ q = .int .i64 j ∧ lv = .int .i64 la ∧ Took w1.heap.size (.slice (some ⟨g, 0, none⟩) nxt c2) nxt T wx ∧ Ld w b D (354 + 6 * j) wx ∧ Qui D (lsf f c) ∧
                  (∀ i, i < c → ∃ v : Nat, f i = v ∧ 1 ≤ v ∧ v < nxt ∧ (v : Int) < la ∧ T v = 0)) (fun _ _ _ q _ => m - (intOf q).toNat)
              case atStart => exact ⟨0, m, _, T, nxt, by omega, rfl, rfl, HT5.out, HL5.out.mono (by omega), HQ.out, fun i hi => by obtain ⟨v, a, b, c, d⟩ := HF.out i hi; exact ⟨v, a, b, c, by omega, d⟩⟩
              case round =>
                obtain ⟨j, c, D, T, la, hjc, rfl, rfl, hT, hL, hqui, hf⟩ := hrel
                by_cases hc0 : c = 0
                · subst hc0
                  obtain rfl : j = m := by omega
                  obtain ⟨D', hE, hq1, hr1', ht1⟩ := Qui.pop_none (D := D) hqui
                  have P := Lib.hid (one_any 0 0 _ 2 3 0 hL (by omega) (by rw [if_pos rfl]) hE rfl)
                  clear hT hL hqui hf hE hq1 hr1' ht1 HT2 HL2 HT5 HL5 HQ HF HUP HCZ HM
                  go_wp2_with fail
                  refine P.out.mono ?_
                  rintro e w6 ⟨rfl, h6, -⟩
                  have H6 := Lib.hid h6; clear h6 P
                  go_wp2_with fail
                  refine (lives28_any _).mono ?_
                  rintro e w9 ⟨rfl, h9⟩
                  have H9 := Lib.hid h9; clear h9
                  go_wp2_with fail
                  go_ret
                  exact ⟨rfl, H6.out.below.trans (H9.out.mono H6.out.below.size)⟩
                · obtain ⟨c, rfl⟩ : ∃ c', c = c' + 1 := ⟨c - 1, by omega⟩
                  obtain ⟨v, hv, v1, v2, v3, v4⟩ := hf c (by omega)
                  rw [lsf_snoc, hv] at hqui
                  obtain ⟨mm, D', hE, hq1, hr1', ht1⟩ := Qui.pop_any (L := lsf f c) (y := (v : Int)) hqui
                  have P := Lib.hid (one_any 0 1 _ mm 1 (v : Int) hL (by omega) (by rw [if_pos rfl]) hE rfl)
                  have hf2 : Hid (∀ i, i < c → ∃ u : Nat, f i = u ∧ 1 ≤ u ∧ u < nxt ∧ (u : Int) < (v : Int) ∧ updS T v 1 u = 0) := fun i hi => by
                    obtain ⟨u, a1, a2, a3, a4, a5⟩ := hf i (by omega)
                    have := HUP.out i c hi (by omega)
                    exact ⟨u, a1, a2, a3, by omega, by rw [updS_other _ _ (show u ≠ v by omega)]; exact a5⟩
                  have j0 : (0 : Int) ≤ (j : Int) := by omega
                  have j1 : (j : Int) < (m : Int) := by omega
                  have t1 : ((v : Int) < 1) = False := by simp; omega
                  have t2 : decide (v < 1) = false := by simp; omega
                  have t3 : decide (la ≤ (v : Int)) = false := by simp; omega
                  have t4 : ¬ la ≤ (v : Int) := by omega
                  have t5 : ¬ v < 1 := by omega
                  have nI2 : (0 : Int) ≤ (v : Int) := by omega
                  have nI3 : (v : Int) < (nxt : Int) := by omega
                  have bg : b < g := by omega
                  obtain ⟨k9, hk9⟩ : ∃ q, q = 354 + 6 * j := ⟨_, rfl⟩
                  rw [← hk9] at P
                  have HV := Lib.hid v4; have HTT := Lib.hid hT; have HQ1 := Lib.hid hq1; have HK9 := Lib.hid hk9
                  clear hT hL hqui hf hE hq1 hr1' ht1 hv v4 hc0 hk9 HT2 HL2 HT5 HL5 HQ HF HUP HCZ HM
                  go_wp2_with fail
                  refine P.out.mono ?_
                  rintro e w6 ⟨rfl, h6, hg6⟩
                  have hT6 : Took w1.heap.size (.slice (some ⟨g, 0, none⟩) nxt c2) nxt T w6 := HTT.out.but hg6 (fun k hk q => by have : k = b := q; omega)
                  have cT : w6.cell? ⟨g, v, none⟩ = some (.int .i64 (T v)) := hT6.cell (by omega)
                  rw [HV.out] at cT
                  have fT := hT6.free v
                  have HT6 := Lib.hid hT6; have H6 := Lib.hid h6
                  clear hT6 h6 hg6 P
                  go_wp2_with fail
                  go_roundw
                  case rel => exact ⟨j + 1, c, D', _, v, by omega, by go_num, rfl, HT6.out.put v 1, (H6.out.far (p := ⟨g, v, none⟩) bg).mono (by have := HK9.out; omega), HQ1.out, hf2.out⟩
                  case measure => simp [intOf]; omega
end Go.Proofs.Ytfejimlfnelhhaa
