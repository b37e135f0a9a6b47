/- RingEnds' walk. -/
import Derived.Test.YtlgdeadghmbfmaaLg
import Derived.Test.YtlgdeadghmbfmaaMo
namespace Go.Proofs.Ytlgdeadghmbfmaa
open Go.RowKit

/-- The first k numbers. -/
def zs (z : Nat → Int) (k : Nat) : List Int := (List.range k).map z
theorem zs_length (z : Nat → Int) (k : Nat) : (zs z k).length = k := by simp [zs]
theorem zs_succ (z : Nat → Int) (k : Nat) : zs z (k + 1) = zs z k ++ [z k] := by simp [zs, List.range_succ]
theorem zs_cons (z : Nat → Int) (k : Nat) : zs z (k + 1) = z 0 :: zs (fun i => z (i + 1)) k := by simp [zs, List.range_succ_eq_map, Function.comp_def]
set_option maxRecDepth 100000 in
set_option maxHeartbeats 4000000 in
theorem ends_any (A : Option Addr) (len cap : Nat) (z : Nat → Int) (back : Bool) (w : World) (hcap : len ≤ cap) (hI : IntsIn w A len z) :
    Calls Try.prog 4 #[.slice A len cap, .bool back] w fun e w' => e = .returned (.bool true) ∧ Below w.heap.size w w' := by
  by_cases h100 : len ≤ 100
  · have t0 : ¬ (100 : Int) < len := by omega
    have t1 : (0 : Int) ≤ len := by omega
    have t2 : (len : Int) ≤ cap := by omega
    go_enter Try.func4, Try.ntmps4
    go_wp2_with fail
    refine (new_lg len len (by omega) w w (Below.refl _ _)).mono ?_
    rintro e w1 ⟨rfl, hR1⟩
    have hN1 : len ≤ 100 := h100
    clear t0 t1 t2 h100
    generalize hN : len = N at hR1 hN1 ⊢
    have hN2 : N ≤ len := by omega
    clear hN
    have HI := Lib.hid (hI.less hN2); have HR := Lib.hid hR1; clear hI hR1
    go_wp2_with fail
    go_loopw [24, 7] (fun t _ wr => ∃ k : Nat, k ≤ N ∧ t = .int .i64 k ∧ Lg w w.heap.size (zs z k) N wr) (fun t _ _ => N - (intOf t).toNat)
    case atStart => exact ⟨0, Nat.zero_le _, rfl, HR.out⟩
    case round =>
      obtain ⟨k, hk, rfl, hL⟩ := hrel
      by_cases hlt : k < N
      · obtain ⟨bb, off, rfl, hbb, hc⟩ := (HI.out.below hL.below) k hlt
        have HB := Lib.hid (back_lg (z k) hL (by rw [zs_length]; exact hlt)); clear hL
        have k0 : (0 : Int) ≤ (k : Int) := by omega
        have k1 : (k : Int) < (N : Int) := by omega
        go_wp2_with fail
        refine HB.out.mono ?_
        rintro e w2 ⟨rfl, h2⟩
        have H2 := Lib.hid h2; clear h2 hc
        go_wp2_with fail
        go_roundw
        case rel => exact ⟨k + 1, by omega, by go_num, by rw [zs_succ]; exact H2.out⟩
        case measure => simp [intOf]; omega
      · have hkN : k = N := by omega
        have t : decide (k < N) = false := by simp; omega
        have tt : ¬ (k : Int) < (N : Int) := by omega
        have HL : Hid (Lg w w.heap.size (zs z N) N wr) := by rw [hkN] at hL; exact hL
        have hd := HL.out.head
        clear hkN hL
        have B1 := Lib.hid (back_lg_bad 0 HL.out (zs_length z N)); have B2 := Lib.hid (front_lg_bad 0 HL.out (zs_length z N)); have B3 := Lib.hid (put_lg_bad 0 0 HL.out (zs_length z N))
        clear hd
        go_wp2_with (first
          | (go_at_call 21; (with_reducible refine B1.out.mono ?_); rintro e wq ⟨rfl, rfl⟩)
          | (go_at_call 22; (with_reducible refine B2.out.mono ?_); rintro e wq ⟨rfl, rfl⟩)
          | (go_at_call 23; (with_reducible refine B3.out.mono ?_); rintro e wq ⟨rfl, rfl⟩))
        clear t tt hlt hk B1 B2 B3
        cases back
        · go_loopw [45, 8] (fun t _ wr => ∃ k : Nat, k ≤ N ∧ t = .int .i64 k ∧ Lg w w.heap.size (zs (fun i => z (i + k)) (N - k)) N wr) (fun t _ _ => N - (intOf t).toNat)
          case atStart => exact ⟨0, Nat.zero_le _, rfl, HL.out⟩
          case round =>
            obtain ⟨k, hk, rfl, hL⟩ := hrel
            by_cases hlt : k < N
            · obtain ⟨bb, off, rfl, hbb, hc⟩ := (HI.out.below hL.below) k hlt
              have hL' : Lg w w.heap.size (z k :: zs (fun i => z (i + (k + 1))) (N - (k + 1))) N wr := by
                rw [show N - k = N - (k + 1) + 1 by omega, zs_cons] at hL
                simpa [Nat.add_assoc, Nat.add_comm 1] using hL
              have HF := Lib.hid (first_lg hL'); clear hL hL'
              have k0 : (0 : Int) ≤ (k : Int) := by omega
              have k1 : (k : Int) < (N : Int) := by omega
              go_wp2_with fail
              refine HF.out.mono ?_
              rintro e w2 ⟨rfl, h2⟩
              have H2 := Lib.hid h2; 
              have hc2 := hc; clear hc
              have hc : w2.cell? ⟨bb, off + k, none⟩ = some (.int .i64 (z k)) := by
                obtain ⟨bb', off', e, hbb', hc'⟩ := (HI.out.below h2.below) k hlt
                cases e; exact hc'
              clear h2 hc2
              go_wp2_with fail
              go_roundw
              case rel => exact ⟨k + 1, by omega, by go_num, H2.out⟩
              case measure => simp [intOf]; omega
            · have hkN : k = N := by omega
              have t : decide (k < N) = false := by simp; omega
              have tt : ¬ (k : Int) < (N : Int) := by omega
              have hL2 : Lg w w.heap.size [] N wr := by rw [hkN, Nat.sub_self] at hL; exact hL
              clear hkN hL
              have F0 := Lib.hid (first_none w.heap.size wr hL2.head)
              have L0 := Lib.hid (show Calls Try.prog 26 #[.pointer (some ⟨w.heap.size, 0, none⟩)] wr fun e w' => e = .returned (.int .i64 0) ∧ wr = w' from len_any w.heap.size 0 wr hL2.head)
              have HL2 := Lib.hid hL2; clear hL2
              go_wp2_with (first
                | (go_at_call 24; (with_reducible refine F0.out.mono ?_); rintro e wq ⟨rfl, rfl⟩)
                | (go_at_call 26; (with_reducible refine L0.out.mono ?_); rintro e wq ⟨rfl, rfl⟩)
                | (go_at_call 20; (with_reducible refine (lives5_any _).mono ?_); rintro e w9 ⟨rfl, h9⟩; have H9 := Lib.hid h9; clear h9))
              go_ret
              exact ⟨rfl, HL2.out.below.trans (H9.out.mono HL2.out.below.size)⟩
        · go_loopw [45, 8] (fun t _ wr => ∃ k : Nat, k ≤ N ∧ t = .int .i64 k ∧ Lg w w.heap.size (zs z (N - k)) N wr) (fun t _ _ => N - (intOf t).toNat)
          case atStart => exact ⟨0, Nat.zero_le _, rfl, HL.out⟩
          case round =>
            obtain ⟨k, hk, rfl, hL⟩ := hrel
            by_cases hlt : k < N
            · obtain ⟨bb, off, rfl, hbb, hc⟩ := (HI.out.below hL.below) k hlt
              obtain ⟨q, hq⟩ : ∃ q : Nat, q = N - (k + 1) := ⟨_, rfl⟩
              have hqz : ((N : Int) - 1) - k = (q : Int) := by omega
              have hqz2 : IntKind.i64.wrap ((N : Int) - 1 - k) = (q : Int) := by rw [IntWalk.i64_in _ (by omega)]; omega
              have hqz3 : IntKind.i64.wrap ((N : Int) - 1) = (N : Int) - 1 := IntWalk.i64_in _ (by omega)
              have hqN : q < N := by omega
              rw [show N - k = q + 1 by omega] at hL
              have hL' : Lg w w.heap.size (z 0 :: zs (fun i => z (i + 1)) q) N wr := by
                rw [zs_cons] at hL; exact hL
              have HQ : Hid (q = N - (k + 1)) := hq
              have HF := Lib.hid (first_lg hL'); clear hL hL' hq
              have k0 : (0 : Int) ≤ (k : Int) := by omega
              have k1 : (k : Int) < (N : Int) := by omega
              have q0 : (0 : Int) ≤ (q : Int) := by omega
              have q1 : (q : Int) < (N : Int) := by omega
              go_wp2_with fail
              refine HF.out.mono ?_
              rintro e w2 ⟨rfl, h2⟩
              have hc2 := hc; clear hc
              have hc : w2.cell? ⟨bb, off + k, none⟩ = some (.int .i64 (z k)) := by
                obtain ⟨bb', off', e, hbb', hc'⟩ := (HI.out.below h2.below) k hlt
                cases e; exact hc'
              have hfr := front_lg (z 0) h2 (by rw [zs_length]; omega)
              rw [← zs_cons, zs_succ] at hfr
              have HFR := Lib.hid hfr
              clear h2 hc2 hfr
              go_wp2_with fail
              refine HFR.out.mono ?_
              rintro e w3 ⟨rfl, h3⟩
              have HLA := Lib.hid (last_lg h3); clear h3 hc
              go_wp2_with fail
              refine HLA.out.mono ?_
              rintro e w4 ⟨rfl, h4⟩
              have hc : w4.cell? ⟨bb, off + q, none⟩ = some (.int .i64 (z q)) := by
                obtain ⟨bb', off', e, hbb', hc'⟩ := (HI.out.below h4.below) q hqN
                cases e; exact hc'
              have H4 := Lib.hid h4; clear h4
              go_wp2_with fail
              go_roundw
              case rel => exact ⟨k + 1, by omega, by go_num, by rw [← HQ.out]; exact H4.out⟩
              case measure => simp [intOf]; omega
            · have hkN : k = N := by omega
              have t : decide (k < N) = false := by simp; omega
              have tt : ¬ (k : Int) < (N : Int) := by omega
              have hL2 : Lg w w.heap.size [] N wr := by rw [hkN, Nat.sub_self] at hL; exact hL
              clear hkN hL
              have F0 := Lib.hid (first_none w.heap.size wr hL2.head)
              have L0 := Lib.hid (show Calls Try.prog 26 #[.pointer (some ⟨w.heap.size, 0, none⟩)] wr fun e w' => e = .returned (.int .i64 0) ∧ wr = w' from len_any w.heap.size 0 wr hL2.head)
              have HL2 := Lib.hid hL2; clear hL2
              go_wp2_with (first
                | (go_at_call 24; (with_reducible refine F0.out.mono ?_); rintro e wq ⟨rfl, rfl⟩)
                | (go_at_call 26; (with_reducible refine L0.out.mono ?_); rintro e wq ⟨rfl, rfl⟩)
                | (go_at_call 20; (with_reducible refine (lives5_any _).mono ?_); rintro e w9 ⟨rfl, h9⟩; have H9 := Lib.hid h9; clear h9))
              go_ret
              exact ⟨rfl, HL2.out.below.trans (H9.out.mono HL2.out.below.size)⟩
  · have t0 : (100 : Int) < len := by omega
    have t2 : (100 : Int) ≤ cap := by omega
    have t3 : 100 ≤ cap := by omega
    go_enter Try.func4, Try.ntmps4
    go_wp2_with fail
    refine (new_lg 100 100 (by decide) w w (Below.refl _ _)).mono ?_
    rintro e w1 ⟨rfl, hR1⟩
    have hN2 : 100 ≤ len := by omega
    have hN1 : 100 ≤ 100 := Nat.le_refl 100
    clear t0 t2 t3 h100
    generalize (100 : Nat) = N at hR1 hN2 ⊢
    replace hN1 : N ≤ 4096 := hR1.room_le
    have HI := Lib.hid (hI.less hN2); have HR := Lib.hid hR1; clear hI hR1
    go_wp2_with fail
    go_loopw [24, 7] (fun t _ wr => ∃ k : Nat, k ≤ N ∧ t = .int .i64 k ∧ Lg w w.heap.size (zs z k) N wr) (fun t _ _ => N - (intOf t).toNat)
    case atStart => exact ⟨0, Nat.zero_le _, rfl, HR.out⟩
    case round =>
      obtain ⟨k, hk, rfl, hL⟩ := hrel
      by_cases hlt : k < N
      · obtain ⟨bb, off, rfl, hbb, hc⟩ := (HI.out.below hL.below) k hlt
        have HB := Lib.hid (back_lg (z k) hL (by rw [zs_length]; exact hlt)); clear hL
        have k0 : (0 : Int) ≤ (k : Int) := by omega
        have k1 : (k : Int) < (N : Int) := by omega
        go_wp2_with fail
        refine HB.out.mono ?_
        rintro e w2 ⟨rfl, h2⟩
        have H2 := Lib.hid h2; clear h2 hc
        go_wp2_with fail
        go_roundw
        case rel => exact ⟨k + 1, by omega, by go_num, by rw [zs_succ]; exact H2.out⟩
        case measure => simp [intOf]; omega
      · have hkN : k = N := by omega
        have t : decide (k < N) = false := by simp; omega
        have tt : ¬ (k : Int) < (N : Int) := by omega
        have HL : Hid (Lg w w.heap.size (zs z N) N wr) := by rw [hkN] at hL; exact hL
        have hd := HL.out.head
        clear hkN hL
        have B1 := Lib.hid (back_lg_bad 0 HL.out (zs_length z N)); have B2 := Lib.hid (front_lg_bad 0 HL.out (zs_length z N)); have B3 := Lib.hid (put_lg_bad 0 0 HL.out (zs_length z N))
        clear hd
        go_wp2_with (first
          | (go_at_call 21; (with_reducible refine B1.out.mono ?_); rintro e wq ⟨rfl, rfl⟩)
          | (go_at_call 22; (with_reducible refine B2.out.mono ?_); rintro e wq ⟨rfl, rfl⟩)
          | (go_at_call 23; (with_reducible refine B3.out.mono ?_); rintro e wq ⟨rfl, rfl⟩))
        clear t tt hlt hk B1 B2 B3
        cases back
        · go_loopw [45, 8] (fun t _ wr => ∃ k : Nat, k ≤ N ∧ t = .int .i64 k ∧ Lg w w.heap.size (zs (fun i => z (i + k)) (N - k)) N wr) (fun t _ _ => N - (intOf t).toNat)
          case atStart => exact ⟨0, Nat.zero_le _, rfl, HL.out⟩
          case round =>
            obtain ⟨k, hk, rfl, hL⟩ := hrel
            by_cases hlt : k < N
            · obtain ⟨bb, off, rfl, hbb, hc⟩ := (HI.out.below hL.below) k hlt
              have hL' : Lg w w.heap.size (z k :: zs (fun i => z (i + (k + 1))) (N - (k + 1))) N wr := by
                rw [show N - k = N - (k + 1) + 1 by omega, zs_cons] at hL
                simpa [Nat.add_assoc, Nat.add_comm 1] using hL
              have HF := Lib.hid (first_lg hL'); clear hL hL'
              have k0 : (0 : Int) ≤ (k : Int) := by omega
              have k1 : (k : Int) < (N : Int) := by omega
              go_wp2_with fail
              refine HF.out.mono ?_
              rintro e w2 ⟨rfl, h2⟩
              have H2 := Lib.hid h2; 
              have hc2 := hc; clear hc
              have hc : w2.cell? ⟨bb, off + k, none⟩ = some (.int .i64 (z k)) := by
                obtain ⟨bb', off', e, hbb', hc'⟩ := (HI.out.below h2.below) k hlt
                cases e; exact hc'
              clear h2 hc2
              go_wp2_with fail
              go_roundw
              case rel => exact ⟨k + 1, by omega, by go_num, H2.out⟩
              case measure => simp [intOf]; omega
            · have hkN : k = N := by omega
              have t : decide (k < N) = false := by simp; omega
              have tt : ¬ (k : Int) < (N : Int) := by omega
              have hL2 : Lg w w.heap.size [] N wr := by rw [hkN, Nat.sub_self] at hL; exact hL
              clear hkN hL
              have F0 := Lib.hid (first_none w.heap.size wr hL2.head)
              have L0 := Lib.hid (show Calls Try.prog 26 #[.pointer (some ⟨w.heap.size, 0, none⟩)] wr fun e w' => e = .returned (.int .i64 0) ∧ wr = w' from len_any w.heap.size 0 wr hL2.head)
              have HL2 := Lib.hid hL2; clear hL2
              go_wp2_with (first
                | (go_at_call 24; (with_reducible refine F0.out.mono ?_); rintro e wq ⟨rfl, rfl⟩)
                | (go_at_call 26; (with_reducible refine L0.out.mono ?_); rintro e wq ⟨rfl, rfl⟩)
                | (go_at_call 20; (with_reducible refine (lives5_any _).mono ?_); rintro e w9 ⟨rfl, h9⟩; have H9 := Lib.hid h9; clear h9))
              go_ret
              exact ⟨rfl, HL2.out.below.trans (H9.out.mono HL2.out.below.size)⟩
        · go_loopw [45, 8] (fun t _ wr => ∃ k : Nat, k ≤ N ∧ t = .int .i64 k ∧ Lg w w.heap.size (zs z (N - k)) N wr) (fun t _ _ => N - (intOf t).toNat)
          case atStart => exact ⟨0, Nat.zero_le _, rfl, HL.out⟩
          case round =>
            obtain ⟨k, hk, rfl, hL⟩ := hrel
            by_cases hlt : k < N
            · obtain ⟨bb, off, rfl, hbb, hc⟩ := (HI.out.below hL.below) k hlt
              obtain ⟨q, hq⟩ : ∃ q : Nat, q = N - (k + 1) := ⟨_, rfl⟩
              have hqz : ((N : Int) - 1) - k = (q : Int) := by omega
              have hqz2 : IntKind.i64.wrap ((N : Int) - 1 - k) = (q : Int) := by rw [IntWalk.i64_in _ (by omega)]; omega
              have hqz3 : IntKind.i64.wrap ((N : Int) - 1) = (N : Int) - 1 := IntWalk.i64_in _ (by omega)
              have hqN : q < N := by omega
              rw [show N - k = q + 1 by omega] at hL
              have hL' : Lg w w.heap.size (z 0 :: zs (fun i => z (i + 1)) q) N wr := by
                rw [zs_cons] at hL; exact hL
              have HQ : Hid (q = N - (k + 1)) := hq
              have HF := Lib.hid (first_lg hL'); clear hL hL' hq
              have k0 : (0 : Int) ≤ (k : Int) := by omega
              have k1 : (k : Int) < (N : Int) := by omega
              have q0 : (0 : Int) ≤ (q : Int) := by omega
              have q1 : (q : Int) < (N : Int) := by omega
              go_wp2_with fail
              refine HF.out.mono ?_
              rintro e w2 ⟨rfl, h2⟩
              have hc2 := hc; clear hc
              have hc : w2.cell? ⟨bb, off + k, none⟩ = some (.int .i64 (z k)) := by
                obtain ⟨bb', off', e, hbb', hc'⟩ := (HI.out.below h2.below) k hlt
                cases e; exact hc'
              have hfr := front_lg (z 0) h2 (by rw [zs_length]; omega)
              rw [← zs_cons, zs_succ] at hfr
              have HFR := Lib.hid hfr
              clear h2 hc2 hfr
              go_wp2_with fail
              refine HFR.out.mono ?_
              rintro e w3 ⟨rfl, h3⟩
              have HLA := Lib.hid (last_lg h3); clear h3 hc
              go_wp2_with fail
              refine HLA.out.mono ?_
              rintro e w4 ⟨rfl, h4⟩
              have hc : w4.cell? ⟨bb, off + q, none⟩ = some (.int .i64 (z q)) := by
                obtain ⟨bb', off', e, hbb', hc'⟩ := (HI.out.below h4.below) q hqN
                cases e; exact hc'
              have H4 := Lib.hid h4; clear h4
              go_wp2_with fail
              go_roundw
              case rel => exact ⟨k + 1, by omega, by go_num, by rw [← HQ.out]; exact H4.out⟩
              case measure => simp [intOf]; omega
            · have hkN : k = N := by omega
              have t : decide (k < N) = false := by simp; omega
              have tt : ¬ (k : Int) < (N : Int) := by omega
              have hL2 : Lg w w.heap.size [] N wr := by rw [hkN, Nat.sub_self] at hL; exact hL
              clear hkN hL
              have F0 := Lib.hid (first_none w.heap.size wr hL2.head)
              have L0 := Lib.hid (show Calls Try.prog 26 #[.pointer (some ⟨w.heap.size, 0, none⟩)] wr fun e w' => e = .returned (.int .i64 0) ∧ wr = w' from len_any w.heap.size 0 wr hL2.head)
              have HL2 := Lib.hid hL2; clear hL2
              go_wp2_with (first
                | (go_at_call 24; (with_reducible refine F0.out.mono ?_); rintro e wq ⟨rfl, rfl⟩)
                | (go_at_call 26; (with_reducible refine L0.out.mono ?_); rintro e wq ⟨rfl, rfl⟩)
                | (go_at_call 20; (with_reducible refine (lives5_any _).mono ?_); rintro e w9 ⟨rfl, h9⟩; have H9 := Lib.hid h9; clear h9))
              go_ret
              exact ⟨rfl, HL2.out.below.trans (H9.out.mono HL2.out.below.size)⟩
end Go.Proofs.Ytlgdeadghmbfmaa
