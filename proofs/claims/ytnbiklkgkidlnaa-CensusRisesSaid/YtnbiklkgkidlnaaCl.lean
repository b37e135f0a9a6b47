/- layer 35 (census): rises. -/
import Derived.Test.YtnbiklkgkidlnaaCg
namespace Go.Proofs.Ytnbiklkgkidlnaa
open Go.RowKit Go.Shelf Go.Maps
set_option maxRecDepth 100000

theorem qL_mem {l : List Int} (p : Int) (h : 0 < l.length) : qL l p ∈ l := by
  rw [← qL_at p h]
  exact (sortL_perm l).mem_iff.1 (List.getElem_mem _)
theorem sumT_succ (c : List Nat) {k : Nat} (hk : k < c.length) : (c.take (k + 1)).sum = (c.take k).sum + c[k] := by
  rw [List.take_succ_eq_append_getElem hk, List.sum_append]; simp
theorem sumT_le (c : List Nat) (k : Nat) : (c.take k).sum ≤ c.sum := by
  have : c.sum = (c.take k).sum + (c.drop k).sum := by rw [← List.sum_append, List.take_append_drop]
  omega
set_option maxHeartbeats 16000000 in
theorem rises_any (A A2 : Option Addr) (l bs : List Int) (n cap m cap2 : Nat) (p q : Int) (hn : l.length = n) (hm : bs.length = m) (hn6 : n ≤ 1000) (hm2 : m ≤ 900) (w : World) (hR : RowN w.heap.size w A l) (hN : RowN w.heap.size w A2 bs) :
    Calls Try.prog 13 #[.slice A n cap, .slice A2 m cap2, .int .i64 p, .int .i64 q] w fun e w' => e = .returned (.bool true) ∧ Below w.heap.size w w' := by
  have HR := Lib.hid hR; have HL := Lib.hid hn; have HM := Lib.hid hm
  have HHI : Hid (Calls Try.prog 11 #[.slice A n cap, .slice A2 m cap2] w fun e w' => ∃ A3, e = .returned (.slice A3 (m + 1) (m + 1)) ∧ RowN w'.heap.size w' A3 ((histL bs l).map fun k : Nat => (k : Int)) ∧ Below w.heap.size w w') := by
    refine (hist_any A A2 l bs n cap m cap2 hn hm (by omega) (by omega) w hR hN).mono ?_
    rintro e w' ⟨v, rfl, h1, h2⟩
    obtain ⟨A3, rfl, hr⟩ := h1.row
    exact ⟨A3, by rw [histL_len, hm], hr, h2⟩
  have HS : Hid ((histL bs l).sum = n) := by show _ = _; rw [histL_sum, hn]
  have HHL : Hid ((histL bs l).length = m + 1) := by show _ = _; rw [histL_len, hm]
  have HQ : Hid (n ≠ 0 → ∀ (r : Int) W, Below w.heap.size w W → Calls Try.prog 9 #[.slice A n cap, .int .i64 r] W fun e w' => e = .returned (.tuple #[.int .i64 (qL l r), .bool true]) ∧ Below w.heap.size w w') := fun h0 r W hW => by
    refine (quant_any A l n cap hn (by omega) r W ((hR.below hW).mono hW.size)).mono ?_
    rintro e w' ⟨rfl, h2⟩
    exact ⟨by unfold tupQ; rw [if_neg (by omega)], hW.trans (h2.mono hW.size)⟩
  have HLE : Hid (∀ x ∈ l, qL l 0 ≤ x ∧ x ≤ qL l 100) := fun x hx => qL_least hx
  have HXY : Hid (n ≠ 0 → qL l (min p q) ≤ qL l (max p q) ∧ qL l 0 ≤ qL l (min p q) ∧ qL l (max p q) ≤ qL l 100) := fun h0 =>
    ⟨qL_mono (by omega) (by omega), (qL_least (qL_mem _ (by omega))).1, (qL_least (qL_mem _ (by omega))).2⟩
  clear hR hN hn hm
  go_enter Try.func13, Try.ntmps13
  go_wp2_with (go_at_call 11; (with_reducible refine HHI.out.mono ?_); rintro e w1 ⟨A3, rfl, hr1, hb1⟩; have HR1 := Lib.hid hr1; have HB1 := Lib.hid hb1; clear hr1 hb1)
  generalize histL bs l = hs at *
  go_loopw [9, 26] (fun sv iv wr => ∃ k : Nat, sv = .int .i64 ((hs.take k).sum : Nat) ∧ iv = .int .i64 k ∧ k ≤ m + 1 ∧ w1 = wr) (fun _ iv _ => m + 1 - (intOf iv).toNat)
  case atStart => exact ⟨0, by simp, rfl, Nat.zero_le _, rfl⟩
  case round =>
    obtain ⟨k, rfl, rfl, hk, rfl⟩ := hrel
    by_cases hlt : k < m + 1
    · have hkl : k < hs.length := by rw [HHL.out]; exact hlt
      obtain ⟨b, o, rfl, -, hc⟩ := HR1.out k (by rw [List.length_map]; exact hkl)
      rw [List.getElem_map] at hc
      have hst := sumT_succ hs hkl
      have hbd := sumT_le hs (k + 1)
      rw [HS.out] at hbd
      generalize hs[k] = y at *
      obtain ⟨a, ha⟩ : ∃ a, (hs.take k).sum = a := ⟨_, rfl⟩
      rw [ha] at hst ⊢
      have HST := Lib.hid hst
      have hay : a + y ≤ n := by omega
      clear hst hbd ha hkl
      have k0 : (0 : Int) ≤ (k : Int) := by omega
      have k1 : (k : Int) < (m : Int) + 1 := by omega
      have hwa : wrap64 ((a : Int) + (y : Int)) = (a : Int) + (y : Int) := by unfold wrap64; omega
      go_wp2_with fail
      go_roundw
      case rel => exact ⟨k + 1, by rw [HST.out]; go_num, by go_num, by omega, trivial⟩
      case measure => simp [intOf]; omega
    · obtain rfl : k = m + 1 := by omega
      have tk : ¬ (m : Int) + 1 < (m : Int) + 1 := by omega
      have HE : Hid ((hs.take (m + 1)).sum = n) := by show _ = _; rw [← HHL.out, List.take_length]; exact HS.out
      rw [HE.out]
      have tn : ((n : Int) != (n : Int)) = false := by simp
      by_cases h0 : n = 0
      · subst h0
        go_wp2_with fail
        go_ret
        exact ⟨rfl, HB1.out⟩
      · have n0 : ¬ (n : Int) = 0 := by simpa using h0
        have n0' : ((n : Int) == 0) = false := by simpa using h0
        obtain ⟨g1, g2, g3⟩ := HXY.out h0
        have HQQ := Lib.hid (HQ.out h0)
        have HLL := Lib.hid HLE.out
        generalize hx1 : qL l (min p q) = x1 at *
        generalize hx2 : qL l (max p q) = x2 at *
        generalize hx3 : qL l 0 = x3 at *
        generalize hx4 : qL l 100 = x4 at *
        have HQ1 : Hid (∀ W, Below w.heap.size w W → Calls Try.prog 9 #[.slice A n cap, .int .i64 (min p q)] W fun e w' => e = .returned (.tuple #[.int .i64 x1, .bool true]) ∧ Below w.heap.size w w') := fun W hW => by rw [← hx1]; exact HQQ.out _ W hW
        have HQ2 : Hid (∀ W, Below w.heap.size w W → Calls Try.prog 9 #[.slice A n cap, .int .i64 (max p q)] W fun e w' => e = .returned (.tuple #[.int .i64 x2, .bool true]) ∧ Below w.heap.size w w') := fun W hW => by rw [← hx2]; exact HQQ.out _ W hW
        have HQ3 : Hid (∀ W, Below w.heap.size w W → Calls Try.prog 9 #[.slice A n cap, .int .i64 0] W fun e w' => e = .returned (.tuple #[.int .i64 x3, .bool true]) ∧ Below w.heap.size w w') := fun W hW => by rw [← hx3]; exact HQQ.out _ W hW
        have HQ4 : Hid (∀ W, Below w.heap.size w W → Calls Try.prog 9 #[.slice A n cap, .int .i64 100] W fun e w' => e = .returned (.tuple #[.int .i64 x4, .bool true]) ∧ Below w.heap.size w w') := fun W hW => by rw [← hx4]; exact HQQ.out _ W hW
        clear hx1 hx2 hx3 hx4
        go_wp2_with (first
          | (go_at_call 9; (with_reducible refine (HQ1.out _ HB1.out).mono ?_); rintro e w2 ⟨rfl, hb2⟩; have HB2 := Lib.hid hb2; clear hb2)
          | (go_at_call 9; (with_reducible refine (HQ2.out _ HB2.out).mono ?_); rintro e w3 ⟨rfl, hb3⟩; have HB3 := Lib.hid hb3; clear hb3)
          | (go_at_call 9; (with_reducible refine (HQ3.out _ HB3.out).mono ?_); rintro e w4 ⟨rfl, hb4⟩; have HB4 := Lib.hid hb4; clear hb4)
          | (go_at_call 9; (with_reducible refine (HQ4.out _ HB4.out).mono ?_); rintro e w5 ⟨rfl, hb5⟩; have HB5 := Lib.hid hb5; clear hb5))
        go_loopw [75] (fun iv wr => ∃ k : Nat, iv = .int .i64 k ∧ k ≤ n ∧ w5 = wr) (fun iv _ => n - (intOf iv).toNat)
        case atStart => exact ⟨0, rfl, Nat.zero_le _, rfl⟩
        case round =>
          obtain ⟨k, rfl, hk, rfl⟩ := hrel
          by_cases hlt : k < n
          · obtain ⟨b, o, rfl, -, hc⟩ := (HR.out.below HB5.out) k (by rw [HL.out]; exact hlt)
            have hxx := HLL.out _ (List.getElem_mem (l := l) (n := k) (by rw [HL.out]; exact hlt))
            generalize l[k]'(by rw [HL.out]; exact hlt) = x at *
            have j0 : ¬ x < x3 := by omega
            have j1 : ¬ x4 < x := by omega
            have k0 : (0 : Int) ≤ (k : Int) := by omega
            have k1 : (k : Int) < (n : Int) := by omega
            clear hxx
            go_wp2_with fail
            go_roundw
            case rel => exact ⟨k + 1, by go_num, by omega, trivial⟩
            case measure => simp [intOf]; omega
          · obtain rfl : k = n := by omega
            have tk : ¬ (k : Int) < (k : Int) := by omega
            go_wp2_with fail
            go_ret
            exact ⟨rfl, HB5.out⟩
end Go.Proofs.Ytnbiklkgkidlnaa
