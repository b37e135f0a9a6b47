/- The first of the greatest, and of the least: the document's Skew (layer 15). -/
import Derived.Test.YtefmhfjjahloeaaLg
import Derived.Deep.QuietTactic
import Derived.BigQuiet
namespace Go.Proofs.Ytefmhfjjahloeaa
open Go.RowKit

theorem below_drewN (w : World) (q : Nat) : Below w.heap.size w (w.drewN q) := ⟨rfl, rfl, rfl, Nat.le_refl _, fun _ _ => rfl⟩
theorem flip15 {f : Nat} {args : Array Value} {w : World} {v : Value} (h : Calls Try.prog f args w fun e w' => e = .returned v ∧ w = w') : Calls Try.prog f args w fun e w' => e = .returned v ∧ w' = w := h.mono fun _ _ ⟨a, b⟩ => ⟨a, b.symm⟩
set_option maxHeartbeats 1000000 in
theorem rat_any (z : Nat → Int) (A : Option Addr) (n cap : Nat) (d : Int) (w : World) (h : IntsIn w A n z) : Calls Try.prog 21 #[.slice A n cap, .int .i64 d] w fun e w' => e = .returned (.int .i64 (atI z n d)) ∧ w = w' := by
  by_cases h0 : d < 0
  · rw [atI_no z n d (.inl h0)]
    clear h
    go_enter Try.func21, Try.ntmps21
    go_wp2_with fail
    go_ret
    exact ⟨rfl, rfl⟩
  · by_cases h1 : (n : Int) ≤ d
    · rw [atI_no z n d (.inr h1)]
      clear h
      go_enter Try.func21, Try.ntmps21
      go_wp2_with fail
      go_ret
      exact ⟨rfl, rfl⟩
    · obtain ⟨k, rfl⟩ : ∃ k : Nat, d = k := ⟨d.toNat, by omega⟩
      have hk : k < n := by omega
      obtain ⟨b, off, rfl, hb, hc⟩ := h k hk
      rw [atI_at z n k hk]
      have k0 : (0 : Int) ≤ (k : Int) := by omega
      have k1 : (k : Int) < (n : Int) := by omega
      have k2 : decide (n ≤ k) = false := by simpa using hk
      clear h
      go_enter Try.func21, Try.ntmps21
      go_wp2_with fail
      go_ret
      exact ⟨rfl, rfl⟩
/-- One round's answer: it stays, or is struck. -/
theorem mostB_stay {f : Nat → Int} {i k : Nat} (h1 : ¬ f i < f k) (h2 : ¬ (f k = f i ∧ k < i)) : mostB f i (k + 1) = mostB f i k := by
  show (mostB f i k && !(decide (f i < f k) || decide (f k = f i) && decide (k < i))) = mostB f i k
  have : (decide (f i < f k) || decide (f k = f i) && decide (k < i)) = false := by
    simp only [Bool.or_eq_false_iff, decide_eq_false_iff_not, Bool.and_eq_false_imp, decide_eq_true_eq]
    exact ⟨h1, fun a b => h2 ⟨a, b⟩⟩
  rw [this]; simp
theorem mostB_off {f : Nat → Int} {i k : Nat} (h : f i < f k ∨ (f k = f i ∧ k < i)) : mostB f i (k + 1) = false := by
  show (mostB f i k && !(decide (f i < f k) || decide (f k = f i) && decide (k < i))) = false
  have : (decide (f i < f k) || decide (f k = f i) && decide (k < i)) = true := by
    simp only [Bool.or_eq_true, decide_eq_true_eq, Bool.and_eq_true]
    exact h
  rw [this]; simp
set_option maxRecDepth 100000 in
set_option maxHeartbeats 8000000 in
theorem rskew_any (z K f : Nat → Int) (A B : Option Addr) (n m cap cap2 : Nat) (w : World) (hf' : ∀ i, atI z n (K i) = f i) (hz : IntsIn w A n z) (hK : IntsIn w B m K) (hm : m ≤ 60) :
    Calls Try.prog 9 #[.slice A n cap, .slice B m cap2] w (SkewP f K m w) := by
  have HK := Lib.hid hK
  have hat : ∀ i W, Below w.heap.size w W → Calls Try.prog 21 #[.slice A n cap, .int .i64 (K i)] W fun e w' => e = .returned (.int .i64 (f i)) ∧ W = w' := fun i W hW => by
    rw [← hf' i]; exact rat_any z A n cap (K i) W (hz.below hW)
  have HAT := Lib.hid hat
  have HF := Lib.hid hf'
  clear hK hz hf' hat
  go_enter Try.func9, Try.ntmps9
  go_wp2_with fail
  go_loop [7, 8, 17] (fun hi lo iv => ∃ k : Nat, iv = .int .i64 k ∧ k ≤ m ∧ hi = .int .i64 (lastI (fun i => mostB f i m) k) ∧ lo = .int .i64 (lastI (fun i => mostB (nf f) i m) k)) (fun _ _ iv => m - (intOf iv).toNat)
  case atStart => exact ⟨0, rfl, Nat.zero_le _, rfl, rfl⟩
  case round =>
    obtain ⟨k, rfl, hk, rfl, rfl⟩ := hrel
    by_cases hlt : k < m
    · obtain ⟨b, off, rfl, hb, hc⟩ := HK.out k hlt
      have k0 : (0 : Int) ≤ (k : Int) := by omega
      have k1 : (k : Int) < (m : Int) := by omega
      have n1 : Hid (lastI (fun i => mostB f i m) (k + 1) = if mostB f k m = true then (k : Int) else lastI (fun i => mostB f i m) k) := Lib.hid rfl
      have n2 : Hid (lastI (fun i => mostB (nf f) i m) (k + 1) = if mostB (nf f) k m = true then (k : Int) else lastI (fun i => mostB (nf f) i m) k) := Lib.hid rfl
      generalize lastI (fun i => mostB f i m) k = hi at *
      generalize lastI (fun i => mostB (nf f) i m) k = lo at *
      go_upto_block 2 with fail
      go_cut [11, 12] (fun p q wx => p = .bool (mostB f k m) ∧ q = .bool (mostB (nf f) k m) ∧ w = wx)
      case first =>
        clear n1 n2
        go_wp2_with fail
        go_loop [11, 12, 24] (fun p q iv => ∃ j : Nat, iv = .int .i64 j ∧ j ≤ m ∧ p = .bool (mostB f k j) ∧ q = .bool (mostB (nf f) k j)) (fun _ _ iv => m - (intOf iv).toNat)
        case atStart => exact ⟨0, rfl, Nat.zero_le _, rfl, rfl⟩
        case round =>
          obtain ⟨j, rfl, hj, rfl, rfl⟩ := hrel
          by_cases hjt : j < m
          · obtain ⟨b', off', he, hb', hc'⟩ := HK.out j hjt
            cases he
            have j0 : (0 : Int) ≤ (j : Int) := by omega
            have j1 : (j : Int) < (m : Int) := by omega
            have PJ := Lib.hid (HAT.out j w (Below.refl _ _))
            have PI := Lib.hid (HAT.out k w (Below.refl _ _))
            by_cases c1 : f k < f j
            · have d1 : decide (f k < f j) = true := by simpa using c1
              have d2 : decide (f j < f k) = false := by simp; omega
              have d3 : (f j == f k) = false := by simp; omega
              have e1 : Hid (mostB f k (j + 1) = false) := Lib.hid (mostB_off (.inl c1))
              have e2 : Hid (mostB (nf f) k (j + 1) = mostB (nf f) k j) := Lib.hid (mostB_stay (show ¬ - f k < - f j by omega) (fun q => by have : - f j = - f k := q.1; omega))
              go_wp2_with (go_at_call 21; first | ((with_reducible refine PJ.out.mono ?_); rintro e w' ⟨rfl, rfl⟩) | ((with_reducible refine PI.out.mono ?_); rintro e w' ⟨rfl, rfl⟩))
              go_round
              case rel => exact ⟨j + 1, by go_num, by omega, by rw [e1.out], by rw [e2.out]⟩
              case measure => simp [intOf]; omega
            · by_cases c2 : f j < f k
              · have d1 : decide (f k < f j) = false := by simpa using c1
                have d2 : decide (f j < f k) = true := by simpa using c2
                have d3 : (f j == f k) = false := by simp; omega
                have e1 : Hid (mostB f k (j + 1) = mostB f k j) := Lib.hid (mostB_stay (by omega) (fun q => by omega))
                have e2 : Hid (mostB (nf f) k (j + 1) = false) := Lib.hid (mostB_off (.inl (show - f k < - f j by omega)))
                go_wp2_with (go_at_call 21; first | ((with_reducible refine PJ.out.mono ?_); rintro e w' ⟨rfl, rfl⟩) | ((with_reducible refine PI.out.mono ?_); rintro e w' ⟨rfl, rfl⟩))
                go_round
                case rel => exact ⟨j + 1, by go_num, by omega, by rw [e1.out], by rw [e2.out]⟩
                case measure => simp [intOf]; omega
              · have d1 : decide (f k < f j) = false := by simpa using c1
                have d2 : decide (f j < f k) = false := by simpa using c2
                have d3 : (f j == f k) = true := by simp; omega
                by_cases c3 : j < k
                · have e1 : Hid (mostB f k (j + 1) = false) := Lib.hid (mostB_off (.inr ⟨by omega, c3⟩))
                  have e2 : Hid (mostB (nf f) k (j + 1) = false) := Lib.hid (mostB_off (.inr ⟨show - f j = - f k by omega, c3⟩))
                  have d4 : decide (j < k) = true := by simpa using c3
                  go_wp2_with (go_at_call 21; first | ((with_reducible refine PJ.out.mono ?_); rintro e w' ⟨rfl, rfl⟩) | ((with_reducible refine PI.out.mono ?_); rintro e w' ⟨rfl, rfl⟩))
                  go_round
                  case rel => exact ⟨j + 1, by go_num, by omega, by rw [e1.out], by rw [e2.out]⟩
                  case measure => simp [intOf]; omega
                · have e1 : Hid (mostB f k (j + 1) = mostB f k j) := Lib.hid (mostB_stay (by omega) (fun q => by omega))
                  have e2 : Hid (mostB (nf f) k (j + 1) = mostB (nf f) k j) := Lib.hid (mostB_stay (show ¬ - f k < - f j by omega) (fun q => by omega))
                  have d4 : decide (j < k) = false := by simpa using c3
                  go_wp2_with (go_at_call 21; first | ((with_reducible refine PJ.out.mono ?_); rintro e w' ⟨rfl, rfl⟩) | ((with_reducible refine PI.out.mono ?_); rintro e w' ⟨rfl, rfl⟩))
                  go_round
                  case rel => exact ⟨j + 1, by go_num, by omega, by rw [e1.out], by rw [e2.out]⟩
                  case measure => simp [intOf]; omega
          · obtain rfl : j = m := by omega
            have tj : ¬ (j : Int) < (j : Int) := by omega
            go_wp2_with fail
            go_meet
            exact ⟨rfl, rfl, rfl⟩
      case rest =>
        obtain ⟨rfl, rfl, rfl⟩ := hcut
        cases hp : mostB f k m with
        | true =>
          have e1 : Hid (lastI (fun i => mostB f i m) (k + 1) = (k : Int)) := by have := n1.out; rw [if_pos hp] at this; exact this
          cases hq : mostB (nf f) k m with
          | true =>
            have e2 : Hid (lastI (fun i => mostB (nf f) i m) (k + 1) = (k : Int)) := by have := n2.out; rw [if_pos hq] at this; exact this
            clear n1 n2 hp hq
            go_wp2_with fail
            go_round
            case rel => exact ⟨k + 1, by go_num, by omega, by rw [e1.out], by rw [e2.out]⟩
            case measure => simp [intOf]; omega
          | false =>
            have e2 : Hid (lastI (fun i => mostB (nf f) i m) (k + 1) = lo) := by have := n2.out; rw [if_neg (by rw [hq]; simp)] at this; exact this
            clear n1 n2 hp hq
            go_wp2_with fail
            go_round
            case rel => exact ⟨k + 1, by go_num, by omega, by rw [e1.out], by rw [e2.out]⟩
            case measure => simp [intOf]; omega
        | false =>
          have e1 : Hid (lastI (fun i => mostB f i m) (k + 1) = hi) := by have := n1.out; rw [if_neg (by rw [hp]; simp)] at this; exact this
          cases hq : mostB (nf f) k m with
          | true =>
            have e2 : Hid (lastI (fun i => mostB (nf f) i m) (k + 1) = (k : Int)) := by have := n2.out; rw [if_pos hq] at this; exact this
            clear n1 n2 hp hq
            go_wp2_with fail
            go_round
            case rel => exact ⟨k + 1, by go_num, by omega, by rw [e1.out], by rw [e2.out]⟩
            case measure => simp [intOf]; omega
          | false =>
            have e2 : Hid (lastI (fun i => mostB (nf f) i m) (k + 1) = lo) := by have := n2.out; rw [if_neg (by rw [hq]; simp)] at this; exact this
            clear n1 n2 hp hq
            go_wp2_with fail
            go_round
            case rel => exact ⟨k + 1, by go_num, by omega, by rw [e1.out], by rw [e2.out]⟩
            case measure => simp [intOf]; omega
    · obtain rfl : k = m := by omega
      have tk : ¬ (k : Int) < (k : Int) := by omega
      clear hlt hk
      by_cases h0 : k = 0
      · subst h0
        have he : ∀ q, SkewP f K 0 w (.returned (.tuple #[.int .i64 0, .int .i64 0, .bool false])) (w.drewN q) := fun q => skewP_0 (.inl rfl) (below_drewN w q)
        have HE := Lib.hid he
        clear he
        have z1 : lastI (fun i => mostB f i 0) 0 = -1 := rfl
        have z2 : lastI (fun i => mostB (nf f) i 0) 0 = -1 := rfl
        rw [z1, z2]
        clear z1 z2
        go_upto_region 19 with fail
        go_quiet (fail)
        go_wp2_with fail
        exact bodyPost_ret (v := .tuple #[.int .i64 0, .int .i64 0, .bool false]) (by simp [results, Try.results9, go_sem]) rfl (HE.out _)
      · have z1 := lastI_most f k (by omega)
        have z2 := lastI_most (nf f) k (by omega)
        have b1 := (best_all f (k - 1)).1
        have b2 := (best_all (nf f) (k - 1)).1
        rw [z1, z2]
        clear z1 z2
        have hsame : ∀ W, Below w.heap.size w W → f (best f (k - 1)) = f (best (nf f) (k - 1)) → SkewP f K k w (.returned (.tuple #[.int .i64 0, .int .i64 0, .bool false])) W := fun W hW h => skewP_0 (.inr h) hW
        have hdiff : ∀ W, Below w.heap.size w W → ¬ f (best f (k - 1)) = f (best (nf f) (k - 1)) → SkewP f K k w (.returned (.tuple #[.int .i64 (K (best f (k - 1))), .int .i64 (K (best (nf f) (k - 1))), .bool true])) W := fun W hW h => skewP_1 h0 h hW
        have HS := Lib.hid hsame; have HD := Lib.hid hdiff
        clear hsame hdiff
        generalize best f (k - 1) = x at *
        generalize best (nf f) (k - 1) = y at *
        obtain ⟨b, off, rfl, hb, hcx⟩ := HK.out x (by omega)
        obtain ⟨b', off', he, hb', hcy⟩ := HK.out y (by omega)
        cases he
        have x0 : (0 : Int) ≤ (x : Int) := by omega
        have x1 : (x : Int) < (k : Int) := by omega
        have y0 : (0 : Int) ≤ (y : Int) := by omega
        have y1 : (y : Int) < (k : Int) := by omega
        have PX := Lib.hid (HAT.out x); have PY := Lib.hid (HAT.out y)
        go_upto_region 19 with fail
        have qx : ∀ q, Calls Try.prog 21 #[.slice A n cap, .int .i64 (K x)] (w.drewN q) fun e w' => e = .returned (.int .i64 (f x)) ∧ w' = w.drewN q := fun q => (PX.out _ (below_drewN w q)).mono fun _ _ h => ⟨h.1, h.2.symm⟩
        have qy : ∀ q, Calls Try.prog 21 #[.slice A n cap, .int .i64 (K y)] (w.drewN q) fun e w' => e = .returned (.int .i64 (f y)) ∧ w' = w.drewN q := fun q => (PY.out _ (below_drewN w q)).mono fun _ _ h => ⟨h.1, h.2.symm⟩
        have QX := Lib.hid qx; have QY := Lib.hid qy
        have cX := Lib.hid hcx; have cY := Lib.hid hcy
        clear qx qy PX PY HAT
        by_cases hs : f x = f y
        · have t1 : (f x == f y) = true := by simpa using hs
          have HEQ := Lib.hid hs
          clear hs
          go_quiet (first
            | (go_at_call 21; first | with_reducible exact Calls.quiet_of_same (QX.out _) | with_reducible exact Calls.quiet_of_same (QY.out _)))
          go_wp2_with fail
          exact bodyPost_ret (v := .tuple #[.int .i64 0, .int .i64 0, .bool false]) (by simp [results, Try.results9, go_sem]) rfl (HS.out _ (below_drewN w _) HEQ.out)
        · have t1 : (f x == f y) = false := by simpa using hs
          have HNE := Lib.hid hs
          clear hs
          go_quiet (first
            | (go_at_call 21; first | with_reducible exact Calls.quiet_of_same (QX.out _) | with_reducible exact Calls.quiet_of_same (QY.out _)))
          go_wp2_with fail
          have c1 : (w.drewN nq).cell? ⟨b, off + x, none⟩ = some (.int .i64 (K x)) := cX.out
          have c2 : (w.drewN nq).cell? ⟨b, off + y, none⟩ = some (.int .i64 (K y)) := cY.out
          have hbel := Lib.hid (below_drewN w nq)
          generalize w.drewN nq = w2 at *
          go_region
          go_wp2_with fail
          exact bodyPost_ret (v := .tuple #[.int .i64 (K x), .int .i64 (K y), .bool true]) (by simp [results, Try.results9, go_sem]) rfl (HD.out _ hbel.out.drew HNE.out)
end Go.Proofs.Ytefmhfjjahloeaa
