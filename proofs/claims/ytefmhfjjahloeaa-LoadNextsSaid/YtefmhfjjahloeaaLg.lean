/- The first of the greatest, and of the least: the code's Skew (layer 15). -/
import Derived.Test.YtefmhfjjahloeaaLb
import Derived.Test.YtefmhfjjahloeaaMo
import Derived.Deep.CutBlock
import Derived.Deep.DeepCutAuto
import Derived.Deep.RegionHeld3
namespace Go.Proofs.Ytefmhfjjahloeaa
open Go.RowKit

theorem atI_at (z : Nat → Int) (n k : Nat) (h : k < n) : atI z n (k : Int) = z k := by unfold atI; rw [if_neg (by omega)]; simp
theorem atI_no (z : Nat → Int) (n : Nat) (d : Int) (h : d < 0 ∨ (n : Int) ≤ d) : atI z n d = 0 := by unfold atI; rw [if_pos h]
set_option maxHeartbeats 1000000 in
theorem at_any (z : Nat → Int) (A : Option Addr) (n cap : Nat) (d : Int) (w : World) (h : IntsIn w A n z) : Calls Try.prog 22 #[.slice A n cap, .int .i64 d] w fun e w' => e = .returned (.int .i64 (atI z n d)) ∧ w = w' := by
  by_cases h0 : d < 0
  · rw [atI_no z n d (.inl h0)]
    clear h
    go_enter Try.func22, Try.ntmps22
    go_wp2_with fail
    go_ret
    exact ⟨rfl, rfl⟩
  · by_cases h1 : (n : Int) ≤ d
    · rw [atI_no z n d (.inr h1)]
      clear h
      go_enter Try.func22, Try.ntmps22
      go_wp2_with fail
      go_ret
      exact ⟨rfl, rfl⟩
    · obtain ⟨k, rfl⟩ : ∃ k : Nat, d = k := ⟨d.toNat, by omega⟩
      have hk : k < n := by omega
      obtain ⟨b, off, rfl, hb, hc⟩ := h k hk
      rw [atI_at z n k hk]
      have k0 : (0 : Int) ≤ (k : Int) := by omega
      have k1 : (k : Int) < (n : Int) := by omega
      have k2 : decide (n ≤ k) = false := by simpa using hk
      clear h
      go_enter Try.func22, Try.ntmps22
      go_wp2_with fail
      go_ret
      exact ⟨rfl, rfl⟩
/-- What Skew answers. -/
def SkewP (f : Nat → Int) (K : Nat → Int) (n : Nat) (w : World) (e : Ending) (w' : World) : Prop :=
  e = .returned (.tuple #[.int .i64 (skewR f K n).1, .int .i64 (skewR f K n).2.1, .bool (skewR f K n).2.2]) ∧ Below w.heap.size w w'
theorem skewP_0 {f K : Nat → Int} {n : Nat} {w w' : World} (h : n = 0 ∨ f (best f (n - 1)) = f (best (nf f) (n - 1))) (hb : Below w.heap.size w w') : SkewP f K n w (.returned (.tuple #[.int .i64 0, .int .i64 0, .bool false])) w' := by
  have e : skewR f K n = (0, 0, false) := by
    unfold skewR
    rcases h with h | h
    · rw [if_pos h]
    · by_cases h0 : n = 0
      · rw [if_pos h0]
      · rw [if_neg h0, if_pos h]
  unfold SkewP; rw [e]; exact ⟨rfl, hb⟩
theorem skewP_1 {f K : Nat → Int} {n : Nat} {w w' : World} (h0 : ¬ n = 0) (h : ¬ f (best f (n - 1)) = f (best (nf f) (n - 1))) (hb : Below w.heap.size w w') : SkewP f K n w (.returned (.tuple #[.int .i64 (K (best f (n - 1))), .int .i64 (K (best (nf f) (n - 1))), .bool true])) w' := by
  have e : skewR f K n = (K (best f (n - 1)), K (best (nf f) (n - 1)), true) := by
    unfold skewR
    rw [if_neg h0, if_neg h]
  unfold SkewP; rw [e]; exact ⟨rfl, hb⟩
set_option maxHeartbeats 4000000 in
theorem skew_any (z K f : Nat → Int) (A B : Option Addr) (n m cap cap2 : Nat) (w : World) (hf' : ∀ i, atI z n (K i) = f i) (hz : IntsIn w A n z) (hK : IntsIn w B m K) (hm : m ≤ 60) (hmc : m ≤ cap2) :
    Calls Try.prog 8 #[.slice A n cap, .slice B m cap2] w (SkewP f K m w) := by
  by_cases h0 : m = 0
  · subst h0
    have he := skewP_0 (f := f) (K := K) (w := w) (.inl rfl) (Below.refl _ _)
    have HE := Lib.hid he
    clear he hK hz hf'
    go_enter Try.func8, Try.ntmps8
    go_wp2_with fail
    exact bodyPost_ret (v := .tuple #[.int .i64 0, .int .i64 0, .bool false]) (by simp [results, Try.results8, go_sem]) rfl HE.out
  · obtain ⟨b, off, rfl, hb, hc⟩ := hK 0 (by omega)
    have hc' : w.cell? ⟨b, off, none⟩ = some (.int .i64 (K 0)) := hc
    have HK : Hid (∀ i, i < m → w.cell? ⟨b, off + i, none⟩ = some (.int .i64 (K i))) := fun i hi => by
      obtain ⟨b', off', e, -, c⟩ := hK i hi
      cases e; exact c
    have hat : ∀ i, Calls Try.prog 22 #[.slice A n cap, .int .i64 (K i)] w.drew fun e w' => e = .returned (.int .i64 (f i)) ∧ w.drew = w' := fun i => by
      rw [← hf' i]; exact at_any z A n cap (K i) w.drew (hz.below (Below.refl _ _).drew)
    have HAT := Lib.hid hat
    have t0 : (m == 0) = false := by simpa using h0
    have t1 : ((m : Int) == 0) = false := by simp; omega
    have t2 : (0 : Int) < (m : Int) := by omega
    have t3 : (1 : Int) ≤ (m : Int) := by omega
    have t4 : (m : Int) ≤ (cap2 : Int) := by omega
    obtain ⟨M, hM⟩ : ∃ M, m = M + 1 := ⟨m - 1, by omega⟩
    have s1 : ((m : Int) - 1).toNat = M := by omega
    have HM := Lib.hid hM
    have HF := Lib.hid hf'
    clear hM hat hf'
    clear hc hK hz
    go_enter Try.func8, Try.ntmps8
    go_upto_region 3 with fail
    go_region
    clear hc'
    go_upto_region 4 with fail
    go_cut [19, 20, 21] (fun t u v wx => ∃ q c : Nat, t = .slice (some ⟨b, q, none⟩) M c ∧ u = .int .i64 M ∧ v = .int .i64 0 ∧ (∀ i, i < M → w.cell? ⟨b, q + i, none⟩ = some (.int .i64 (K (i + 1)))) ∧ wx = w.drew)
    case first =>
      have key : ∀ i, i < M → w.cell? ⟨b, off + 1 + i, none⟩ = some (.int .i64 (K (i + 1))) := fun i hi => by
        have := HK.out (i + 1) (by have := HM.out; omega)
        rwa [show off + (i + 1) = off + 1 + i by omega] at this
      have KEY := Lib.hid key
      clear key
      by_cases h2 : cap2 = 1
      · subst h2
        go_wp2_with fail
        go_meet
        have := HM.out
        obtain rfl : M = 0 := by omega
        exact ⟨off, 0, rfl, rfl, rfl, fun i hi => by omega, rfl⟩
      · have t5 : (cap2 == 1) = false := by simpa using h2
        have t6 : (1 : Int) ≤ (cap2 : Int) := by omega
        go_wp2_with fail
        go_meet
        rw [show m - 1 = M by have := HM.out; omega]
        exact ⟨off + 1, cap2 - 1, rfl, rfl, rfl, KEY.out, rfl⟩
    case rest =>
      obtain ⟨q, c, rfl, rfl, rfl, hq, rfl⟩ := hcut
      have HQ := Lib.hid hq
      have hM1 : m - 1 = M := by have := HM.out; omega
      have HM1 := Lib.hid hM1
      have hM60 : M ≤ 60 := by omega
      clear hq t0 t1 t2 t3 t4 s1 hM1 HK HM
      go_wp2_with fail
      go_loop [4, 5, 21] (fun hi lo iv => ∃ k : Nat, iv = .int .i64 k ∧ k ≤ M ∧ hi = .int .i64 (K (best f k)) ∧ lo = .int .i64 (K (best (nf f) k))) (fun _ _ iv => M - (intOf iv).toNat)
      case atStart => exact ⟨0, rfl, Nat.zero_le _, rfl, rfl⟩
      case round =>
        obtain ⟨k, rfl, hk, rfl, rfl⟩ := hrel
        by_cases hlt : k < M
        · have cq := HQ.out k hlt
          have k0 : (0 : Int) ≤ (k : Int) := by omega
          have k1 : (k : Int) < (M : Int) := by omega
          have P1 := Lib.hid (HAT.out (k + 1))
          have P2 := Lib.hid (HAT.out (best f k))
          have P3 := Lib.hid (HAT.out (best (nf f) k))
          have n1 : Hid (best f (k + 1) = if f (best f k) < f (k + 1) then k + 1 else best f k) := Lib.hid rfl
          have n2 : Hid (best (nf f) (k + 1) = if - f (best (nf f) k) < - f (k + 1) then k + 1 else best (nf f) k) := Lib.hid rfl
          generalize best f k = bi at *
          generalize best (nf f) k = bj at *
          obtain ⟨kk, hkk⟩ : ∃ q, k + 1 = q := ⟨_, rfl⟩
          rw [hkk] at cq P1 n1 n2
          have hkM : kk ≤ M ∧ M - k = M - kk + 1 := by omega
          have HKK := Lib.hid hkk; have HKM := Lib.hid hkM
          clear hkk hkM
          by_cases c1 : f bi < f kk
          · have d1 : decide (f bi < f kk) = true := by simpa using c1
            have e1 : Hid (best f kk = kk) := by have := n1.out; rw [if_pos c1] at this; exact this
            clear n1
            by_cases c2 : f kk < f bj
            · have d2 : decide (f kk < f bj) = true := by simpa using c2
              have e2 : Hid (best (nf f) kk = kk) := by have := n2.out; rw [if_pos (by omega)] at this; exact this
              clear n2
              go_wp2_with (go_at_call 22; first | ((with_reducible refine P1.out.mono ?_); rintro e w' ⟨rfl, rfl⟩) | ((with_reducible refine P2.out.mono ?_); rintro e w' ⟨rfl, rfl⟩) | ((with_reducible refine P3.out.mono ?_); rintro e w' ⟨rfl, rfl⟩))
              go_round
              case rel => exact ⟨kk, by rw [← HKK.out]; go_num, HKM.out.1, by rw [e1.out], by rw [e2.out]⟩
              case measure =>
                have := HKM.out; have := HKK.out
                simp [intOf]; omega
            · have d2 : decide (f kk < f bj) = false := by simpa using c2
              have e2 : Hid (best (nf f) kk = bj) := by have := n2.out; rw [if_neg (by omega)] at this; exact this
              clear n2
              go_wp2_with (go_at_call 22; first | ((with_reducible refine P1.out.mono ?_); rintro e w' ⟨rfl, rfl⟩) | ((with_reducible refine P2.out.mono ?_); rintro e w' ⟨rfl, rfl⟩) | ((with_reducible refine P3.out.mono ?_); rintro e w' ⟨rfl, rfl⟩))
              go_round
              case rel => exact ⟨kk, by rw [← HKK.out]; go_num, HKM.out.1, by rw [e1.out], by rw [e2.out]⟩
              case measure =>
                have := HKM.out; have := HKK.out
                simp [intOf]; omega
          · have d1 : decide (f bi < f kk) = false := by simpa using c1
            have e1 : Hid (best f kk = bi) := by have := n1.out; rw [if_neg c1] at this; exact this
            clear n1
            by_cases c2 : f kk < f bj
            · have d2 : decide (f kk < f bj) = true := by simpa using c2
              have e2 : Hid (best (nf f) kk = kk) := by have := n2.out; rw [if_pos (by omega)] at this; exact this
              clear n2
              go_wp2_with (go_at_call 22; first | ((with_reducible refine P1.out.mono ?_); rintro e w' ⟨rfl, rfl⟩) | ((with_reducible refine P2.out.mono ?_); rintro e w' ⟨rfl, rfl⟩) | ((with_reducible refine P3.out.mono ?_); rintro e w' ⟨rfl, rfl⟩))
              go_round
              case rel => exact ⟨kk, by rw [← HKK.out]; go_num, HKM.out.1, by rw [e1.out], by rw [e2.out]⟩
              case measure =>
                have := HKM.out; have := HKK.out
                simp [intOf]; omega
            · have d2 : decide (f kk < f bj) = false := by simpa using c2
              have e2 : Hid (best (nf f) kk = bj) := by have := n2.out; rw [if_neg (by omega)] at this; exact this
              clear n2
              go_wp2_with (go_at_call 22; first | ((with_reducible refine P1.out.mono ?_); rintro e w' ⟨rfl, rfl⟩) | ((with_reducible refine P2.out.mono ?_); rintro e w' ⟨rfl, rfl⟩) | ((with_reducible refine P3.out.mono ?_); rintro e w' ⟨rfl, rfl⟩))
              go_round
              case rel => exact ⟨kk, by rw [← HKK.out]; go_num, HKM.out.1, by rw [e1.out], by rw [e2.out]⟩
              case measure =>
                have := HKM.out; have := HKK.out
                simp [intOf]; omega
        · obtain rfl : k = M := by omega
          have tk : ¬ (k : Int) < (k : Int) := by omega
          clear hlt hk HAT
          have hm1 := HM1.out
          by_cases hs : f (best f k) = f (best (nf f) k)
          · have hb : best f k = best (nf f) k := best_same f k hs
            have he := skewP_0 (f := f) (K := K) (n := m) (w := w) (w' := w.drew) (.inr (by rw [hm1]; exact hs)) (Below.refl _ _).drew
            have HE := Lib.hid he
            rw [hb]
            clear he hs hb hm1 HM1
            generalize K (best (nf f) k) = x at *
            have tx : (x == x) = true := by simp
            go_wp2_with fail
            exact bodyPost_ret (v := .tuple #[.int .i64 0, .int .i64 0, .bool false]) (by simp [results, Try.results8, go_sem]) rfl HE.out
          · have he := skewP_1 (f := f) (K := K) (n := m) (w := w) (w' := w.drew) h0 (by rw [hm1]; exact hs) (Below.refl _ _).drew
            rw [hm1] at he
            have HE := Lib.hid he
            have hx : ¬ K (best f k) = K (best (nf f) k) := fun e => hs (by rw [← HF.out, ← HF.out, e])
            clear he hs hm1 HM1
            generalize K (best f k) = x at *
            generalize K (best (nf f) k) = y at *
            have tx : (x == y) = false := by simpa using hx
            go_wp2_with fail
            exact bodyPost_ret (v := .tuple #[.int .i64 x, .int .i64 y, .bool true]) (by simp [results, Try.results8, go_sem]) rfl HE.out
end Go.Proofs.Ytefmhfjjahloeaa
