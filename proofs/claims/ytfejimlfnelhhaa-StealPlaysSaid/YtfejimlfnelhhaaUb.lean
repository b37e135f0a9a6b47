/- The document's shared row: Step by anybody, Begin, New. -/
import Derived.Test.YtfejimlfnelhhaaTz
import Derived.RegionCalls
import Derived.LaidMore
namespace Go.Proofs.Ytfejimlfnelhhaa
open Go.RowKit

section
variable {rb gs gp : Nat} {D : Dq} {w : World}
theorem refst_any {n : Nat} (k : Int) (h : RfD rb gs gp D w) (hN : Nice D n) (hn : n ≤ 900000) :
    Calls Try.prog 39 #[.pointer (some ⟨rb, 0, none⟩), .int .i64 k] w fun e w' => e = .returned (.tuple #[.int .i64 (stH D k), .int .i64 (stX D k), .int .i64 (stE D k)]) ∧ RfD rb gs gp (stR D k) w' ∧ But (OwnR rb gs gp) w w' := by
  unfold stH stX stE stR
  cases hi : inS k (D.th + 1) with
  | false =>
    simp only [Bool.false_eq_true, if_false]
    exact (refstep_out k h hi).mono fun e w' ⟨he, hb⟩ => ⟨he, by rw [← hb]; exact h, by rw [← hb]; exact But.refl _ _⟩
  | true =>
    obtain ⟨j, rfl⟩ : ∃ j : Nat, k = j := ⟨k.toNat, by simp [inS] at hi; omega⟩
    have hj : j ≤ D.th := by simp [inS] at hi; omega
    simp only [if_true, Int.toNat_natCast]
    by_cases hq : (D.cl j).nx = 0
    · simp only [hq, if_true]
      exact (refstep_idle j h hj hq).mono fun e w' ⟨he, hb⟩ => ⟨he, h.but hb fun _ _ q => q, hb.nob⟩
    · simp only [hq, if_false]
      exact refstep_any j h hN hn hj hq
set_option maxRecDepth 100000 in
set_option maxHeartbeats 4000000 in
theorem refbegin_1 (x : Int) (h : RfD rb gs gp D w) (hq : (D.cl 0).nx = 0) :
    Calls Try.prog 36 #[.pointer (some ⟨rb, 0, none⟩), .int .i64 0, .int .i64 1, .int .i64 x] w fun e w' => e = .returned (.int .i64 0) ∧ RfD rb gs gp (beginD D 0 1 x) w' ∧ But (OwnR rb gs gp) w w' := by
  obtain ⟨P, hv, hrel⟩ := h.v
  obtain ⟨o0, o1, o2, o3, o4⟩ := hv.cells
  obtain ⟨c0, c1, c2, c3, c4, c5⟩ := hv.party (k := 0) (Nat.zero_le _)
  simp only [Nat.zero_mul, Nat.zero_add] at c0 c1 c2 c3 c4 c5
  have hcode := (hrel 0 (by omega)).code
  have pf := hv.pfree
  have hth := hv.th8
  have k1 : (0 : Int) < (D.th : Int) + 1 := by omega
  have k2 : ¬ (D.th : Int) + 1 ≤ 0 := by omega
  have k3 : decide ((D.th : Int) + 1 ≤ 0) = false := decide_eq_false (by omega)
  rw [hq] at hcode
  have e0 : (P 0).ca = 0 := congrArg Prod.fst hcode
  rw [e0] at c0
  have c0 : w.cell? ⟨gp, 0, none⟩ = some (.int .i64 0) := c0
  have HV := Lib.hid hv; have HR := Lib.hid hrel
  clear hv hrel h hq hcode e0
  go_enter Try.func36, Try.ntmps36
  go_wp2_with fail
  go_ret
  refine ⟨rfl, ⟨updP P 0 ⟨1, 1, 0, 0, x, false⟩, ?_, fun j hj => ?_⟩, ?_⟩
  · exact HV.out.sparty (k := 0) (by omega) ⟨1, 1, 0, 0, x, false⟩
  · show PartyOf (updC D.cl 0 _ j) _
    by_cases q : j = 0
    · rw [q, updC_same, updP_same]; exact ⟨rfl, rfl, rfl, fun _ _ => rfl, fun _ => rfl⟩
    · rw [updC_other _ _ q, updP_other _ _ q]; exact HR.out j hj
  · exact ((((((But.refl (OwnR rb gs gp) w).set ⟨gp, 0, none⟩ _ (.inl (.inr (.inr rfl)))).set ⟨gp, 1, none⟩ _ (.inl (.inr (.inr rfl)))).set ⟨gp, 2, none⟩ _ (.inl (.inr (.inr rfl)))).set ⟨gp, 3, none⟩ _ (.inl (.inr (.inr rfl)))).set ⟨gp, 4, none⟩ _ (.inl (.inr (.inr rfl)))).set ⟨gp, 5, none⟩ _ (.inl (.inr (.inr rfl)))
set_option maxRecDepth 100000 in
set_option maxHeartbeats 4000000 in
theorem refbegin_1b (x : Int) (h : RfD rb gs gp D w) (hq : (D.cl 0).nx ≠ 0) :
    Calls Try.prog 36 #[.pointer (some ⟨rb, 0, none⟩), .int .i64 0, .int .i64 1, .int .i64 x] w fun e w' => e = .returned (.int .i64 5) ∧ w = w' := by
  obtain ⟨P, hv, hrel⟩ := h.v
  obtain ⟨o0, o1, o2, o3, o4⟩ := hv.cells
  obtain ⟨c0, c1, c2, c3, c4, c5⟩ := hv.party (k := 0) (Nat.zero_le _)
  simp only [Nat.zero_mul, Nat.zero_add] at c0 c1 c2 c3 c4 c5
  have hcode := (hrel 0 (by omega)).code
  have pf := hv.pfree
  have hth := hv.th8
  have k1 : (0 : Int) < (D.th : Int) + 1 := by omega
  have k2 : ¬ (D.th : Int) + 1 ≤ 0 := by omega
  have k3 : decide ((D.th : Int) + 1 ≤ 0) = false := decide_eq_false (by omega)
  have e0 : (((P 0).ca : Nat) : Int) ≠ 0 := fun q => hq (by
    have e1 : (P 0).ca = (codeP (D.cl 0).nx).1 := congrArg Prod.fst hcode
    unfold codeP at e1
    split at e1
    · assumption
    · split at e1
      · dsimp only at e1; omega
      · split at e1 <;> (dsimp only at e1; omega))
  have e1 : ((((P 0).ca : Nat) : Int) != 0) = true := by simpa using e0
  obtain ⟨ca, hca⟩ : ∃ ca : Int, ca = (((P 0).ca : Nat) : Int) := ⟨_, rfl⟩
  rw [← hca] at c0 e1
  clear hv hrel h hq hcode e0 hca
  go_enter Try.func36, Try.ntmps36
  go_wp2_with fail
  go_ret
  exact ⟨rfl, rfl⟩
set_option maxRecDepth 100000 in
set_option maxHeartbeats 4000000 in
theorem refbegin_2 (x : Int) (h : RfD rb gs gp D w) (hq : (D.cl 0).nx = 0) :
    Calls Try.prog 36 #[.pointer (some ⟨rb, 0, none⟩), .int .i64 0, .int .i64 2, .int .i64 x] w fun e w' => e = .returned (.int .i64 0) ∧ RfD rb gs gp (beginD D 0 5 x) w' ∧ But (OwnR rb gs gp) w w' := by
  obtain ⟨P, hv, hrel⟩ := h.v
  obtain ⟨o0, o1, o2, o3, o4⟩ := hv.cells
  obtain ⟨c0, c1, c2, c3, c4, c5⟩ := hv.party (k := 0) (Nat.zero_le _)
  simp only [Nat.zero_mul, Nat.zero_add] at c0 c1 c2 c3 c4 c5
  have hcode := (hrel 0 (by omega)).code
  have pf := hv.pfree
  have hth := hv.th8
  have k1 : (0 : Int) < (D.th : Int) + 1 := by omega
  have k2 : ¬ (D.th : Int) + 1 ≤ 0 := by omega
  have k3 : decide ((D.th : Int) + 1 ≤ 0) = false := decide_eq_false (by omega)
  rw [hq] at hcode
  have e0 : (P 0).ca = 0 := congrArg Prod.fst hcode
  rw [e0] at c0
  have c0 : w.cell? ⟨gp, 0, none⟩ = some (.int .i64 0) := c0
  have HV := Lib.hid hv; have HR := Lib.hid hrel
  clear hv hrel h hq hcode e0
  go_enter Try.func36, Try.ntmps36
  go_wp2_with fail
  go_ret
  refine ⟨rfl, ⟨updP P 0 ⟨2, 1, 0, 0, x, false⟩, ?_, fun j hj => ?_⟩, ?_⟩
  · exact HV.out.sparty (k := 0) (by omega) ⟨2, 1, 0, 0, x, false⟩
  · show PartyOf (updC D.cl 0 _ j) _
    by_cases q : j = 0
    · rw [q, updC_same, updP_same]; exact ⟨rfl, rfl, rfl, fun _ _ => rfl, fun _ => rfl⟩
    · rw [updC_other _ _ q, updP_other _ _ q]; exact HR.out j hj
  · exact ((((((But.refl (OwnR rb gs gp) w).set ⟨gp, 0, none⟩ _ (.inl (.inr (.inr rfl)))).set ⟨gp, 1, none⟩ _ (.inl (.inr (.inr rfl)))).set ⟨gp, 2, none⟩ _ (.inl (.inr (.inr rfl)))).set ⟨gp, 3, none⟩ _ (.inl (.inr (.inr rfl)))).set ⟨gp, 4, none⟩ _ (.inl (.inr (.inr rfl)))).set ⟨gp, 5, none⟩ _ (.inl (.inr (.inr rfl)))
set_option maxRecDepth 100000 in
set_option maxHeartbeats 4000000 in
theorem refbegin_2b (x : Int) (h : RfD rb gs gp D w) (hq : (D.cl 0).nx ≠ 0) :
    Calls Try.prog 36 #[.pointer (some ⟨rb, 0, none⟩), .int .i64 0, .int .i64 2, .int .i64 x] w fun e w' => e = .returned (.int .i64 5) ∧ w = w' := by
  obtain ⟨P, hv, hrel⟩ := h.v
  obtain ⟨o0, o1, o2, o3, o4⟩ := hv.cells
  obtain ⟨c0, c1, c2, c3, c4, c5⟩ := hv.party (k := 0) (Nat.zero_le _)
  simp only [Nat.zero_mul, Nat.zero_add] at c0 c1 c2 c3 c4 c5
  have hcode := (hrel 0 (by omega)).code
  have pf := hv.pfree
  have hth := hv.th8
  have k1 : (0 : Int) < (D.th : Int) + 1 := by omega
  have k2 : ¬ (D.th : Int) + 1 ≤ 0 := by omega
  have k3 : decide ((D.th : Int) + 1 ≤ 0) = false := decide_eq_false (by omega)
  have e0 : (((P 0).ca : Nat) : Int) ≠ 0 := fun q => hq (by
    have e1 : (P 0).ca = (codeP (D.cl 0).nx).1 := congrArg Prod.fst hcode
    unfold codeP at e1
    split at e1
    · assumption
    · split at e1
      · dsimp only at e1; omega
      · split at e1 <;> (dsimp only at e1; omega))
  have e1 : ((((P 0).ca : Nat) : Int) != 0) = true := by simpa using e0
  obtain ⟨ca, hca⟩ : ∃ ca : Int, ca = (((P 0).ca : Nat) : Int) := ⟨_, rfl⟩
  rw [← hca] at c0 e1
  clear hv hrel h hq hcode e0 hca
  go_enter Try.func36, Try.ntmps36
  go_wp2_with fail
  go_ret
  exact ⟨rfl, rfl⟩
set_option maxRecDepth 100000 in
set_option maxHeartbeats 4000000 in
theorem refbegin_3 (k : Nat) (x : Int) (h : RfD rb gs gp D w) (hk : k ≤ D.th) (hk1 : 1 ≤ k) (hq : (D.cl k).nx = 0) :
    Calls Try.prog 36 #[.pointer (some ⟨rb, 0, none⟩), .int .i64 k, .int .i64 3, .int .i64 x] w fun e w' => e = .returned (.int .i64 0) ∧ RfD rb gs gp (beginD D k 10 x) w' ∧ But (OwnR rb gs gp) w w' := by
  obtain ⟨P, hv, hrel⟩ := h.v
  obtain ⟨o0, o1, o2, o3, o4⟩ := hv.cells
  obtain ⟨c0, c1, c2, c3, c4, c5⟩ := hv.party hk
  have hcode := (hrel k (by omega)).code
  have pf := hv.pfree
  have hth := hv.th8
  have k0 : (0 : Int) ≤ (k : Int) := by omega
  have k1 : (k : Int) < (D.th : Int) + 1 := by omega
  have k2 : decide (D.th + 1 ≤ k) = false := decide_eq_false (by omega)
  have k4 : ¬ (D.th : Int) + 1 ≤ (k : Int) := by omega
  have k5 : ((k : Int) == 0) = false := by simp; omega
  have k6 : ¬ k = 0 := by omega
  rw [hq] at hcode
  have e0 : (P k).ca = 0 := congrArg Prod.fst hcode
  rw [e0] at c0
  have c0 : w.cell? ⟨gp, k * 6, none⟩ = some (.int .i64 0) := c0
  have HV := Lib.hid hv; have HR := Lib.hid hrel
  clear hv hrel h hq hcode e0
  go_enter Try.func36, Try.ntmps36
  go_wp2_with fail
  go_ret
  refine ⟨rfl, ⟨updP P k ⟨3, 1, 0, 0, x, false⟩, ?_, fun j hj => ?_⟩, ?_⟩
  · exact HV.out.sparty (k := k) (by omega) ⟨3, 1, 0, 0, x, false⟩
  · show PartyOf (updC D.cl k _ j) _
    by_cases q : j = k
    · rw [q, updC_same, updP_same]; exact ⟨rfl, rfl, rfl, fun _ _ => rfl, fun _ => rfl⟩
    · rw [updC_other _ _ q, updP_other _ _ q]; exact HR.out j hj
  · exact ((((((But.refl (OwnR rb gs gp) w).set ⟨gp, k * 6, none⟩ _ (.inl (.inr (.inr rfl)))).set ⟨gp, k * 6 + 1, none⟩ _ (.inl (.inr (.inr rfl)))).set ⟨gp, k * 6 + 2, none⟩ _ (.inl (.inr (.inr rfl)))).set ⟨gp, k * 6 + 3, none⟩ _ (.inl (.inr (.inr rfl)))).set ⟨gp, k * 6 + 4, none⟩ _ (.inl (.inr (.inr rfl)))).set ⟨gp, k * 6 + 5, none⟩ _ (.inl (.inr (.inr rfl)))
set_option maxRecDepth 100000 in
set_option maxHeartbeats 4000000 in
theorem refbegin_3b (k : Nat) (x : Int) (h : RfD rb gs gp D w) (hk : k ≤ D.th) (hk1 : 1 ≤ k) (hq : (D.cl k).nx ≠ 0) :
    Calls Try.prog 36 #[.pointer (some ⟨rb, 0, none⟩), .int .i64 k, .int .i64 3, .int .i64 x] w fun e w' => e = .returned (.int .i64 5) ∧ w = w' := by
  obtain ⟨P, hv, hrel⟩ := h.v
  obtain ⟨o0, o1, o2, o3, o4⟩ := hv.cells
  obtain ⟨c0, c1, c2, c3, c4, c5⟩ := hv.party hk
  have hcode := (hrel k (by omega)).code
  have pf := hv.pfree
  have hth := hv.th8
  have k0 : (0 : Int) ≤ (k : Int) := by omega
  have k1 : (k : Int) < (D.th : Int) + 1 := by omega
  have k2 : decide (D.th + 1 ≤ k) = false := decide_eq_false (by omega)
  have k4 : ¬ (D.th : Int) + 1 ≤ (k : Int) := by omega
  have k5 : ((k : Int) == 0) = false := by simp; omega
  have k6 : ¬ k = 0 := by omega
  have e0 : (((P k).ca : Nat) : Int) ≠ 0 := fun q => hq (by
    have e1 : (P k).ca = (codeP (D.cl k).nx).1 := congrArg Prod.fst hcode
    unfold codeP at e1
    split at e1
    · assumption
    · split at e1
      · dsimp only at e1; omega
      · split at e1 <;> (dsimp only at e1; omega))
  have e1 : ((((P k).ca : Nat) : Int) != 0) = true := by simpa using e0
  obtain ⟨ca, hca⟩ : ∃ ca : Int, ca = (((P k).ca : Nat) : Int) := ⟨_, rfl⟩
  rw [← hca] at c0 e1
  clear hv hrel h hq hcode e0 hca
  go_enter Try.func36, Try.ntmps36
  go_wp2_with fail
  go_ret
  exact ⟨rfl, rfl⟩
set_option maxRecDepth 100000 in
set_option maxHeartbeats 4000000 in
theorem refbegin_no (k : Int) (x : Int) (h : RfD rb gs gp D w) (hk : inS k (D.th + 1) = false ∨ k = 0) :
    Calls Try.prog 36 #[.pointer (some ⟨rb, 0, none⟩), .int .i64 k, .int .i64 3, .int .i64 x] w fun e w' => e = .returned (.int .i64 1) ∧ w = w' := by
  obtain ⟨P, hv, hrel⟩ := h.v
  obtain ⟨o0, o1, o2, o3, o4⟩ := hv.cells
  clear hv hrel h
  by_cases k0 : k < 0
  · go_enter Try.func36, Try.ntmps36
    go_wp2_with fail
    go_ret
    exact ⟨rfl, rfl⟩
  · by_cases k1 : (D.th : Int) + 1 ≤ k
    · have k2 : ¬ k < 0 := k0
      clear hk
      go_enter Try.func36, Try.ntmps36
      go_wp2_with fail
      go_ret
      exact ⟨rfl, rfl⟩
    · obtain rfl : k = 0 := by
        rcases hk with hk | hk
        · simp [inS] at hk; omega
        · exact hk
      have k2 : ¬ (D.th : Int) + 1 ≤ 0 := by omega
      have k3 : decide ((D.th : Int) + 1 ≤ 0) = false := decide_eq_false (by omega)
      clear hk k0 k1
      go_enter Try.func36, Try.ntmps36
      go_wp2_with fail
      go_ret
      exact ⟨rfl, rfl⟩
theorem refpush_any (x : Int) (h : RfD rb gs gp D w) : Calls Try.prog 36 #[.pointer (some ⟨rb, 0, none⟩), .int .i64 0, .int .i64 1, .int .i64 x] w fun e w' => e = .returned (.int .i64 (beginE D 0)) ∧ RfD rb gs gp (beginR D 0 1 x) w' ∧ But (OwnR rb gs gp) w w' := by
  have hi : inS 0 (D.th + 1) = true := inS_yes (k := 0) (by omega)
  unfold beginE beginR
  rw [if_pos hi, if_pos hi]
  by_cases hq : (D.cl 0).nx = 0
  · rw [if_pos (show (D.cl (Int.toNat 0)).nx = 0 from hq), if_pos (show (D.cl (Int.toNat 0)).nx = 0 from hq)]
    exact refbegin_1 x h hq
  · rw [if_neg (show ¬ (D.cl (Int.toNat 0)).nx = 0 from hq), if_neg (show ¬ (D.cl (Int.toNat 0)).nx = 0 from hq)]
    exact (refbegin_1b x h hq).mono fun e w' ⟨he, hb⟩ => ⟨he, by rw [← hb]; exact h, by rw [← hb]; exact But.refl _ _⟩
theorem refpop_any (h : RfD rb gs gp D w) : Calls Try.prog 36 #[.pointer (some ⟨rb, 0, none⟩), .int .i64 0, .int .i64 2, .int .i64 0] w fun e w' => e = .returned (.int .i64 (beginE D 0)) ∧ RfD rb gs gp (beginR D 0 5 0) w' ∧ But (OwnR rb gs gp) w w' := by
  have hi : inS 0 (D.th + 1) = true := inS_yes (k := 0) (by omega)
  unfold beginE beginR
  rw [if_pos hi, if_pos hi]
  by_cases hq : (D.cl 0).nx = 0
  · rw [if_pos (show (D.cl (Int.toNat 0)).nx = 0 from hq), if_pos (show (D.cl (Int.toNat 0)).nx = 0 from hq)]
    exact refbegin_2 0 h hq
  · rw [if_neg (show ¬ (D.cl (Int.toNat 0)).nx = 0 from hq), if_neg (show ¬ (D.cl (Int.toNat 0)).nx = 0 from hq)]
    exact (refbegin_2b 0 h hq).mono fun e w' ⟨he, hb⟩ => ⟨he, by rw [← hb]; exact h, by rw [← hb]; exact But.refl _ _⟩
theorem refsteal_any (k : Int) (h : RfD rb gs gp D w) : Calls Try.prog 36 #[.pointer (some ⟨rb, 0, none⟩), .int .i64 k, .int .i64 3, .int .i64 0] w fun e w' => e = .returned (.int .i64 (stealE D k)) ∧ RfD rb gs gp (stealR D k) w' ∧ But (OwnR rb gs gp) w w' := by
  unfold stealE stealR
  by_cases hk : k = 0
  · rw [if_pos hk, if_pos hk]
    exact (refbegin_no k 0 h (.inr hk)).mono fun e w' ⟨he, hb⟩ => ⟨he, by rw [← hb]; exact h, by rw [← hb]; exact But.refl _ _⟩
  · rw [if_neg hk, if_neg hk]
    unfold beginE beginR
    cases hi : inS k (D.th + 1) with
    | false =>
      simp only [Bool.false_eq_true, if_false]
      exact (refbegin_no k 0 h (.inl hi)).mono fun e w' ⟨he, hb⟩ => ⟨he, by rw [← hb]; exact h, by rw [← hb]; exact But.refl _ _⟩
    | true =>
      obtain ⟨j, rfl⟩ : ∃ j : Nat, k = j := ⟨k.toNat, by simp [inS] at hi; omega⟩
      have hj : j ≤ D.th := by simp [inS] at hi; omega
      simp only [if_true, Int.toNat_natCast]
      by_cases hq : (D.cl j).nx = 0
      · simp only [hq, if_true]
        exact refbegin_3 j 0 h hj (by omega) hq
      · simp only [hq, if_false]
        exact (refbegin_3b j 0 h hj (by omega) hq).mono fun e w' ⟨he, hb⟩ => ⟨he, by rw [← hb]; exact h, by rw [← hb]; exact But.refl _ _⟩
end
end Go.Proofs.Ytfejimlfnelhhaa
