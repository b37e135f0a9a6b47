/- A shared row when all calls are ended: what wasn't taken is there. -/
import Derived.Test.YtfejimlfnelhhaaSg
namespace Go.Proofs.Ytfejimlfnelhhaa

theorem stepW_th (D : Dq) (c : Cl) : (stepW D c).2.1.th = D.th ∧ (stepW D c).2.1.room = D.room := by
  unfold stepW
  split <;> exact ⟨rfl, rfl⟩
theorem stR_th (D : Dq) (k : Int) : (stR D k).th = D.th := by
  unfold stR
  split
  · split
    · rfl
    · exact (stepW_th _ _).1
  · rfl
theorem stR_cl (D : Dq) (k : Nat) {j : Nat} (h : j ≠ k) : (stR D k).cl j = D.cl j := by
  unfold stR
  split
  · split
    · rfl
    · rw [Int.toNat_natCast]; exact updC_other _ _ h
  · rfl
/-- How many steps a call has still. -/
def remN (nx : Nat) : Nat := if nx = 0 then 0 else if nx ≤ 4 then 5 - nx else if nx ≤ 9 then 10 - nx else 14 - nx
theorem nice_rem {D : Dq} {n : Nat} (h : Nice D n) (k : Nat) : remN (D.cl k).nx ≤ 5 ∧ (remN (D.cl k).nx = 0 → (D.cl k).nx = 0) := by
  have h1 : (D.cl k).nx ≤ 13 := by
    by_cases q : k = 0
    · subst q; have := h.wk; omega
    · have := h.tk k (by omega); omega
  unfold remN
  split
  · exact ⟨by omega, fun _ => by assumption⟩
  · split
    · exact ⟨by omega, fun _ => by omega⟩
    · split
      · exact ⟨by omega, fun _ => by omega⟩
      · exact ⟨by omega, fun _ => by omega⟩
theorem rem_after {how nx nx' b t x : _} {won : Bool} (h1 : 1 ≤ remN nx) (h : remN nx' + 1 ≤ remN nx) : remN (if how = (0 : Nat) then (⟨nx', b, t, x, won⟩ : Cl) else Cl.out).nx + 1 ≤ remN nx := by
  split
  · exact h
  · show remN 0 + 1 ≤ _; simpa [remN] using h1
theorem rem_step {D : Dq} {n : Nat} (h : Nice D n) (k : Nat) (hk : k ≤ D.th) (hq : (D.cl k).nx ≠ 0) : remN ((stR D k).cl k).nx + 1 ≤ remN (D.cl k).nx := by
  have h1 : (D.cl k).nx ≤ 13 := by
    by_cases q : k = 0
    · subst q; have := h.wk; omega
    · have := h.tk k (by omega); omega
  obtain ⟨c, hc⟩ : ∃ c, c = D.cl k := ⟨_, rfl⟩
  have e : (stR D k).cl k = if (stepW D c).1 = 0 then (stepW D c).2.2 else Cl.out := by
    rw [(stR_eq (D := D) (k := k) (c := c) (how := (stepW D c).1) (E := (stepW D c).2.1) (c' := (stepW D c).2.2) hk hc.symm (by rw [hc]; exact hq) rfl).1]
    show updC D.cl k _ k = _
    rw [updC_same]
  rw [e, ← hc]
  rw [← hc] at hq h1
  obtain ⟨nx, b, t, x, won⟩ := c
  match nx, hq, h1 with
  | 1, _, _ => exact rem_after (nx := 1) (nx' := 2) (by decide) (by decide)
  | 2, _, _ => exact rem_after (nx := 2) (nx' := 3) (by decide) (by decide)
  | 3, _, _ => exact rem_after (nx := 3) (nx' := 4) (by decide) (by decide)
  | 4, _, _ => show remN 0 + 1 ≤ remN 4; decide
  | 5, _, _ => exact rem_after (nx := 5) (nx' := 6) (by decide) (by decide)
  | 6, _, _ => exact rem_after (nx := 6) (nx' := if b < D.top then 9 else 7) (by decide) (by split <;> decide)
  | 7, _, _ => exact rem_after (nx := 7) (nx' := 8) (by decide) (by decide)
  | 8, _, _ => exact rem_after (nx := 8) (nx' := 9) (by decide) (by decide)
  | 9, _, _ =>
    cases won
    · show remN 0 + 1 ≤ remN 9; decide
    · show remN 0 + 1 ≤ remN 9; decide
  | 10, _, _ => exact rem_after (nx := 10) (nx' := 11) (by decide) (by decide)
  | 11, _, _ => exact rem_after (nx := 11) (nx' := 12) (by decide) (by decide)
  | 12, _, _ => exact rem_after (nx := 12) (nx' := 13) (by decide) (by decide)
  | 13, _, _ =>
    have hh : (stepW D ⟨13, b, t, x, won⟩).1 ≠ 0 := by simp only [stepW]; split <;> omega
    rw [if_neg hh]
    show remN 0 + 1 ≤ remN 13
    decide
  | 0, hq, _ => exact absurd rfl hq
  | m + 14, _, h1 => exact absurd h1 (by simp)
/-- How many of the first are there still. -/
def cz (T : Nat → Int) : Nat → Nat
  | 0 => 0
  | j + 1 => cz T j + if T (j + 1) = 0 then 1 else 0
theorem cz_le (T : Nat → Int) : ∀ j, cz T j ≤ j
  | 0 => Nat.le_refl _
  | j + 1 => by have := cz_le T j; simp only [cz]; split <;> omega
theorem Core.count {top : Int} {sl : Nat → Int} {room : Nat} {nxt m : Nat} {T : Nat → Int} (h : Core top (top + m) sl room nxt nxt T (fun _ => False)) : cz T (nxt - 1) = m := by
  have key : ∀ j, j ≤ nxt - 1 → cz T j ≤ m ∧ (∀ i : Nat, i < cz T j → sl (slotN room (top + i)) ≤ j) ∧ (∀ i : Nat, cz T j ≤ i → i < m → (j : Int) < sl (slotN room (top + i))) := by
    intro j
    induction j with
    | zero => exact fun _ => ⟨Nat.zero_le _, fun i hi => absurd hi (Nat.not_lt_zero _), fun i _ hi => by have := h.lo (top + i) (by omega) (by omega); omega⟩
    | succ j ih =>
      intro hj
      obtain ⟨a, b, c⟩ := ih (by omega)
      have hst := h.st (j + 1) (by omega) (by omega)
      simp only [cz]
      by_cases q : T (j + 1) = 0
      · rw [if_pos q]
        rcases hst.1 q with ⟨i, i1, i2, i3⟩ | f
        · obtain ⟨u, rfl⟩ : ∃ u : Nat, i = top + u := ⟨(i - top).toNat, by omega⟩
          have hu : cz T j ≤ u := by
            rcases Nat.lt_or_ge u (cz T j) with r | r
            · have := b u r; omega
            · exact r
          have hu2 : u = cz T j := by
            rcases Nat.lt_or_ge (cz T j) u with r | r
            · have h1 := h.up (top + (cz T j : Nat)) (top + u) (by omega) (by omega) i2
              have h2 := c (cz T j) (Nat.le_refl _) (by omega)
              omega
            · omega
          subst hu2
          refine ⟨by omega, fun v hv => ?_, fun v hv hm => ?_⟩
          · by_cases r : v = cz T j
            · subst r; omega
            · have := b v (by omega); omega
          · have := h.up (top + (cz T j : Nat)) (top + v) (by omega) (by omega) (by omega)
            omega
        · exact f.elim
      · rw [if_neg q, Nat.add_zero]
        refine ⟨a, fun v hv => by have := b v hv; omega, fun v hv hm => ?_⟩
        have h1 := c v hv hm
        have : sl (slotN room (top + v)) ≠ ((j + 1 : Nat) : Int) := fun e => q (hst.2 (.inl ⟨top + v, by omega, by omega, e⟩))
        omega
  obtain ⟨a, b, c⟩ := key (nxt - 1) (Nat.le_refl _)
  have n1 := h.n1
  rcases Nat.lt_or_ge (cz T (nxt - 1)) m with r | r
  · have h1 := c _ (Nat.le_refl _) r
    have h2 := h.hi (top + (cz T (nxt - 1) : Nat)) (by omega) (by omega)
    omega
  · omega
def lsf (f : Nat → Int) (q : Nat) : List Int := (List.range q).map f
theorem lsf_snoc (f : Nat → Int) (q : Nat) : lsf f (q + 1) = lsf f q ++ [f q] := by simp [lsf, List.range_succ]
/-- When nobody is in a call. -/
theorem Inv.quiet {D : Dq} {nxt : Nat} {T : Nat → Int} (h : Inv D nxt T) (hq : ∀ k, k ≤ D.th → (D.cl k).nx = 0) :
    ∃ (m : Nat) (f : Nat → Int), D.bot - D.top = m ∧ cz T (nxt - 1) = m ∧ Qui D (lsf f m) ∧ (∀ i, i < m → ∃ v : Nat, f i = v ∧ 1 ≤ v ∧ v < nxt ∧ T v = 0) ∧ (∀ i j, i < j → j < m → f i < f j) := by
  have hw := h.w
  unfold InvW at hw
  rw [hq 0 (Nat.zero_le _)] at hw
  have hC : Core D.top D.bot D.sl D.room nxt nxt T (fun _ => False) := hw
  have tl := hC.tl; have lr := hC.lr
  obtain ⟨m, hm⟩ : ∃ m : Nat, D.bot = D.top + m := ⟨(D.bot - D.top).toNat, by omega⟩
  rw [hm] at hC
  refine ⟨m, fun i => D.sl (slotN D.room (D.top + i)), by omega, hC.count, ⟨hq, hC.r1, hC.t0, by simp [lsf]; omega, by simp [lsf]; omega, fun i hi => ?_⟩, fun i hi => ?_, fun i j hi hj => hC.up _ _ (by omega) (by omega) (by omega)⟩
  · have : i < m := by simpa [lsf] using hi
    simp [lsf, this]
  · obtain ⟨v, a, b, c, _, e⟩ := hC.val (i := D.top + i) (by omega) (by omega)
    exact ⟨v, a, b, c, e⟩
end Go.Proofs.Ytfejimlfnelhhaa
