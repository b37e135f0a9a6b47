/- A lock that parties wait for in a row, plainly: if all go on, all come inside, and out again. -/
import Derived.Test.YtckdabokaelnoaaMq
namespace Go.Proofs.Ytckdabokaelnoaa

theorem ex_begT {D : Lk} (h : ∃ q, QInv D q) (k : Int) (fr sp : Nat) (hf : fr = 0 ∧ sp = 0 ∨ fr = 2 ∧ sp = 5) : ∃ q, QInv (begT D k fr sp) q := let ⟨q, h⟩ := h; ⟨q, qinv_begT h k fr sp hf⟩
theorem ex_stpT {D : Lk} (hN : Nice D) (h : ∃ q, QInv D q) (k : Int) : ∃ q, QInv (stpT D k) q := by
  obtain ⟨q, h⟩ := h
  unfold stpT
  split
  case isFalse => exact ⟨q, h⟩
  case isTrue hc => exact ⟨_, qinv_step h hN (by have := hc.1; unfold isN at this; omega) hc.2⟩
/-- Who is inside gives; then a step. -/
def turnT (D : Lk) (k : Nat) : Lk := stpT (begT D (k : Int) 2 5) (k : Int)
def sweepT (D : Lk) : Nat → Lk
  | 0 => D
  | i + 1 => turnT (sweepT D i) i
def roundT (D : Lk) : Nat → Lk
  | 0 => D
  | r + 1 => sweepT (roundT D r) 16
/-- What there is always. -/
structure Good (D : Lk) : Prop where
  nice : Nice D
  row : ∃ q, QInv D q
theorem Good.turn {D : Lk} (h : Good D) (k : Nat) : Good (turnT D k) :=
  ⟨nice_stpT (nice_begT h.nice _ _ _ (.inr ⟨rfl, rfl⟩)) _, ex_stpT (nice_begT h.nice _ _ _ (.inr ⟨rfl, rfl⟩)) (ex_begT h.row _ _ _ (.inr ⟨rfl, rfl⟩)) _⟩
theorem Good.sweep {D : Lk} (h : Good D) : ∀ i, Good (sweepT D i)
  | 0 => h
  | i + 1 => (h.sweep i).turn i
theorem Good.round {D : Lk} (h : Good D) : ∀ i, Good (roundT D i)
  | 0 => h
  | i + 1 => (h.round i).sweep 16
theorem turn_n (D : Lk) (k : Nat) : (turnT D k).n = D.n := (stpT_n _ _).trans (begT_n _ _ _ _)
theorem sweep_n (D : Lk) : ∀ i, (sweepT D i).n = D.n
  | 0 => rfl
  | i + 1 => (turn_n _ i).trans (sweep_n D i)
theorem begT_far (D : Lk) (k fr sp : Nat) {j : Nat} (h : j ≠ k) : (begT D k fr sp).cl j = D.cl j := by
  unfold begT; split
  · exact updF_other _ _ (by simpa using h)
  · rfl
theorem stpT_far (D : Lk) (k : Nat) {j : Nat} (h : j ≠ k) : (stpT D k).cl j = D.cl j := by
  unfold stpT; split
  · rw [Int.toNat_natCast]; exact stepL_far D h
  · rfl
theorem turn_far (D : Lk) {k j : Nat} (h : j ≠ k) : (turnT D k).cl j = D.cl j := (stpT_far _ k h).trans (begT_far D k 2 5 h)
section
variable {D : Lk} {k : Nat}
theorem turn_out (hk : ¬ k < D.n) : turnT D k = D := by
  have : ¬ isN D k := by unfold isN; omega
  unfold turnT
  rw [show begT D k 2 5 = D by unfold begT; rw [if_neg (fun x => this x.1)]]
  unfold stpT; rw [if_neg (fun x => this x.1)]
theorem turn_0 (hs : (D.cl k).st = 0) : turnT D k = D := by
  unfold turnT
  rw [show begT D k 2 5 = D by unfold begT; rw [if_neg (fun x => by have := x.2; rw [Int.toNat_natCast] at this; omega)]]
  unfold stpT; rw [if_neg (fun x => by have := x.2; rw [Int.toNat_natCast] at this; omega)]
theorem turn_act (hk : k < D.n) (hs : (D.cl k).st = 1 ∨ (D.cl k).st = 3) : turnT D k = stepL D k := by
  unfold turnT
  rw [show begT D k 2 5 = D by unfold begT; rw [if_neg (fun x => by have := x.2; rw [Int.toNat_natCast] at this; omega)]]
  unfold stpT; rw [if_pos ⟨by unfold isN; omega, by rw [Int.toNat_natCast]; exact hs⟩, Int.toNat_natCast]
theorem turn_2 (hk : k < D.n) (hs : (D.cl k).st = 2) : turnT D k = { D with cl := updF D.cl k ⟨3, if D.nx k = -1 then 6 else 7, D.nx k⟩ } := by
  have hi : isN D k := by unfold isN; omega
  unfold turnT
  rw [show begT D k 2 5 = { D with cl := updF D.cl k ⟨3, 5, 0⟩ } by unfold begT; rw [if_pos ⟨hi, by rw [Int.toNat_natCast]; exact hs⟩, Int.toNat_natCast]]
  unfold stpT
  rw [if_pos ⟨hi, by rw [Int.toNat_natCast]; exact .inr (by simp [updF_same])⟩, Int.toNat_natCast]
  unfold stepL
  simp only [updF_same, updF_twice]
/-- Who takes has come so far. -/
def Low (m : Nat) (D : Lk) : Prop := ∀ p, p < D.n → (D.cl p).st = 1 → m ≤ (D.cl p).sp
theorem turn_low (hN : Nice D) (hk : k < D.n) (h1 : ((turnT D k).cl k).st = 1) : (D.cl k).st = 1 ∧ ((D.cl k).sp + 1 ≤ ((turnT D k).cl k).sp ∨ 4 ≤ ((turnT D k).cl k).sp) := by
  have K := hN.each k hk
  have s0 := K.st; have s1 := K.s1; have s3 := K.s3
  have hq : (D.cl k).st = 0 ∨ (D.cl k).st = 2 ∨ ((D.cl k).st = 1 ∨ (D.cl k).st = 3) := by omega
  rcases hq with q | q | q
  · rw [turn_0 q] at h1; omega
  · rw [turn_2 hk q] at h1; simp [updF_same] at h1
  · rw [turn_act hk q] at h1 ⊢
    obtain ⟨s, p, o, hc⟩ : ∃ s p o, D.cl k = ⟨s, p, o⟩ := ⟨_, _, _, rfl⟩
    simp only [hc] at q s1 s3 ⊢
    unfold stepL at h1 ⊢
    rw [hc] at h1 ⊢
    match p, hc with
    | 0, hc => simp only [updF_same] at h1 ⊢; omega
    | 1, hc => simp only [updF_same] at h1 ⊢; omega
    | 2, hc => simp only [updF_same] at h1 ⊢; split at h1 <;> omega
    | 3, hc => simp only [updF_same] at h1 ⊢; omega
    | 4, hc => simp only [updF_same] at h1 ⊢; split at h1 <;> omega
    | 5, hc => simp only [updF_same] at h1 ⊢; omega
    | 6, hc => simp only [updF_same] at h1 ⊢; split at h1 <;> omega
    | p + 7, hc => simp only [updF_same] at h1; omega
theorem sweep_low {m : Nat} (hG : Good D) (hm : m < 4) (hl : Low m D) : Low (m + 1) (sweepT D 16) := by
  have key : ∀ i, ∀ p, p < D.n → ((sweepT D i).cl p).st = 1 → (if p < i then m + 1 else m) ≤ ((sweepT D i).cl p).sp := by
    intro i
    induction i with
    | zero => intro p hp h1; simp only [Nat.not_lt_zero, if_false]; exact hl p hp h1
    | succ i ih =>
      intro p hp h1
      simp only [sweepT] at h1 ⊢
      by_cases e : p = i
      · subst e
        have hn := sweep_n D p
        obtain ⟨a, c⟩ := turn_low (hG.sweep p).nice (by omega) h1
        have := ih p hp a
        rw [if_neg (by omega)] at this
        rw [if_pos (by omega)]; omega
      · rw [turn_far _ e] at h1 ⊢
        have := ih p hp h1
        by_cases l : p < i
        · rw [if_pos l] at this; rw [if_pos (by omega)]; exact this
        · rw [if_neg l] at this; rw [if_neg (by omega)]; exact this
  intro p hp h1
  rw [sweep_n] at hp
  have := key 16 p hp h1
  rw [if_pos (by have := hG.nice.n2; omega)] at this
  exact this
theorem sweep_low4 (hG : Good D) (hl : Low 4 D) : ∀ i, Low 4 (sweepT D i)
  | 0 => hl
  | i + 1 => by
    intro p hp h1
    simp only [sweepT] at h1 ⊢
    rw [sweep_n] at hp
    have ih := sweep_low4 hG hl i
    have hn := sweep_n D i
    by_cases e : p = i
    · subst e
      obtain ⟨a, c⟩ := turn_low (hG.sweep p).nice (by omega) h1
      have := ih p (by omega) a
      omega
    · rw [turn_far _ e] at h1 ⊢; exact ih p (by omega) h1
/-- How far a party is from being outside. -/
def wgt (D : Lk) (p : Nat) : Nat :=
  match (D.cl p).st with
  | 0 => 0
  | 1 => 4
  | 2 => 3
  | _ => if (D.cl p).sp = 5 then 2 else if (D.cl p).sp = 6 then (if D.nx p = -1 then 1 else 3) else 1
def tot (D : Lk) : Nat → Nat
  | 0 => 0
  | i + 1 => tot D i + wgt D i
theorem wgt_le (D : Lk) (p : Nat) : wgt D p ≤ 4 := by unfold wgt; split <;> (try split) <;> (try split) <;> (try split) <;> omega
theorem tot_le (D : Lk) : ∀ i, tot D i ≤ 4 * i
  | 0 => Nat.le_refl _
  | i + 1 => by have := tot_le D i; have := wgt_le D i; simp only [tot]; omega
theorem tot_same {E : Lk} (k : Nat) (h : ∀ j, j ≠ k → wgt E j = wgt D j) : ∀ i, i ≤ k → tot E i = tot D i
  | 0, _ => rfl
  | i + 1, hi => by simp only [tot]; rw [tot_same k h i (by omega), h i (by omega)]
theorem tot_change {E : Lk} (k : Nat) (h : ∀ j, j ≠ k → wgt E j = wgt D j) : ∀ i, k < i → tot E i + wgt D k = tot D i + wgt E k
  | 0, hi => by omega
  | i + 1, hi => by
    simp only [tot]
    by_cases e : i = k
    · subst e; rw [tot_same i h i (Nat.le_refl _)]; omega
    · have := tot_change k h i (by omega); rw [h i e]; omega
theorem tot_zero : ∀ i, tot D i = 0 → ∀ p, p < i → wgt D p = 0
  | 0, _, p, hp => by omega
  | i + 1, h, p, hp => by
    simp only [tot] at h
    by_cases e : p = i
    · subst e; omega
    · exact tot_zero i (by omega) p (by omega)
/-- A party that does nothing at its turn. -/
def Inert (D : Lk) (k : Nat) : Prop := k < D.n → (D.cl k).st = 0 ∨ ((D.cl k).st = 1 ∧ D.wt k = true)
theorem turn_dec (hG : Good D) (hl : Low 4 D) (k : Nat) : (turnT D k = D ∧ Inert D k) ∨ tot (turnT D k) D.n < tot D D.n := by
  by_cases hk : k < D.n
  case neg => exact .inl ⟨turn_out hk, fun x => absurd x hk⟩
  have K := hG.nice.each k hk
  have s0 := K.st; have s1 := K.s1; have s3 := K.s3
  have hlk := hl k hk
  have dec : ∀ (t : Int) (wt : Nat → Bool) (c : Pl), turnT D k = { tail := t, nx := D.nx, wt := wt, cl := updF D.cl k c, n := D.n } →
      wgt ({ tail := t, nx := D.nx, wt := wt, cl := updF D.cl k c, n := D.n } : Lk) k < wgt D k → tot (turnT D k) D.n < tot D D.n := by
    intro t wt c e hw
    rw [e]
    have := tot_change (D := D) (E := { tail := t, nx := D.nx, wt := wt, cl := updF D.cl k c, n := D.n }) k (fun j hj => by unfold wgt; simp only [updF_other _ _ hj]) D.n hk
    omega
  have hq : (D.cl k).st = 0 ∨ (D.cl k).st = 2 ∨ (D.cl k).st = 1 ∨ (D.cl k).st = 3 := by omega
  rcases hq with q | q | q | q
  · exact .inl ⟨turn_0 q, fun _ => .inl q⟩
  · refine .inr (dec _ _ _ (turn_2 hk q) ?_)
    unfold wgt
    rw [q]; simp only [updF_same]
    by_cases e : D.nx k = -1 <;> simp [e]
  · have ha := turn_act hk (.inl q)
    obtain ⟨s, p, o, hc⟩ : ∃ s p o, D.cl k = ⟨s, p, o⟩ := ⟨_, _, _, rfl⟩
    have hl4 := hlk q
    simp only [hc] at q s1 hl4
    obtain rfl : p = 4 := by omega
    subst q
    have e : stepL D k = { D with cl := updF D.cl k ⟨if D.wt k = true then 1 else 2, 4, o⟩ } := by unfold stepL; simp [hc]
    cases hw : D.wt k with
    | true =>
      refine .inl ⟨?_, fun _ => .inr ⟨by rw [hc], hw⟩⟩
      rw [ha, e, hw]
      simp only [if_true]
      rw [updF_self D.cl k hc]
    | false =>
      refine .inr (dec _ _ _ (ha.trans e) ?_)
      unfold wgt
      simp [hc, updF_same, hw]
  · have ha := turn_act hk (.inr q)
    obtain ⟨s, p, o, hc⟩ : ∃ s p o, D.cl k = ⟨s, p, o⟩ := ⟨_, _, _, rfl⟩
    simp only [hc] at q s3
    subst q
    have hp : p = 5 ∨ p = 6 ∨ p = 7 := by omega
    rcases hp with rfl | rfl | rfl
    · have e : stepL D k = { D with cl := updF D.cl k ⟨3, if D.nx k = -1 then 6 else 7, D.nx k⟩ } := by unfold stepL; simp [hc]
      refine .inr (dec _ _ _ (ha.trans e) ?_)
      unfold wgt
      by_cases x : D.nx k = -1 <;> simp [hc, updF_same, x]
    · by_cases ht : D.tail = (k : Int)
      · have e : stepL D k = { D with tail := -1, cl := updF D.cl k ⟨0, 5, o⟩ } := by unfold stepL; simp [hc, ht]
        refine .inr (dec _ _ _ (ha.trans e) ?_)
        unfold wgt
        by_cases x : D.nx k = -1 <;> simp [hc, updF_same, x]
      · have e : stepL D k = { D with cl := updF D.cl k ⟨3, 5, o⟩ } := by unfold stepL; simp [hc, ht]
        refine .inr (dec _ _ _ (ha.trans e) ?_)
        have x : D.nx k ≠ -1 := by
          obtain ⟨q, hQ⟩ := hG.row
          obtain ⟨i0, hi0⟩ := hQ.mem k hk (by simp [hc])
          obtain rfl := first_of hQ hi0 (by simp [hc])
          have l0 := (List.getElem?_eq_some_iff.1 hi0).1
          by_cases l1 : 1 < q.length
          · have hc1 : q[1]? = some q[1] := List.getElem?_eq_getElem l1
            have r := (hQ.rest 0 _ hc1).1
            have nn := (hG.nice.each _ (hQ.lt 1 _ hc1).1).s1 r
            have n4 : (D.cl q[1]).sp = 4 := by have := hl _ (hQ.lt 1 _ hc1).1 r; omega
            rw [hQ.l4 0 k _ hi0 hc1 n4]; omega
          · exact absurd (hQ.tl 0 k hi0 (by omega)).1 ht
        unfold wgt
        simp [hc, updF_same, x]
    · have e : stepL D k = { D with wt := updF D.wt o.toNat false, cl := updF D.cl k ⟨0, 8, o⟩ } := by unfold stepL; simp [hc]
      refine .inr (dec _ _ _ (ha.trans e) ?_)
      unfold wgt
      simp [hc, updF_same]
theorem sweep_dec (hG : Good D) (hl : Low 4 D) : ∀ i, (sweepT D i = D ∧ ∀ j, j < i → Inert D j) ∨ tot (sweepT D i) D.n < tot D D.n
  | 0 => .inl ⟨rfl, fun j hj => by omega⟩
  | i + 1 => by
    simp only [sweepT]
    rcases sweep_dec hG hl i with ⟨e, hin⟩ | hlt
    · rw [e]
      rcases turn_dec hG hl i with ⟨a, c⟩ | c
      · exact .inl ⟨a, fun j hj => by
          by_cases x : j = i
          · exact x ▸ c
          · exact hin j (by omega)⟩
      · exact .inr c
    · have hn := sweep_n D i
      rcases turn_dec (hG.sweep i) (sweep_low4 hG hl i) i with ⟨a, c⟩ | c
      · rw [a]; exact .inr hlt
      · rw [hn] at c; exact .inr (by omega)
theorem all_inert (hG : Good D) (hl : Low 4 D) (h : ∀ j, j < 16 → Inert D j) : ∀ p, p < D.n → (D.cl p).st = 0 := by
  intro p hp
  have n2 := hG.nice.n2
  rcases h p (by omega) hp with q | ⟨q, hw⟩
  · exact q
  · exfalso
    obtain ⟨qs, hQ⟩ := hG.row
    obtain ⟨i0, hi0⟩ := hQ.mem p hp (.inl ⟨q, by have := hl p hp q; omega⟩)
    have l0 := (List.getElem?_eq_some_iff.1 hi0).1
    have hc0 : qs[0]? = some (qs[0]'(by omega)) := List.getElem?_eq_getElem (by omega)
    obtain ⟨hn0, hs0⟩ := hQ.lt 0 _ hc0
    rcases h _ (by omega) hn0 with a | ⟨a, c⟩
    · omega
    · have := (hQ.head _ hc0 a).2
      rw [this] at c; cases c
theorem tot_out (h : ∀ p, p < D.n → (D.cl p).st = 0) : ∀ i, i ≤ D.n → tot D i = 0
  | 0, _ => rfl
  | i + 1, hi => by
    simp only [tot]; rw [tot_out h i (by omega)]
    unfold wgt; simp [h i (by omega)]
theorem round_low (hG : Good D) : ∀ m, m ≤ 4 → Low m (roundT D m)
  | 0, _ => fun _ _ _ => Nat.zero_le _
  | m + 1, hm => sweep_low (hG.round m) (by omega) (round_low hG m (by omega))
theorem round_n (D : Lk) : ∀ i, (roundT D i).n = D.n
  | 0 => rfl
  | i + 1 => (sweep_n _ 16).trans (round_n D i)
theorem round_dec (hG : Good D) : ∀ r, Low 4 (roundT D (4 + r)) ∧ tot (roundT D (4 + r)) D.n ≤ 64 - r
  | 0 => ⟨round_low hG 4 (by omega), by have := tot_le (roundT D 4) D.n; have := hG.nice.n2; show tot (roundT D 4) D.n ≤ _; omega⟩
  | r + 1 => by
    obtain ⟨a, c⟩ := round_dec hG r
    have hn := round_n D (4 + r)
    refine ⟨sweep_low4 (hG.round (4 + r)) a 16, ?_⟩
    show tot (sweepT (roundT D (4 + r)) 16) D.n ≤ _
    rcases sweep_dec (hG.round (4 + r)) a 16 with ⟨e, hin⟩ | hlt
    · rw [e]
      have := tot_out (all_inert (hG.round (4 + r)) a hin) D.n (by omega)
      omega
    · rw [hn] at hlt; omega
/-- ALL COME OUT AGAIN. -/
theorem all_out (hG : Good D) (who : Int) : stI (roundT D 200) who ≤ 0 := by
  obtain ⟨a, c⟩ := round_dec hG 196
  have hn := round_n D 200
  have hN := (hG.round 200).nice
  rw [show 4 + 196 = 200 from rfl] at a c
  generalize roundT D 200 = E at *
  unfold stI
  split
  case isFalse => omega
  case isTrue hi =>
    have hk : who.toNat < E.n := by unfold isN at hi; omega
    have z := tot_zero (D := E) D.n (by omega) who.toNat (by omega)
    have K := hN.each who.toNat hk
    have s0 := K.st
    have : (E.cl who.toNat).st = 0 := by
      unfold wgt at z
      split at z
      · assumption
      · omega
      · omega
      · split at z
        · omega
        · split at z
          · split at z <;> omega
          · omega
    rw [this]; omega
end
end Go.Proofs.Ytckdabokaelnoaa
