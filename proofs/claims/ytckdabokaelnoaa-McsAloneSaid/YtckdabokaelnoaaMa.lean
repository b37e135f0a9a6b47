/- McsAlone, plainly: at most one is inside or giving; the law's row is those of the row who still take. -/
import Derived.Test.YtckdabokaelnoaaMr
namespace Go.Proofs.Ytckdabokaelnoaa

/-- Those of the row who still take. -/
def rowOf (D : Lk) (q : List Nat) : List Nat := q.filter fun p => (D.cl p).st == 1
theorem rowOf_same {D D' : Lk} {q : List Nat} (h : ∀ p ∈ q, ((D'.cl p).st = 1 ↔ (D.cl p).st = 1)) : rowOf D' q = rowOf D q := by
  unfold rowOf
  apply List.filter_congr
  intro p hp
  have := h p hp
  by_cases e : (D.cl p).st = 1
  · rw [e, this.2 e]
  · have e' : ¬ (D'.cl p).st = 1 := fun x => e (this.1 x)
    rw [beq_eq_false_iff_ne.2 e, beq_eq_false_iff_ne.2 e']
theorem mem_at {q : List Nat} {p : Nat} (h : p ∈ q) : ∃ i : Nat, q[i]? = some p := List.mem_iff_getElem?.1 h
/-- How many steps each has taken. -/
def Took (D : Lk) (T : Nat → Nat) : Prop := ∀ p, p < D.n → (D.cl p).st = 1 → ((D.cl p).sp ≤ 3 → T p = (D.cl p).sp) ∧ ((D.cl p).sp = 4 → 4 ≤ T p)
section
variable {D : Lk} {q : List Nat} {k : Nat} {T : Nat → Nat}
theorem alone_one (h : QInv D q) (hN : Nice D) (hT : Took D T) (hk : k < D.n) (h1 : (D.cl k).st = 1) :
    (if T k + 1 = 3 then rowOf D q ++ [k] else rowOf D q) = (if ((stepL D k).cl k).st = 2 then k :: rowOf (stepL D k) (qstep D k q) else rowOf (stepL D k) (qstep D k q)) ∧
      (((stepL D k).cl k).st = 1 ∨ ((stepL D k).cl k).st = 2) ∧ Took (stepL D k) (updF T k (T k + 1)) := by
  have K := hN.each k hk
  have k1 := K.s1
  obtain ⟨t1, t2⟩ := hT k hk h1
  have far : ∀ c : Pl, (stepL D k).cl k = c → (c.st = 1 → (c.sp ≤ 3 → T k + 1 = c.sp) ∧ (c.sp = 4 → 4 ≤ T k + 1)) → Took (stepL D k) (updF T k (T k + 1)) := by
    intro c hc hh p hp hs
    by_cases e : p = k
    · subst e; rw [updF_same]; rw [hc] at hs ⊢; exact hh hs
    · rw [updF_other _ _ e]; rw [stepL_far D e] at hs ⊢
      rw [stepL_n] at hp; exact hT p hp hs
  have hfar : ∀ j, j ≠ k → (stepL D k).cl j = D.cl j := fun j hj => stepL_far D hj
  obtain ⟨s, p, o, hc⟩ : ∃ s p o, D.cl k = ⟨s, p, o⟩ := ⟨_, _, _, rfl⟩
  have hkq : p ≤ 2 → ∀ x ∈ q, x ≠ k := fun hp x hx e => by
    obtain ⟨i, hi⟩ := mem_at hx
    exact notin h (k := k) (.inl ⟨h1, by rw [hc]; exact hp⟩) i (e ▸ hi)
  simp only [hc] at h1 k1 t1 t2
  subst h1
  match p, hc with
  | 0, hc =>
    have e : (stepL D k).cl k = ⟨1, 1, o⟩ := by unfold stepL; simp [hc, updF_same]
    have hq : qstep D k q = q := by unfold qstep; simp [hc]
    refine ⟨?_, by simp [e], far _ e (fun _ => ⟨fun _ => by simp at t1 ⊢; omega, fun x => by simp at x⟩)⟩
    rw [hq, e, if_neg (by simp at t1; omega), if_neg (by simp)]
    exact (rowOf_same fun x hx => by rw [hfar x (hkq (by omega) x hx)]).symm
  | 1, hc =>
    have e : (stepL D k).cl k = ⟨1, 2, o⟩ := by unfold stepL; simp [hc, updF_same]
    have hq : qstep D k q = q := by unfold qstep; simp [hc]
    refine ⟨?_, by simp [e], far _ e (fun _ => ⟨fun _ => by simp at t1 ⊢; omega, fun x => by simp at x⟩)⟩
    rw [hq, e, if_neg (by simp at t1; omega), if_neg (by simp)]
    exact (rowOf_same fun x hx => by rw [hfar x (hkq (by omega) x hx)]).symm
  | 2, hc =>
    have e : (stepL D k).cl k = ⟨if D.tail = -1 then 2 else 1, 3, D.tail⟩ := by unfold stepL; simp [hc, updF_same]
    have hq : qstep D k q = q ++ [k] := by unfold qstep; simp [hc]
    have e3 : T k + 1 = 3 := by simp at t1; omega
    have hold : rowOf (stepL D k) q = rowOf D q := rowOf_same fun x hx => by rw [hfar x (hkq (by omega) x hx)]
    refine ⟨?_, by rw [e]; dsimp only; split <;> simp, far _ e (fun _ => ⟨fun _ => e3, fun x => by simp at x⟩)⟩
    rw [hq, e, if_pos e3]
    by_cases ht : D.tail = -1
    · simp only [ht, if_true]
      have q0 : q = [] := by
        match q, h with
        | [], _ => rfl
        | x :: r, h =>
          exfalso
          have l := h.tl ((x :: r).length - 1) ((x :: r)[(x :: r).length - 1]'(by simp)) (List.getElem?_eq_getElem _) (by simp)
          omega
      subst q0
      unfold rowOf
      simp [e, ht]
    · simp only [ht, if_false]
      rw [if_neg (by simp)]
      have e1 : ((stepL D k).cl k).st = 1 := by rw [e]; simp [ht]
      unfold rowOf at hold ⊢
      rw [List.filter_append, hold]
      simp [e1]
  | 3, hc =>
    have e : (stepL D k).cl k = ⟨1, 4, o⟩ := by unfold stepL; simp [hc, updF_same]
    have hq : qstep D k q = q := by unfold qstep; simp [hc]
    refine ⟨?_, by simp [e], far _ e (fun _ => ⟨fun x => by simp at x, fun x => by simp at t1; omega⟩)⟩
    rw [hq, e, if_neg (by simp at t1; omega), if_neg (by simp)]
    refine (rowOf_same fun x hx => ?_).symm
    by_cases y : x = k
    · subst y; rw [e, hc]
    · rw [hfar x y]
  | 4, hc =>
    have e : (stepL D k).cl k = ⟨if D.wt k = true then 1 else 2, 4, o⟩ := by unfold stepL; simp [hc, updF_same]
    have hq : qstep D k q = q := by unfold qstep; simp [hc]
    have t4 := t2 rfl
    refine ⟨?_, by rw [e]; dsimp only; split <;> simp, far _ e (fun _ => ⟨fun x => by simp at x, fun x => by omega⟩)⟩
    rw [hq, e, if_neg (by omega)]
    cases hw : D.wt k with
    | true =>
      simp only [if_true]
      rw [if_neg (by simp)]
      refine (rowOf_same fun x hx => ?_).symm
      by_cases y : x = k
      · subst y; rw [e, hc, hw]; simp
      · rw [hfar x y]
    | false =>
      simp only [Bool.false_eq_true, if_false, if_true]
      obtain ⟨i, hi⟩ := h.mem k hk (by simp [hc])
      have i0 : i = 0 := by
        cases i with
        | zero => rfl
        | succ j => have := (h.rest j k hi).2; rw [hw] at this; cases this
      subst i0
      obtain ⟨r, rfl⟩ : ∃ r, q = k :: r := by
        match q with
        | [] => simp at hi
        | x :: r => simp at hi; exact ⟨r, by rw [hi]⟩
      have hr : ∀ x ∈ r, x ≠ k := fun x hx y => by
        obtain ⟨j, hj⟩ := mem_at hx
        have := h.nd 0 (j + 1) k rfl (by rw [List.getElem?_cons_succ]; exact y ▸ hj); omega
      have hs : rowOf (stepL D k) r = rowOf D r := rowOf_same fun x hx => by rw [hfar x (hr x hx)]
      unfold rowOf at hs ⊢
      rw [List.filter_cons, List.filter_cons, hs]
      simp [hc, e, hw]
  | p + 5, hc => omega
theorem alone_three (h : QInv D q) (hk : k < D.n) (h3 : (D.cl k).st = 3) (hN : Nice D) (hT : Took D T) : rowOf (stepL D k) (qstep D k q) = rowOf D q ∧ Took (stepL D k) T := by
  have K := hN.each k hk
  have k3 := K.s3
  obtain ⟨i, hi⟩ := h.mem k hk (.inr (.inr h3))
  obtain rfl := first_of h hi (by omega)
  obtain ⟨r, rfl⟩ : ∃ r, q = k :: r := by
    match q with
    | [] => simp at hi
    | x :: r => simp at hi; exact ⟨r, by rw [hi]⟩
  have hr : ∀ x ∈ r, x ≠ k := fun x hx y => by
    obtain ⟨j, hj⟩ := mem_at hx
    have := h.nd 0 (j + 1) k rfl (by rw [List.getElem?_cons_succ]; exact y ▸ hj); omega
  have hs : rowOf (stepL D k) r = rowOf D r := rowOf_same fun x hx => by rw [stepL_far D (hr x hx)]
  have ho : rowOf D (k :: r) = rowOf D r := by unfold rowOf; rw [List.filter_cons]; simp [h3]
  have hst : ((stepL D k).cl k).st ≠ 1 := by
    obtain ⟨s, p, o, hc⟩ : ∃ s p o, D.cl k = ⟨s, p, o⟩ := ⟨_, _, _, rfl⟩
    simp only [hc] at h3 k3
    subst h3
    unfold stepL
    have hp : p = 5 ∨ p = 6 ∨ p = 7 := by omega
    rcases hp with rfl | rfl | rfl
    · simp [hc, updF_same]
    · simp only [hc, updF_same]; split <;> simp
    · simp [hc, updF_same]
  refine ⟨?_, fun p hp hs1 => ?_⟩
  · rw [ho, ← hs]
    have hk2 : rowOf (stepL D k) (k :: r) = rowOf (stepL D k) r := by unfold rowOf; rw [List.filter_cons]; simp [hst]
    unfold qstep
    rw [if_neg (by have := k3 h3; omega)]
    split
    · rfl
    · exact hk2
  · by_cases e : p = k
    · subst e; exact absurd hs1 hst
    · rw [stepL_far D e] at hs1 ⊢; rw [stepL_n] at hp; exact hT p hp hs1
theorem alone_begT (h : QInv D q) (fr sp : Nat) (hf : fr = 0 ∧ sp = 0 ∨ fr = 2 ∧ sp = 5) (k : Int) : rowOf (begT D k fr sp) q = rowOf D q := by
  unfold begT
  split
  case isFalse => rfl
  case isTrue hc =>
    refine rowOf_same fun x hx => ?_
    obtain ⟨i, hi⟩ := mem_at hx
    by_cases e : x = k.toNat
    · subst e
      simp only [updF_same]
      have := (h.lt i _ hi).2
      omega
    · simp only [updF_other _ _ e]
theorem took_begT0 (hT : Took D T) (k : Nat) (hs : (D.cl k).st = 0) (hk : k < D.n) : Took (begT D k 0 0) (updF T k 0) := by
  intro p hp h1
  rw [begT_n] at hp
  have hb : begT D k 0 0 = { D with cl := updF D.cl k ⟨1, 0, 0⟩ } := by unfold begT; rw [if_pos ⟨by unfold isN; omega, by rw [Int.toNat_natCast]; exact hs⟩, Int.toNat_natCast]
  rw [hb] at h1 ⊢
  by_cases e : p = k
  · subst e; simp [updF_same]
  · simp only [updF_other _ _ e] at h1 ⊢; exact hT p hp h1
theorem took_begT2 (hT : Took D T) (k : Int) : Took (begT D k 2 5) T := by
  unfold begT
  split
  case isFalse => exact hT
  case isTrue hc =>
    intro p hp h1
    by_cases e : p = k.toNat
    · subst e; simp [updF_same] at h1
    · simp only [updF_other _ _ e] at h1 ⊢; exact hT p hp h1
theorem took_new (n : Nat) : Took (newL n) (fun _ => 0) := by intro p _ h; simp [newL] at h
/-- How many of the first are inside or giving. -/
def inN (D : Lk) : Nat → Nat
  | 0 => 0
  | i + 1 => inN D i + (if 2 ≤ stI D (i : Int) then 1 else 0)
theorem inN_le (h : QInv D q) (hN : Nice D) : ∀ m, inN D m ≤ 1 := by
  have uniq : ∀ a c : Nat, 2 ≤ stI D (a : Int) → 2 ≤ stI D (c : Int) → a = c := by
    have one : ∀ a : Nat, 2 ≤ stI D (a : Int) → q[0]? = some a := by
      intro a ha
      unfold stI at ha
      split at ha
      · rename_i hi
        rw [Int.toNat_natCast] at ha
        have hn : a < D.n := by unfold isN at hi; omega
        have hor : (D.cl a).st = 2 ∨ (D.cl a).st = 3 ∨ 4 ≤ (D.cl a).st := by omega
        rcases hor with x | x | x
        · obtain ⟨i, hi⟩ := h.mem a hn (.inr (.inl x))
          obtain rfl := first_of h hi (by omega)
          exact hi
        · obtain ⟨i, hi⟩ := h.mem a hn (.inr (.inr x))
          obtain rfl := first_of h hi (by omega)
          exact hi
        · exfalso; have := (hN.each a hn).st; omega
      · omega
    intro a c ha hc
    have := (one a ha).symm.trans (one c hc)
    exact Option.some.inj this
  intro m
  have key : ∀ m, inN D m ≤ 1 ∧ (inN D m = 1 → ∃ a, a < m ∧ 2 ≤ stI D (a : Int)) := by
    intro m
    induction m with
    | zero => exact ⟨by simp [inN], by simp [inN]⟩
    | succ i ih =>
      simp only [inN]
      by_cases e : 2 ≤ stI D (i : Int)
      · rw [if_pos e]
        have : inN D i = 0 := by
          rcases Nat.eq_zero_or_pos (inN D i) with z | z
          · exact z
          · obtain ⟨a, ha, hs⟩ := ih.2 (by omega)
            have := uniq a i hs e; omega
        exact ⟨by omega, fun _ => ⟨i, by omega, e⟩⟩
      · rw [if_neg e]
        exact ⟨by omega, fun x => by obtain ⟨a, ha, hs⟩ := ih.2 (by omega); exact ⟨a, by omega, hs⟩⟩
  exact (key m).1
end
end Go.Proofs.Ytckdabokaelnoaa
