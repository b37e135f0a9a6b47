/- What Burst and Regen leave, entry by entry; whom Regen tells (layer 13, plainly). -/
import Derived.Test.YtekahmfchpgmfaaZu
namespace Go.Proofs.Ytekahmfchpgmfaa
open Go.RowKit

theorem selI_before (ask : Nat → Bool) (i : Nat) (h : ∀ n, ask n = true → i ≤ n) : ∀ k, k ≤ i → selI ask k = []
  | 0, _ => rfl
  | k + 1, hk => by
    rw [selI_succ, selI_before ask i h k (by omega)]
    cases ha : ask k with
    | false => rfl
    | true => have := h k ha; omega
theorem selI_first (ask : Nat → Bool) (i : Nat) (h : ∀ n, ask n = true → i ≤ n) (hi : ask i = true) : ∀ k, i < k → selI ask k = (i : Int) :: selI (fun n => !(n == i) && ask n) k
  | 0, hk => by omega
  | k + 1, hk => by
    have h' : ∀ n, (!(n == i) && ask n) = true → i ≤ n := fun n hn => by
      rw [Bool.and_eq_true] at hn
      exact h n hn.2
    rw [selI_succ, selI_succ]
    by_cases e : k = i
    · subst e
      rw [hi, selI_before ask k h k (Nat.le_refl _), selI_before _ k h' k (Nat.le_refl _)]
      simp
    · rw [selI_first ask i h hi k (by omega)]
      have : (k == i) = false := by simpa using e
      rw [this]
      cases ask k <;> simp
/-- Each of those below k of which it is true is turned, the others not. -/
theorem putOwn_at (bs : List Bub) (home : Int) (ask : Nat → Bool) (j : Nat) : ∀ k, k ≤ bs.length → (putOwn bs home (selI ask k))[j]? = if j < k ∧ ask j = true then (bs[j]?).map (fun x => { x with state := 3, home := home }) else bs[j]?
  | 0, _ => by rw [if_neg (by omega)]; rfl
  | k + 1, hk => by
    have ih := putOwn_at bs home ask j k (by omega)
    rw [selI_succ]
    cases ha : ask k with
    | false =>
      simp only [Bool.false_eq_true, ↓reduceIte]
      rw [ih]
      by_cases e : j = k
      · subst e; rw [if_neg (by omega), if_neg (by rw [ha]; simp)]
      · by_cases hj : j < k ∧ ask j = true
        · rw [if_pos hj, if_pos ⟨by omega, hj.2⟩]
        · rw [if_neg hj, if_neg (fun q => hj ⟨by omega, q.2⟩)]
    | true =>
      simp only [↓reduceIte]
      rw [putOwn_app, show (k : Int).toNat = k by omega]
      have ihk := putOwn_at bs home ask k k (by omega)
      rw [if_neg (by omega)] at ihk
      obtain ⟨x, hx⟩ : ∃ x, bs[k]? = some x := ⟨_, List.getElem?_eq_getElem (by omega)⟩
      rw [hx] at ihk
      rw [atB_of ihk]
      by_cases e : j = k
      · subst e
        rw [if_pos ⟨by omega, ha⟩, hx, List.getElem?_set_self (List.getElem?_eq_some_iff.1 ihk).1]; rfl
      · rw [List.getElem?_set_ne (fun q => e q.symm), ih]
        by_cases hj : j < k ∧ ask j = true
        · rw [if_pos hj, if_pos ⟨by omega, hj.2⟩]
        · rw [if_neg hj, if_neg (fun q => hj ⟨by omega, q.2⟩)]
theorem sealOwn_at (bs : List Bub) (ask : Nat → Bool) (j : Nat) : ∀ k, k ≤ bs.length → (sealOwn bs (selI ask k))[j]? = if j < k ∧ ask j = true then (bs[j]?).map (fun x => { x with state := 2 }) else bs[j]?
  | 0, _ => by rw [if_neg (by omega)]; rfl
  | k + 1, hk => by
    have ih := sealOwn_at bs ask j k (by omega)
    rw [selI_succ]
    cases ha : ask k with
    | false =>
      simp only [Bool.false_eq_true, ↓reduceIte]
      rw [ih]
      by_cases e : j = k
      · subst e; rw [if_neg (by omega), if_neg (by rw [ha]; simp)]
      · by_cases hj : j < k ∧ ask j = true
        · rw [if_pos hj, if_pos ⟨by omega, hj.2⟩]
        · rw [if_neg hj, if_neg (fun q => hj ⟨by omega, q.2⟩)]
    | true =>
      simp only [↓reduceIte]
      rw [sealOwn_app, show (k : Int).toNat = k by omega]
      have ihk := sealOwn_at bs ask k k (by omega)
      rw [if_neg (by omega)] at ihk
      obtain ⟨x, hx⟩ : ∃ x, bs[k]? = some x := ⟨_, List.getElem?_eq_getElem (by omega)⟩
      rw [hx] at ihk
      rw [atB_of ihk]
      by_cases e : j = k
      · subst e
        rw [if_pos ⟨by omega, ha⟩, hx, List.getElem?_set_self (List.getElem?_eq_some_iff.1 ihk).1]; rfl
      · rw [List.getElem?_set_ne (fun q => e q.symm), ih]
        by_cases hj : j < k ∧ ask j = true
        · rw [if_pos hj, if_pos ⟨by omega, hj.2⟩]
        · rw [if_neg hj, if_neg (fun q => hj ⟨by omega, q.2⟩)]
/-- What lies in a bubble was made behind it. -/
theorem inside_le {bs : List Bub} (hI : InvB bs) {n : Nat} {b : Int} (h : insideP bs (n : Int) b = true) : b ≤ (n : Int) := by
  unfold insideP at h
  exact (way_in hI _ (n : Int) (Nat.le_refl _) b (by simpa using h)).2.1
theorem inside_self {bs : List Bub} (hI : InvB bs) {i : Nat} {x : Bub} (hx : bs[i]? = some x) : insideP bs (i : Int) (i : Int) = true := by
  unfold insideP; rw [way_yes hI hx]; simp
/-- Regen tells the bubble first, and then the others. -/
theorem regenO_first {bs : List Bub} (hI : InvB bs) {i : Nat} {x : Bub} (hx : bs[i]? = some x) (hs : x.state = 4) : regenO bs (i : Int) = (i : Int) :: selI (fun n => !(n == i) && inAsk bs (i : Int) n) bs.length := by
  refine selI_first _ i (fun n hn => ?_) ?_ _ (List.getElem?_eq_some_iff.1 hx).1
  · unfold inAsk at hn
    rw [Bool.and_eq_true] at hn
    have := inside_le hI hn.1
    omega
  · unfold inAsk
    rw [inside_self hI hx, atB_of hx, hs]; rfl
end Go.Proofs.Ytekahmfchpgmfaa
