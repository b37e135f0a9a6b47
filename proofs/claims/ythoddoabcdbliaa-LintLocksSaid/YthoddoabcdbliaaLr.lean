/- What can be come to (layer 26), told plainly; how lint.reach finds it. -/
import Derived.Test.YthoddoabcdbliaaLp
namespace Go.Proofs.Ythoddoabcdbliaa

/-- The places that can be come to. -/
inductive Rch (l : List I4) : Nat → Prop
  | zero : Rch l 0
  | step {k j : Nat} {x : I4} : Rch l k → l[k]? = some x → (j : Int) ∈ nextP x k → Rch l j
/-- Been at S, still to go to P. -/
structure RInv (l : List I4) (S : Nat → Bool) (P : Nat → Prop) : Prop where
  sub : ∀ k, S k = true → Rch l k
  pen : ∀ k, P k → Rch l k
  zero : S 0 = true ∨ P 0
  clo : ∀ (k : Nat) (x : I4) (j : Nat), S k = true → l[k]? = some x → (j : Int) ∈ nextP x k → S j = true ∨ P j
theorem RInv.start (l : List I4) : RInv l (fun _ => false) (fun j => j = 0) :=
  ⟨fun _ h => (by cases h), fun k h => (by subst h; exact .zero), .inr rfl, fun _ _ _ h => (by cases h)⟩
theorem RInv.weak {l : List I4} {S : Nat → Bool} {P Q : Nat → Prop} (h : RInv l S P) (h1 : ∀ j, P j → S j = true ∨ Q j) (h2 : ∀ j, Q j → P j) : RInv l S Q :=
  ⟨h.sub, fun k hk => h.pen k (h2 k hk), h.zero.elim .inl (h1 0), fun k x j a b c => (h.clo k x j a b c).elim .inl (h1 j)⟩
theorem RInv.next {l : List I4} {S : Nat → Bool} {P Q : Nat → Prop} {k : Nat} {x : I4} (h : RInv l S P) (hx : l[k]? = some x) (hk : P k) (h1 : ∀ j, P j → j = k ∨ Q j) (h2 : ∀ j : Nat, (j : Int) ∈ nextP x k → Q j) (h3 : ∀ j : Nat, Q j → P j ∨ (j : Int) ∈ nextP x k) :
    RInv l (fun n => S n || decide (n = k)) Q := by
  have hr := h.pen k hk
  refine ⟨fun j hj => ?_, fun j hj => ?_, ?_, fun a y j ha hy hj => ?_⟩
  · rcases Bool.or_eq_true_iff.1 hj with q | q
    · exact h.sub j q
    · obtain rfl := of_decide_eq_true q; exact hr
  · rcases h3 j hj with q | q
    · exact h.pen j q
    · exact .step hr hx q
  · rcases h.zero with q | q
    · exact .inl (by simp [q])
    · rcases h1 0 q with e | e
      · exact .inl (by simp [e])
      · exact .inr e
  · rcases Bool.or_eq_true_iff.1 ha with q | q
    · rcases h.clo a y j q hy hj with e | e
      · exact .inl (by simp [e])
      · rcases h1 j e with e' | e'
        · exact .inl (by simp [e'])
        · exact .inr e'
    · obtain rfl := of_decide_eq_true q
      obtain rfl := Option.some.inj (hx.symm.trans hy)
      exact .inr (h2 j hj)
theorem RInv.done {l : List I4} {S : Nat → Bool} (h : RInv l S (fun _ => False)) (k : Nat) : S k = true ↔ Rch l k := by
  refine ⟨h.sub k, fun hr => ?_⟩
  induction hr with
  | zero => exact h.zero.elim id False.elim
  | step _ hx hj ih => exact (h.clo _ _ _ ih hx hj).elim id False.elim
/-- How many of the first ones. -/
def cnt (p : Nat → Bool) : Nat → Nat
  | 0 => 0
  | k + 1 => cnt p k + if p k then 1 else 0
theorem cnt_le (p : Nat → Bool) (k : Nat) : cnt p k ≤ k := by
  induction k with
  | zero => exact Nat.le_refl _
  | succ k ih => rw [cnt]; split <;> omega
theorem cnt_congr {p q : Nat → Bool} (k : Nat) (h : ∀ n, n < k → p n = q n) : cnt p k = cnt q k := by
  induction k with
  | zero => rfl
  | succ k ih => rw [cnt, cnt, ih (fun n hn => h n (by omega)), h k (by omega)]
theorem cnt_false (N : Nat) : cnt (fun _ => false) N = 0 := by
  induction N with
  | zero => rfl
  | succ N ih => rw [cnt, ih]; rfl
theorem cnt_put (p : Nat → Bool) {k N : Nat} (hk : k < N) (h : p k = false) : cnt (fun n => p n || decide (n = k)) N = cnt p N + 1 := by
  induction N with
  | zero => omega
  | succ N ih =>
    rw [cnt, cnt]
    by_cases e : k = N
    · subst e
      rw [cnt_congr (q := p) k (fun n hn => by simp; omega)]
      simp [h]
    · rw [ih (by omega)]
      have : decide (N = k) = false := by simp; omega
      simp only [this, Bool.or_false]; omega
end Go.Proofs.Ythoddoabcdbliaa
