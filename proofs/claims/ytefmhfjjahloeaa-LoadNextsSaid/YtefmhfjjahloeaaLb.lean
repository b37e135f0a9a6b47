/- The first of the greatest, and of the least, plainly (layer 15): found one by one, and by definition. -/
import Derived.Test.YtefmhfjjahloeaaLa
namespace Go.Proofs.Ytefmhfjjahloeaa

/-- A load among n ones, of a number; 0 if there is none. -/
def atI (z : Nat → Int) (n : Nat) (d : Int) : Int := if d < 0 ∨ (n : Int) ≤ d then 0 else z d.toNat
/-- The first of the greatest among the first m and one. -/
def best (f : Nat → Int) : Nat → Nat
  | 0 => 0
  | m + 1 => if f (best f m) < f (m + 1) then m + 1 else best f m
theorem best_all (f : Nat → Int) : ∀ m, best f m ≤ m ∧ (∀ j, j ≤ m → f j ≤ f (best f m)) ∧ (∀ j, j < best f m → f j < f (best f m))
  | 0 => ⟨Nat.le_refl _, fun j hj => by obtain rfl : j = 0 := by omega
                                        exact Int.le_refl _, fun j hj => by exact absurd hj (by show ¬ j < 0; omega)⟩
  | m + 1 => by
    obtain ⟨h1, h2, h3⟩ := best_all f m
    unfold best
    by_cases h : f (best f m) < f (m + 1)
    · rw [if_pos h]
      refine ⟨Nat.le_refl _, fun j hj => ?_, fun j hj => ?_⟩
      · by_cases e : j = m + 1
        · subst e; exact Int.le_refl _
        · have := h2 j (by omega); omega
      · have := h2 j (by omega); omega
    · rw [if_neg h]
      refine ⟨by omega, fun j hj => ?_, h3⟩
      by_cases e : j = m + 1
      · subst e; omega
      · exact h2 j (by omega)
/-- Is i's the greatest of the first k, and the first of these? -/
def mostB (f : Nat → Int) (i : Nat) : Nat → Bool
  | 0 => true
  | k + 1 => mostB f i k && !(decide (f i < f k) || decide (f k = f i) && decide (k < i))
theorem mostB_iff (f : Nat → Int) (i : Nat) : ∀ k, mostB f i k = true ↔ ∀ j, j < k → ¬ f i < f j ∧ ¬ (f j = f i ∧ j < i)
  | 0 => by simp [mostB]
  | k + 1 => by
    unfold mostB
    rw [Bool.and_eq_true, mostB_iff f i k]
    constructor
    · rintro ⟨h1, h2⟩ j hj
      by_cases e : j = k
      · subst e
        simp only [Bool.not_eq_true', Bool.or_eq_false_iff, decide_eq_false_iff_not, Bool.and_eq_false_imp, decide_eq_true_eq] at h2
        exact ⟨h2.1, fun q => h2.2 q.1 q.2⟩
      · exact h1 j (by omega)
    · intro h
      refine ⟨fun j hj => h j (by omega), ?_⟩
      have := h k (by omega)
      simp only [Bool.not_eq_true', Bool.or_eq_false_iff, decide_eq_false_iff_not, Bool.and_eq_false_imp, decide_eq_true_eq]
      exact ⟨this.1, fun a b => this.2 ⟨a, b⟩⟩
theorem mostB_best (f : Nat → Int) (n i : Nat) (hn : 0 < n) (hi : i < n) : mostB f i n = true ↔ i = best f (n - 1) := by
  obtain ⟨h1, h2, h3⟩ := best_all f (n - 1)
  rw [mostB_iff]
  constructor
  · intro h
    have a := h (best f (n - 1)) (by omega)
    have b := h2 i (by omega)
    by_cases e : i = best f (n - 1)
    · exact e
    · by_cases l : i < best f (n - 1)
      · have := h3 i l; omega
      · exact absurd ⟨by omega, by omega⟩ a.2
  · rintro rfl j hj
    have := h2 j (by omega)
    refine ⟨by omega, fun q => ?_⟩
    have := h3 j q.2; omega
/-- The last of the first m that are so. -/
def lastI (p : Nat → Bool) : Nat → Int
  | 0 => -1
  | m + 1 => if p m = true then (m : Int) else lastI p m
theorem lastI_one (p : Nat → Bool) (b : Nat) : ∀ m, (∀ i, i < m → (p i = true ↔ i = b)) → lastI p m = if b < m then (b : Int) else -1
  | 0, _ => by simp [lastI]
  | m + 1, h => by
    unfold lastI
    rw [lastI_one p b m (fun i hi => h i (by omega))]
    have := h m (by omega)
    by_cases e : p m = true
    · obtain rfl := this.1 e
      rw [if_pos e, if_pos (by omega)]
    · rw [if_neg e]
      have hb : ¬ m = b := fun q => e (this.2 q)
      by_cases q : b < m
      · rw [if_pos q, if_pos (by omega)]
      · rw [if_neg q, if_neg (by omega)]
theorem lastI_most (f : Nat → Int) (n : Nat) (hn : 0 < n) : lastI (fun i => mostB f i n) n = (best f (n - 1) : Int) := by
  rw [lastI_one _ (best f (n - 1)) n (fun i hi => mostB_best f n i hn hi), if_pos (by have := (best_all f (n - 1)).1; omega)]
/-- Below, by the same words turned round. -/
def nf (f : Nat → Int) : Nat → Int := fun i => - f i
/-- The greatest and the least are one: then all are. -/
theorem best_same (f : Nat → Int) (m : Nat) (h : f (best f m) = f (best (nf f) m)) : best f m = best (nf f) m := by
  obtain ⟨h1, h2, h3⟩ := best_all f m
  obtain ⟨k1, k2, k3⟩ := best_all (nf f) m
  have all : ∀ j, j ≤ m → f j = f (best f m) := fun j hj => by
    have a := h2 j hj
    have b : - f j ≤ - f (best (nf f) m) := k2 j hj
    omega
  have z1 : best f m = 0 := by
    by_cases q : 0 < best f m
    · have := h3 0 q; have := all 0 (by omega); omega
    · omega
  have z2 : best (nf f) m = 0 := by
    by_cases q : 0 < best (nf f) m
    · have c : - f 0 < - f (best (nf f) m) := k3 0 q
      have a := all 0 (by omega)
      have b := all (best (nf f) m) k1
      omega
    · omega
  omega
/-- What Skew tells: of the numbers K that stand in a row of n, by f. -/
def skewR (f : Nat → Int) (K : Nat → Int) (n : Nat) : Int × Int × Bool :=
  if n = 0 then (0, 0, false) else if f (best f (n - 1)) = f (best (nf f) (n - 1)) then (0, 0, false) else (K (best f (n - 1)), K (best (nf f) (n - 1)), true)
end Go.Proofs.Ytefmhfjjahloeaa
