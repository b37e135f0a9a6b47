/- layer 33 (fair), plain: a round of workers, none twice: its steps, its window. -/
import Derived.Test.YtogplndhciaoeaaFl
namespace Go.Proofs.Ytogplndhciaoeaa

/-- m steps from place i on, of the workers by turns. -/
def roundS (cpus : List Int) (i m : Nat) : List En := (List.range' i m).map fun i => ⟨1, cpus.getD (i % cpus.length) 0, 0, 0, 0⟩
theorem roundL_S (cpus : List Int) (n : Nat) : roundL cpus n = roundS cpus 0 n := by unfold roundL roundS; rw [List.range_eq_range']
theorem roundS_cons (cpus : List Int) (i m : Nat) : roundS cpus i (m + 1) = ⟨1, cpus.getD (i % cpus.length) 0, 0, 0, 0⟩ :: roundS cpus (i + 1) m := rfl
/-- none is twice. -/
def Once (cpus : List Int) : Prop := ∀ i j, (hij : i < j) → (hj : j < cpus.length) → cpus[j] ≠ cpus[i]'(by omega)
theorem isS_round {cpus : List Int} (h : Once cpus) {j : Nat} (hj : j < cpus.length) (i : Nat) : isS cpus[j] ⟨1, cpus.getD (i % cpus.length) 0, 0, 0, 0⟩ = decide (i % cpus.length = j) := by
  have hi : i % cpus.length < cpus.length := Nat.mod_lt _ (by omega)
  unfold isS
  rw [List.getD_eq_getElem?_getD, List.getElem?_eq_getElem hi]
  simp only [Option.getD_some, decide_true, Bool.true_and]
  by_cases c : i % cpus.length = j
  · subst c; simp
  · rw [decide_eq_false c]
    refine decide_eq_false fun e => ?_
    rcases Nat.lt_or_gt_of_ne c with c | c
    · exact h _ _ c hj e.symm
    · exact h _ _ c hi e
theorem mod_succ (n c : Nat) (hc : 0 < c) : (n % c + 1 < c ∧ (n + 1) / c = n / c ∧ (n + 1) % c = n % c + 1) ∨ (n % c + 1 = c ∧ (n + 1) / c = n / c + 1 ∧ (n + 1) % c = 0) := by
  have h1 := Nat.mod_add_div n c
  have h2 := Nat.mod_lt n hc
  generalize n % c = r at *
  generalize n / c = q at *
  subst h1
  by_cases hr : r + 1 < c
  · left
    refine ⟨hr, ?_, ?_⟩
    · rw [show r + c * q + 1 = (r + 1) + c * q by omega, Nat.add_mul_div_left _ _ hc, Nat.div_eq_of_lt hr]; omega
    · rw [show r + c * q + 1 = (r + 1) + c * q by omega, Nat.add_mul_mod_self_left, Nat.mod_eq_of_lt hr]
  · right
    have e : r + 1 = c := by omega
    refine ⟨e, ?_, ?_⟩
    · rw [show r + c * q + 1 = (r + 1) + c * q by omega, Nat.add_mul_div_left _ _ hc, e, Nat.div_self hc]; omega
    · rw [show r + c * q + 1 = (r + 1) + c * q by omega, Nat.add_mul_mod_self_left, e, Nat.mod_self]
theorem count_round {cpus : List Int} (h : Once cpus) {j : Nat} (hj : j < cpus.length) : ∀ n, (roundL cpus n).countP (isS cpus[j]) = n / cpus.length + if j < n % cpus.length then 1 else 0
  | 0 => by simp [roundL]
  | n + 1 => by
    rw [roundL_succ, countS_snoc, count_round h hj n, isS_round h hj n]
    have hm := Nat.mod_lt n (show 0 < cpus.length by omega)
    rcases mod_succ n cpus.length (by omega) with ⟨h1, h2, h3⟩ | ⟨h1, h2, h3⟩
    · rw [h2, h3]
      by_cases c : n % cpus.length = j
      · rw [if_pos (decide_eq_true c), if_neg (by omega), if_pos (by omega)]
      · rw [if_neg (show ¬ decide (n % cpus.length = j) = true by simpa using c)]
        by_cases d : j < n % cpus.length
        · rw [if_pos d, if_pos (by omega)]
        · rw [if_neg d, if_neg (by omega)]
    · rw [h2, h3]
      by_cases c : n % cpus.length = j
      · rw [if_pos (decide_eq_true c), if_neg (by omega), if_neg (by omega)]
      · rw [if_neg (show ¬ decide (n % cpus.length = j) = true by simpa using c), if_pos (by omega), if_neg (by omega)]
/-- A ROUND IS EVEN. -/
theorem even_round {cpus : List Int} (h : Once cpus) (n : Nat) : evenL (stepsL (roundL cpus n) cpus) := by
  rw [evenL_iff]
  intro x hx y hy
  have key : ∀ z ∈ stepsL (roundL cpus n) cpus, ((n / cpus.length : Nat) : Int) ≤ z ∧ z ≤ ((n / cpus.length : Nat) : Int) + 1 := fun z hz => by
    obtain ⟨c, hc, rfl⟩ := List.mem_map.1 hz
    obtain ⟨j, hj, rfl⟩ := List.mem_iff_getElem.1 hc
    rw [count_round h hj n]
    split <;> omega
  have := key x hx; have := key y hy; omega
/-- NO GAP IS AS LONG AS THE ROUND. -/
theorem gap_round_le {cpus : List Int} (h : Once cpus) {j : Nat} (hj : j < cpus.length) : ∀ m i g, ((g = i ∧ i ≤ j) ∨ (∃ t, i = j + 1 + cpus.length * t + g ∧ g ≤ cpus.length - 1)) → ∀ x ∈ gapsF cpus[j] (roundS cpus i m) g, x ≤ cpus.length - 1
  | 0, i, g, hg, x, hx => by
    simp [roundS, gapsF] at hx
    omega
  | m + 1, i, g, hg, x, hx => by
    rw [roundS_cons, gapsF_cons, isS_round h hj] at hx
    by_cases c : i % cpus.length = j
    · rw [if_pos (decide_eq_true c)] at hx
      rcases List.mem_cons.1 hx with rfl | hx
      · omega
      · refine gap_round_le h hj m (i + 1) 0 (.inr ⟨i / cpus.length, ?_, by omega⟩) x hx
        have := Nat.mod_add_div i cpus.length
        rw [c] at this; omega
    · rw [if_neg (show ¬ decide (i % cpus.length = j) = true by simpa using c)] at hx
      refine gap_round_le h hj m (i + 1) (g + 1) ?_ x hx
      rcases hg with ⟨rfl, hi⟩ | ⟨t, e, hg⟩
      · left
        refine ⟨rfl, ?_⟩
        by_cases d : g = j
        · subst d; exact absurd (Nat.mod_eq_of_lt hj) c
        · omega
      · right
        refine ⟨t, by omega, ?_⟩
        by_cases d : g = cpus.length - 1
        · exfalso
          apply c
          have e' : i = j + cpus.length * (t + 1) := by rw [Nat.mul_add]; omega
          rw [e', Nat.add_mul_mod_self_left, Nat.mod_eq_of_lt hj]
        · omega
/-- the first gap of the one at place j is j. -/
theorem gap_round_first {cpus : List Int} (h : Once cpus) {j : Nat} (hj : j < cpus.length) : ∀ d m i, i + d = j → d < m → j ∈ gapsF cpus[j] (roundS cpus i m) i
  | d, 0, i, _, hd => absurd hd (by omega)
  | 0, m + 1, i, e, _ => by
    have : i = j := by omega
    subst this
    rw [roundS_cons, gapsF_cons, isS_round h hj, if_pos (decide_eq_true (Nat.mod_eq_of_lt hj))]; simp
  | d + 1, m + 1, i, e, hd => by
    rw [roundS_cons, gapsF_cons, isS_round h hj, if_neg (show ¬ decide (i % cpus.length = j) = true by rw [Nat.mod_eq_of_lt (by omega)]; simp; omega)]
    exact gap_round_first h hj d m (i + 1) (by omega) (by omega)
theorem foldl_max_ge : ∀ (l : List Nat) (m : Nat), m ≤ l.foldl max m ∧ ∀ x ∈ l, x ≤ l.foldl max m
  | [], m => ⟨Nat.le_refl _, fun x hx => by cases hx⟩
  | x :: r, m => by
    obtain ⟨h1, h2⟩ := foldl_max_ge r (max m x)
    refine ⟨by rw [List.foldl_cons]; omega, fun y hy => ?_⟩
    rw [List.foldl_cons]
    rcases List.mem_cons.1 hy with rfl | hy
    · omega
    · exact h2 y hy
theorem mostL_ge {l : List Nat} {x : Nat} (h : x ∈ l) : x ≤ mostL l := (foldl_max_ge l 0).2 x h
/-- A ROUND'S WINDOW IS HOW MANY THEY ARE, IF IT IS AS LONG. -/
theorem window_round {cpus : List Int} (h : Once cpus) (h0 : 0 < cpus.length) (n : Nat) (hn : cpus.length ≤ n) : gapM (roundL cpus n) cpus + 1 = cpus.length := by
  have h1 : gapM (roundL cpus n) cpus ≤ cpus.length - 1 := mostL_le fun x hx => by
    obtain ⟨c, hc, rfl⟩ := List.mem_map.1 hx
    obtain ⟨j, hj, rfl⟩ := List.mem_iff_getElem.1 hc
    refine mostL_le fun y hy => ?_
    rw [roundL_S] at hy
    exact gap_round_le h hj n 0 0 (.inl ⟨rfl, Nat.zero_le _⟩) y hy
  have h2 : cpus.length - 1 ≤ gapM (roundL cpus n) cpus := by
    have hj : cpus.length - 1 < cpus.length := by omega
    refine Nat.le_trans ?_ (mostL_ge (List.mem_map.2 ⟨cpus[cpus.length - 1], List.getElem_mem _, rfl⟩))
    refine mostL_ge ?_
    rw [roundL_S]
    exact gap_round_first h hj (cpus.length - 1) n 0 (by omega) (by omega)
  omega
end Go.Proofs.Ytogplndhciaoeaa
