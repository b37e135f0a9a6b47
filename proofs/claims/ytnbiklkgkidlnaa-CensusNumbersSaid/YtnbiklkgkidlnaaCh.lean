/- layer 35 (census): what stands at a place, if all stood in order: plain. -/
import Derived.Test.YtnbiklkgkidlnaaCg
namespace Go.Proofs.Ytnbiklkgkidlnaa

def isLt (x : Int) : Int → Bool := fun y => decide (y < x)
def isEq (x : Int) : Int → Bool := fun y => decide (y = x)
def isLe (x : Int) : Int → Bool := fun y => decide (y ≤ x)
/-- how many of the first k are less, or alike and ahead of place i. -/
def lessK (l : List Int) (x : Int) (i k : Nat) : Nat := (l.take k).countP (isLt x) + (l.take (min k i)).countP (isEq x)
def rankL (l : List Int) (i : Nat) : Nat := lessK l (l.getD i 0) i l.length
theorem lessK_le (l : List Int) (x : Int) (i k : Nat) : lessK l x i k ≤ k + k := by
  unfold lessK
  have h1 := List.countP_le_length (p := isLt x) (l := l.take k)
  have h2 := List.countP_le_length (p := isEq x) (l := l.take (min k i))
  rw [List.length_take] at h1 h2
  omega
theorem lessK_step (l : List Int) (x : Int) (i k : Nat) (hk : k < l.length) : lessK l x i (k + 1) = lessK l x i k + if l[k] < x ∨ (l[k] = x ∧ k < i) then 1 else 0 := by
  unfold lessK
  rw [List.take_succ_eq_append_getElem hk, List.countP_append]
  have e1 : List.countP (isLt x) [l[k]] = if l[k] < x then 1 else 0 := by simp [isLt, List.countP_cons]
  rw [e1]
  by_cases hi : k < i
  · rw [show min (k + 1) i = k + 1 by omega, show min k i = k by omega, List.take_succ_eq_append_getElem hk, List.countP_append]
    have e2 : List.countP (isEq x) [l[k]] = if l[k] = x then 1 else 0 := by simp [isEq, List.countP_cons]
    rw [e2]
    by_cases a : l[k] < x
    · rw [if_pos a, if_neg (by omega), if_pos (.inl a)]; omega
    · rw [if_neg a]
      by_cases b : l[k] = x
      · rw [if_pos b, if_pos (.inr ⟨b, hi⟩)]; omega
      · rw [if_neg b, if_neg (by rintro (h | h); exact a h; exact b h.1)]; omega
  · rw [show min (k + 1) i = i by omega, show min k i = i by omega]
    by_cases a : l[k] < x
    · rw [if_pos a, if_pos (.inl a)]; omega
    · rw [if_neg a, if_neg (by rintro (h | h); exact a h; exact hi h.2)]; omega
theorem countP_few {s : List Int} {p : Int → Bool} {k : Nat} (h : ∀ j (hj : j < s.length), k ≤ j → p s[j] = false) : s.countP p ≤ k := by
  rw [← List.take_append_drop k s, List.countP_append]
  have h2 : (s.drop k).countP p = 0 := List.countP_eq_zero.2 fun y hy => by
    obtain ⟨j, hj, rfl⟩ := List.mem_iff_getElem.1 hy
    rw [List.getElem_drop]
    rw [List.length_drop] at hj
    simp [h (k + j) (by omega) (by omega)]
  have h1 := List.countP_le_length (p := p) (l := s.take k)
  rw [List.length_take] at h1
  omega
theorem countP_many {s : List Int} {p : Int → Bool} {k : Nat} (hk : k ≤ s.length) (h : ∀ j (hj : j < s.length), j < k → p s[j] = true) : k ≤ s.countP p := by
  rw [← List.take_append_drop k s, List.countP_append]
  have h1 : (s.take k).countP p = (s.take k).length := List.countP_eq_length.2 fun y hy => by
    obtain ⟨j, hj, rfl⟩ := List.mem_iff_getElem.1 hy
    rw [List.length_take] at hj
    rw [List.getElem_take]
    exact h j (by omega) (by omega)
  rw [List.length_take] at h1
  omega
theorem countP_split (l : List Int) (x : Int) : l.countP (isLe x) = l.countP (isLt x) + l.countP (isEq x) := by
  induction l with
  | nil => rfl
  | cons y t ih =>
    rw [List.countP_cons, List.countP_cons, List.countP_cons, ih]
    unfold isLe isLt isEq
    by_cases a : y < x
    · simp [a, show y ≤ x by omega, show ¬ y = x by omega]; omega
    · by_cases b : y = x
      · simp [b]; omega
      · simp [a, b, show ¬ y ≤ x by omega]
/-- those less than a number are ahead of it, and those at most it reach to it. -/
theorem place_ahead (l : List Int) {j : Nat} (hj : j < (sortL l).length) : l.countP (isLt (sortL l)[j]) ≤ j ∧ j < l.countP (isLt (sortL l)[j]) + l.countP (isEq (sortL l)[j]) := by
  rw [← countP_split, ← (sortL_perm l).countP_eq, ← (sortL_perm l).countP_eq]
  constructor
  · refine countP_few fun i hi hij => ?_
    have := sortL_mono l hij hi
    unfold isLt; simp; omega
  · have := countP_many (s := sortL l) (p := isLe (sortL l)[j]) (k := j + 1) (by omega) fun i hi hij => by
      have := sortL_mono l (show i ≤ j by omega) hj
      unfold isLe; simp; omega
    omega
theorem take_lt (l : List Int) (i : Nat) (hi : i < l.length) : (l.take i).countP (isEq l[i]) < l.countP (isEq l[i]) := by
  have h : l.countP (isEq l[i]) = (l.take i).countP (isEq l[i]) + (l.drop i).countP (isEq l[i]) := by rw [← List.countP_append, List.take_append_drop]
  have h2 : (l.drop i).countP (isEq l[i]) = (l.drop (i + 1)).countP (isEq l[i]) + 1 := by
    conv => lhs; rw [List.drop_eq_getElem_cons hi]
    rw [List.countP_cons]; simp [isEq]
  omega
theorem rank_eq (l : List Int) (i : Nat) (hi : i < l.length) : rankL l i = l.countP (isLt l[i]) + (l.take i).countP (isEq l[i]) := by
  unfold rankL lessK
  rw [List.getD_eq_getElem?_getD, List.getElem?_eq_getElem hi]
  show List.countP (isLt l[i]) _ + _ = _
  rw [List.take_length, show min l.length i = i by omega]; rfl
/-- whose rank is a place stands there. -/
theorem rank_stands {l : List Int} {i : Nat} (hi : i < l.length) (hp : rankL l i < (sortL l).length) : (sortL l)[rankL l i] = l[i] := by
  obtain ⟨x, hx⟩ : ∃ x, l[i] = x := ⟨_, rfl⟩
  have hr := rank_eq l i hi
  have ht := take_lt l i hi
  rw [hx] at hr ht ⊢
  obtain ⟨p, hp'⟩ : ∃ p, rankL l i = p := ⟨_, rfl⟩
  simp only [hp'] at hr hp ⊢
  have h1 : l.countP (isLt x) ≤ p := by omega
  have h2 : p < l.countP (isLe x) := by rw [countP_split]; omega
  rw [← (sortL_perm l).countP_eq] at h1 h2
  by_cases a : (sortL l)[p] < x
  · have := countP_many (s := sortL l) (p := isLt x) (k := p + 1) (by omega) fun j hj hjp => by
      have := sortL_mono l (show j ≤ p by omega) hp
      unfold isLt; simp; omega
    omega
  · by_cases b : x < (sortL l)[p]
    · have := countP_few (s := sortL l) (p := isLe x) (k := p) fun j hj hjp => by
        have := sortL_mono l hjp hj
        unfold isLe; simp; omega
      omega
    · omega
theorem occurs (x : Int) : ∀ (l : List Int) (e : Nat), e < l.countP (isEq x) → ∃ i, ∃ hi : i < l.length, l[i] = x ∧ (l.take i).countP (isEq x) = e
  | [], e, h => absurd h (by simp)
  | y :: t, e, h => by
    rw [List.countP_cons] at h
    by_cases hy : y = x
    · subst hy
      match e with
      | 0 => exact ⟨0, by simp, rfl, rfl⟩
      | e + 1 =>
        have h' : e < t.countP (isEq y) := by
          have : isEq y y = true := by simp [isEq]
          rw [if_pos this] at h; omega
        obtain ⟨i, hi, h1, h2⟩ := occurs y t e h'
        refine ⟨i + 1, by simp; omega, h1, ?_⟩
        rw [List.take_succ_cons, List.countP_cons, h2]; simp [isEq]
    · have hf : isEq x y = false := by simp [isEq, hy]
      rw [hf] at h
      obtain ⟨i, hi, h1, h2⟩ := occurs x t e (by simpa using h)
      refine ⟨i + 1, by simp; omega, h1, ?_⟩
      rw [List.take_succ_cons, List.countP_cons, h2, hf]; simp
/-- each place is somebody's rank. -/
theorem rank_found (l : List Int) {p : Nat} (hp : p < l.length) : ∃ i, i < l.length ∧ rankL l i = p := by
  have hp' : p < (sortL l).length := by rw [sortL_len]; exact hp
  obtain ⟨h1, h2⟩ := place_ahead l hp'
  generalize (sortL l)[p] = x at *
  obtain ⟨i, hi, rfl, h3⟩ := occurs x l (p - l.countP (isLt x)) (by omega)
  exact ⟨i, hi, by rw [rank_eq l i hi, h3]; omega⟩
end Go.Proofs.Ytnbiklkgkidlnaa
