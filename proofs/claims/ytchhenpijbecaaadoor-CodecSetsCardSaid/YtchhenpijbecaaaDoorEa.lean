/- layer 31 (codec): plain facts of sets as rows of neighbours. -/
import Derived.Test.YtchhenpijbecaaaDoorCh
import Derived.Test.YtchhenpijbecaaaDoorCs
namespace Go.Proofs.YtchhenpijbecaaaDoor
open Go.RowKit
set_option maxRecDepth 100000

/-- the set of rows of neighbours: how many are left out ahead of each, and how many it has but one. -/
def setP : Nat → List (Nat × Nat) → Nat → Bool
  | _, [], _ => false
  | m, (a, b) :: r, n => decide (m + a ≤ n ∧ n ≤ m + a + b) || setP (m + a + b + 2) r n
def okP : Nat → List (Nat × Nat) → Prop
  | _, [] => True
  | m, (a, b) :: r => m + a + b < 1024 ∧ okP (m + a + b + 2) r
def flatI : List (Nat × Nat) → List Int
  | [] => []
  | (a, b) :: r => (a : Int) :: (b : Int) :: flatI r
theorem flatI_len (L : List (Nat × Nat)) : (flatI L).length = 2 * L.length := by
  induction L with
  | nil => rfl
  | cons x r ih => obtain ⟨a, b⟩ := x; simp [flatI, ih]; omega
theorem flatI_app (L M : List (Nat × Nat)) : flatI (L ++ M) = flatI L ++ flatI M := by
  induction L with
  | nil => rfl
  | cons x r ih => obtain ⟨a, b⟩ := x; simp [flatI, ih]
theorem setP_lo (L : List (Nat × Nat)) : ∀ m n, n < m → setP m L n = false := by
  induction L with
  | nil => intro m n _; rfl
  | cons x r ih =>
    obtain ⟨a, b⟩ := x
    intro m n h
    rw [setP, ih _ _ (by omega), Bool.or_false, decide_eq_false (by omega)]
theorem okP_len (L : List (Nat × Nat)) : ∀ m, okP m L → L ≠ [] → m + 2 * L.length ≤ 1025 := by
  induction L with
  | nil => intro m _ h; exact absurd rfl h
  | cons x r ih =>
    obtain ⟨a, b⟩ := x
    intro m h _
    rw [okP] at h
    by_cases hr : r = []
    · subst hr; simp; omega
    · have := ih _ h.2 hr; simp; omega
theorem rowEnd_one {p : Nat → Bool} {i e e' : Nat} (h : RowEnd p i e) (h' : RowEnd p i e') : e = e' := by
  have key : ∀ {e e' : Nat}, RowEnd p i e → RowEnd p i e' → ¬ e < e' := fun {e e'} h h' hlt => by
    have h1 := h'.2.2.1 (e + 1) (by have := h.1; omega) (by omega)
    have h2 := h.2.2.2
    have := hasP_yes p (e + 1) (by have := h'.2.1; omega)
    rw [show ((e + 1 : Nat) : Int) = (e : Int) + 1 by omega, h2, h1] at this
    cases this
  have := key h h'; have := key h' h; omega
/-- what a set's rows are, if it is that of rows. -/
theorem rows_of (p : Nat → Bool) (L : List (Nat × Nat)) : ∀ (m f : Nat), okP m L → L.length < f → (∀ n, n < 1024 → m ≤ n → p n = setP m L n) → rowsF p f (firstO (fromP p (m : Int))) m = flatI L := by
  induction L with
  | nil =>
    intro m f _ _ h
    have : firstO (fromP p (m : Int)) = none := firstO_none fun j hj => by
      unfold fromP
      by_cases hm : m ≤ j
      · rw [h j hj hm]; rfl
      · rw [decide_eq_false (by omega), Bool.and_false]
    rw [this]
    cases f <;> rfl
  | cons x r ih =>
    obtain ⟨a, b⟩ := x
    intro m f hok hf h
    rw [okP] at hok
    obtain ⟨f, rfl⟩ : ∃ f', f = f' + 1 := ⟨f - 1, by simp at hf; omega⟩
    have hin : ∀ n, m + a ≤ n → n ≤ m + a + b → p n = true := fun n h1 h2 => by
      rw [h n (by omega) (by omega), setP, decide_eq_true ⟨h1, h2⟩, Bool.true_or]
    have hfi : firstO (fromP p (m : Int)) = some (m + a) := firstO_some (by omega) (by
      unfold fromP
      rw [hin (m + a) (by omega) (by omega), decide_eq_true (by omega)]; rfl) fun j hj => by
      unfold fromP
      by_cases hm : m ≤ j
      · rw [h j (by omega) hm, setP, decide_eq_false (by omega), setP_lo _ _ _ (by omega)]; rfl
      · rw [decide_eq_false (by omega), Bool.and_false]
    have hend : endOf p (m + a) = m + a + b := by
      refine rowEnd_one (endOf_spec p (m + a) (by omega) (hin _ (by omega) (by omega))) ⟨by omega, by omega, fun j h1 h2 => hin j h1 h2, ?_⟩
      by_cases hlt : m + a + b + 1 < 1024
      · have := hasP_yes p (m + a + b + 1) hlt
        rw [show ((m + a + b + 1 : Nat) : Int) = ((m + a + b : Nat) : Int) + 1 by omega] at this
        rw [this, h _ hlt (by omega), setP, decide_eq_false (by omega), setP_lo _ _ _ (by omega)]; rfl
      · exact hasP_no p _ (by omega)
    rw [hfi, rowsF, hend, flatI]
    have := ih (m + a + b + 2) f hok.2 (by simpa using hf) fun n h1 h2 => by
      rw [h n h1 (by omega), setP, decide_eq_false (by omega), Bool.false_or]
    rw [this]
    congr 1
    · omega
    · congr 1; omega
/-- any set is that of rows. -/
theorem rows_are (p : Nat → Bool) (f : Nat) : ∀ m : Nat, 1026 ≤ f + m → ∃ L, okP m L ∧ rowsF p f (firstO (fromP p (m : Int))) m = flatI L ∧ ∀ n, n < 1024 → m ≤ n → p n = setP m L n := by
  induction f with
  | zero =>
    intro m hm
    exact ⟨[], trivial, rfl, fun n h1 h2 => by omega⟩
  | succ f ih =>
    intro m hm
    match ho : firstO (fromP p (m : Int)) with
    | none =>
      refine ⟨[], trivial, rfl, fun n h1 h2 => ?_⟩
      have : fromP p (m : Int) n = false := by
        cases hh : fromP p (m : Int) n with
        | false => rfl
        | true =>
          unfold firstO at ho
          have := List.find?_eq_none.1 ho n (by simpa using h1)
          rw [hh] at this; exact absurd rfl this
      unfold fromP at this
      rw [decide_eq_true (by omega), Bool.and_true] at this
      rw [this]; rfl
    | some i =>
      obtain ⟨h1, h2, h3⟩ := firstO_spec ho
      unfold fromP at h2
      simp only [Bool.and_eq_true, decide_eq_true_eq] at h2
      have hmi : m ≤ i := by omega
      have he := endOf_spec p i h1 h2.1
      obtain ⟨e, hee⟩ : ∃ e, endOf p i = e := ⟨_, rfl⟩
      rw [hee] at he
      obtain ⟨L, k1, k2, k3⟩ := ih (e + 2) (by have := he.1; omega)
      refine ⟨(i - m, e - i) :: L, ?_, ?_, fun n n1 n2 => ?_⟩
      · rw [okP]
        have q : m + (i - m) + (e - i) = e := by have := he.1; omega
        rw [q]; exact ⟨he.2.1, k1⟩
      · rw [rowsF, hee, k2, flatI]
        congr 1
        · omega
        · congr 1; have := he.1; omega
      · have q : m + (i - m) + (e - i) = e := by have := he.1; omega
        have q2 : m + (i - m) = i := by omega
        rw [setP, q, q2]
        by_cases c1 : n < i
        · have := h3 n c1
          unfold fromP at this
          rw [decide_eq_true (by omega), Bool.and_true] at this
          rw [this, decide_eq_false (by omega), setP_lo _ _ _ (by have := he.1; omega)]; rfl
        · by_cases c2 : n ≤ e
          · rw [he.2.2.1 n (by omega) c2, decide_eq_true ⟨by omega, c2⟩]; rfl
          · by_cases c3 : n = e + 1
            · subst c3
              have hh := he.2.2.2
              have := hasP_yes p (e + 1) n1
              rw [show ((e + 1 : Nat) : Int) = (e : Int) + 1 by omega, hh] at this
              rw [← this, decide_eq_false (by omega), setP_lo _ _ _ (by omega)]; rfl
            · rw [k3 n n1 (by omega), decide_eq_false (by omega)]; rfl
theorem from0 (p : Nat → Bool) : fromP p ((0 : Nat) : Int) = p := by
  funext n; unfold fromP; rw [decide_eq_true (by omega), Bool.and_true]
theorem rowsT_are (p : Nat → Bool) : ∃ L, okP 0 L ∧ rowsT p = flatI L ∧ ∀ n, n < 1024 → p n = setP 0 L n := by
  obtain ⟨L, h1, h2, h3⟩ := rows_are p 1026 0 (by omega)
  rw [from0] at h2
  refine ⟨L, h1, ?_, fun n hn => h3 n hn (by omega)⟩
  have hl : L.length < 1025 := by
    by_cases h : L = []
    · subst h; simp
    · have := okP_len L 0 h1 h; omega
  have := rows_of p L 0 1025 h1 hl h3
  rw [from0] at this
  exact this
theorem rowsT_of (p : Nat → Bool) (L : List (Nat × Nat)) (h : okP 0 L) (hp : ∀ n, n < 1024 → p n = setP 0 L n) : rowsT p = flatI L := by
  have hl : L.length < 1025 := by
    by_cases hh : L = []
    · subst hh; simp
    · have := okP_len L 0 h hh; omega
  have := rows_of p L 0 1025 h hl fun n h1 _ => hp n h1
  rw [from0] at this
  exact this
theorem rowsOf_L {p : Nat → Bool} {L : List (Nat × Nat)} (h : rowsT p = flatI L) : rowsOf p = (L.length : Int) :: flatI L := by
  unfold rowsOf
  rw [h, flatI_len]
  congr 1
  omega
end Go.Proofs.YtchhenpijbecaaaDoor
