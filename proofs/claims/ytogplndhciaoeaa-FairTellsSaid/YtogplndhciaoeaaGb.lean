/- layer 33 (fair), plain: what the document calls a window. -/
import Derived.Test.YtogplndhciaoeaaFa
namespace Go.Proofs.Ytogplndhciaoeaa

/-- n entries from f on, none of them a step of the worker. -/
def noS (cpu : Int) (l : List En) (f n : Nat) : Prop := f + n ≤ l.length ∧ ∀ i, f ≤ i → i < f + n → ∀ (h : i < l.length), isS cpu l[i] = false
theorem gaps_of_run (cpu : Int) : ∀ (l : List En) (f n g : Nat), noS cpu l f n → ∃ x ∈ gapsF cpu l g, n ≤ x ∧ (f = 0 → g + n ≤ x)
  | [], f, n, g, ⟨h, _⟩ => by
    simp at h
    exact ⟨g, by simp [gapsF], by omega, fun _ => by omega⟩
  | e :: r, 0, 0, g, _ => by
    obtain ⟨x, hx, _, h⟩ : ∃ x ∈ gapsF cpu (e :: r) g, 0 ≤ x ∧ g ≤ x := by
      rw [gapsF_cons]
      split
      · exact ⟨g, by simp, by omega, by omega⟩
      · obtain ⟨x, hx, _, h⟩ := gaps_of_run cpu r 0 0 (g + 1) ⟨by simp, fun i h1 h2 => by omega⟩
        exact ⟨x, hx, by omega, by have := h rfl; omega⟩
    exact ⟨x, hx, by omega, fun _ => by omega⟩
  | e :: r, 0, n + 1, g, ⟨h1, h2⟩ => by
    have he : isS cpu e = false := h2 0 (Nat.le_refl _) (by omega) (by simp)
    obtain ⟨x, hx, h3, h4⟩ := gaps_of_run cpu r 0 n (g + 1) ⟨by simp at h1; omega, fun i a b c => h2 (i + 1) (by omega) (by omega) (by simpa using c)⟩
    have := h4 rfl
    refine ⟨x, ?_, by omega, fun _ => by omega⟩
    rw [gapsF_cons, he]; exact hx
  | e :: r, f + 1, n, g, ⟨h1, h2⟩ => by
    have hr : noS cpu r f n := ⟨by simp at h1; omega, fun i a b c => h2 (i + 1) (by omega) (by omega) (by simpa using c)⟩
    rw [gapsF_cons]
    split
    · obtain ⟨x, hx, h3, _⟩ := gaps_of_run cpu r f n 0 hr
      exact ⟨x, by simp [hx], h3, fun e => by omega⟩
    · obtain ⟨x, hx, h3, _⟩ := gaps_of_run cpu r f n (g + 1) hr
      exact ⟨x, hx, h3, fun e => by omega⟩
theorem run_of_gaps (cpu : Int) : ∀ (l : List En) (g x : Nat), x ∈ gapsF cpu l g → (∃ t, t ≤ l.length ∧ x = g + t ∧ noS cpu l 0 t) ∨ ∃ f, noS cpu l f x
  | [], g, x, h => by
    simp [gapsF] at h
    exact .inl ⟨0, by simp, by omega, by simp, fun i a b => by omega⟩
  | e :: r, g, x, h => by
    rw [gapsF_cons] at h
    by_cases he : isS cpu e = true
    · rw [if_pos he] at h
      rcases List.mem_cons.1 h with rfl | h
      · exact .inl ⟨0, by simp, by omega, by simp, fun i a b => by omega⟩
      · right
        rcases run_of_gaps cpu r 0 x h with ⟨t, ht, e1, h1, h2⟩ | ⟨f, h1, h2⟩
        · refine ⟨1, by simp; omega, fun i a b c => ?_⟩
          match i, a, c with
          | i + 1, _, c => exact h2 i (by omega) (by omega) (by simpa using c)
        · refine ⟨f + 1, by simp; omega, fun i a b c => ?_⟩
          match i, a, c with
          | i + 1, _, c => exact h2 i (by omega) (by omega) (by simpa using c)
    · rw [if_neg he] at h
      rcases run_of_gaps cpu r (g + 1) x h with ⟨t, ht, e1, h1, h2⟩ | ⟨f, h1, h2⟩
      · refine .inl ⟨t + 1, by simp; omega, by omega, by simp; omega, fun i a b c => ?_⟩
        match i, c with
        | 0, _ => simpa using he
        | i + 1, c => exact h2 i (by omega) (by omega) (by simpa using c)
      · refine .inr ⟨f + 1, by simp; omega, fun i a b c => ?_⟩
        match i, a, c with
        | i + 1, _, c => exact h2 i (by omega) (by omega) (by simpa using c)
theorem foldl_max_geF : ∀ (l : List Nat) (m : Nat), m ≤ l.foldl max m ∧ ∀ x ∈ l, x ≤ l.foldl max m
  | [], m => ⟨Nat.le_refl _, fun x hx => by cases hx⟩
  | x :: r, m => by
    obtain ⟨h1, h2⟩ := foldl_max_geF r (max m x)
    refine ⟨by rw [List.foldl_cons]; omega, fun y hy => ?_⟩
    rw [List.foldl_cons]
    rcases List.mem_cons.1 hy with rfl | hy
    · omega
    · exact h2 y hy
theorem foldl_max_mem : ∀ (l : List Nat) (m : Nat), l.foldl max m = m ∨ l.foldl max m ∈ l
  | [], m => .inl rfl
  | x :: r, m => by
    rw [List.foldl_cons]
    rcases foldl_max_mem r (max m x) with h | h
    · rcases Nat.le_total m x with c | c
      · right; rw [h, Nat.max_eq_right c]; simp
      · left; rw [h, Nat.max_eq_left c]
    · right; simp [h]
theorem noS_less {cpu : Int} {l : List En} {f n n' : Nat} (h : noS cpu l f n) (hn : n' ≤ n) : noS cpu l f n' := ⟨by have := h.1; omega, fun i a b c => h.2 i a (by omega) c⟩
/-- A ROW WITHOUT A STEP IS A GAP AT MOST. -/
theorem run_iff (cpu : Int) (l : List En) (n : Nat) : (∃ f, noS cpu l f n) ↔ n ≤ gapL l cpu := by
  constructor
  · rintro ⟨f, h⟩
    obtain ⟨x, hx, h1, _⟩ := gaps_of_run cpu l f n 0 h
    exact Nat.le_trans h1 ((foldl_max_geF _ 0).2 x hx)
  · intro h
    rcases foldl_max_mem (gapsF cpu l 0) 0 with e | e
    · have : gapL l cpu = 0 := e
      exact ⟨0, by omega, fun i a b => by omega⟩
    · rcases run_of_gaps cpu l 0 _ e with ⟨t, _, e1, h1⟩ | ⟨f, h1⟩
      · exact ⟨0, noS_less h1 (by have : gapL l cpu = 0 + t := e1; omega)⟩
      · exact ⟨f, noS_less h1 h⟩
/-- has the row of n entries from f on a step of the worker? -/
def hasW (l : List En) (n f : Nat) (cpu : Int) : Bool := ((l.drop f).take n).any (isS cpu)
def allC (l : List En) (n f : Nat) (cs : List Int) : Bool := cs.all (hasW l n f)
def allF (l : List En) (n : Nat) (cs : List Int) (f : Nat) : Bool := (List.range f).all fun f => allC l n f cs
theorem hasW_iff (l : List En) (n f : Nat) (cpu : Int) (h : f + n ≤ l.length) : hasW l n f cpu = false ↔ noS cpu l f n := by
  unfold hasW
  rw [List.any_eq_false]
  constructor
  · intro k
    refine ⟨h, fun i a b c => ?_⟩
    have hm : l[i] ∈ (l.drop f).take n := by
      rw [List.mem_iff_getElem]
      exact ⟨i - f, by simp; omega, by simp; congr 1; omega⟩
    simpa using k _ hm
  · rintro ⟨_, k⟩ x hx
    obtain ⟨i, hi, rfl⟩ := List.mem_iff_getElem.1 hx
    simp at hi
    have := k (f + i) (by omega) (by omega) (by omega)
    simp [this]
/-- EACH ROW OF n ENTRIES HAS A STEP OF EACH, JUST IF NO GAP IS AS LONG. -/
theorem allF_iff (l : List En) (cs : List Int) (n : Nat) (h1 : 1 ≤ n) (hn : n ≤ l.length) : allF l n cs (l.length - n + 1) = true ↔ gapM l cs < n := by
  unfold allF allC
  simp only [List.all_eq_true, List.mem_range]
  constructor
  · intro h
    refine Nat.lt_of_not_le fun hle => ?_
    rcases foldl_max_mem (cs.map (gapL l)) 0 with e | e
    · have : gapM l cs = 0 := e
      omega
    · obtain ⟨c, hc, e1⟩ := List.mem_map.1 e
      have : n ≤ gapL l c := by rw [e1]; exact hle
      obtain ⟨f, hf⟩ := (run_iff c l n).2 this
      have h2 := h f (by have := hf.1; omega) c hc
      rw [(hasW_iff l n f c hf.1).2 hf] at h2
      cases h2
  · intro h f hf c hc
    by_cases k : hasW l n f c = true
    · exact k
    · have k' : hasW l n f c = false := by simpa using k
      have := (run_iff c l n).1 ⟨f, (hasW_iff l n f c (by omega)).1 k'⟩
      have := (foldl_max_geF (cs.map (gapL l)) 0).2 _ (List.mem_map.2 ⟨c, hc, rfl⟩)
      have h3 : gapL l c ≤ gapM l cs := this
      omega
end Go.Proofs.Ytogplndhciaoeaa
