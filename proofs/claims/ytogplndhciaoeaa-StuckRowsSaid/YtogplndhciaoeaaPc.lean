/- layer 27 (stuck): the numbers of a row, rising, plain. -/
import Derived.Test.YtogplndhciaoeaaPb
namespace Go.Proofs.Ytogplndhciaoeaa
theorem getD_lt {l : List Int} {i : Nat} (h : i < l.length) : l.getD i 0 = l[i] := by simp [h]
/-- where x belongs, from the end on. -/
def posR (x : Int) (out : List Int) : Nat → Nat
  | 0 => 0
  | k + 1 => if out.getD k 0 > x then posR x out k else k + 1
def insR (x : Int) (out : List Int) : List Int := out.take (posR x out out.length) ++ x :: out.drop (posR x out out.length)
def risingL (l : List Int) : List Int := l.foldl (fun o x => insR x o) []
theorem posR_le (x : Int) (out : List Int) : ∀ k, posR x out k ≤ k := by
  intro k
  induction k with
  | zero => exact Nat.le_refl _
  | succ k ih => rw [posR]; split <;> omega
theorem posR_hi (x : Int) (out : List Int) : ∀ k i, posR x out k ≤ i → i < k → out.getD i 0 > x := by
  intro k
  induction k with
  | zero => intro i _ h; omega
  | succ k ih =>
    intro i h1 h2
    rw [posR] at h1
    split at h1
    · rename_i hg
      by_cases c : i = k
      · subst c; exact hg
      · exact ih i h1 (by omega)
    · omega
theorem posR_lo (x : Int) (out : List Int) : ∀ k i, posR x out k = i + 1 → out.getD i 0 ≤ x := by
  intro k
  induction k with
  | zero => intro i h; rw [posR] at h; omega
  | succ k ih =>
    intro i h
    rw [posR] at h
    split at h
    · exact ih i h
    · rename_i hg
      obtain rfl : k = i := by omega
      omega
theorem insR_perm (x : Int) (out : List Int) : (insR x out).Perm (x :: out) := by
  unfold insR
  refine List.perm_middle.trans ?_
  rw [List.take_append_drop]
theorem insR_up (x : Int) (out : List Int) (h : out.Pairwise (· ≤ ·)) : (insR x out).Pairwise (· ≤ ·) := by
  unfold insR
  have hle := posR_le x out out.length
  have hhi := posR_hi x out out.length
  have hlo := posR_lo x out out.length
  generalize posR x out out.length = p at *
  have hg := List.pairwise_iff_getElem.1 h
  have hlow : ∀ y ∈ out.take p, y ≤ x := fun y hy => by
    obtain ⟨i, hi, rfl⟩ := List.mem_iff_getElem.1 hy
    simp at hi
    rw [List.getElem_take]
    match p, hi, hle, hlo with
    | q + 1, hi, hle, hlo =>
      have h1 := hlo q rfl
      rw [getD_lt (by omega)] at h1
      by_cases c : i = q
      · subst c; exact h1
      · have := hg i q (by omega) (by omega) (by omega); omega
  have hhigh : ∀ y ∈ out.drop p, x ≤ y := fun y hy => by
    obtain ⟨i, hi, rfl⟩ := List.mem_iff_getElem.1 hy
    simp at hi
    rw [List.getElem_drop]
    have h1 := hhi (p + i) (by omega) (by omega)
    rw [getD_lt (by omega)] at h1
    omega
  refine List.pairwise_append.2 ⟨h.sublist (List.take_sublist _ _), List.pairwise_cons.2 ⟨hhigh, h.sublist (List.drop_sublist _ _)⟩, fun a ha b hb => ?_⟩
  rcases List.mem_cons.1 hb with rfl | hb
  · exact hlow a ha
  · exact Int.le_trans (hlow a ha) (hhigh b hb)
theorem rising_fold (l : List Int) : ∀ o : List Int, o.Pairwise (· ≤ ·) → (l.foldl (fun o x => insR x o) o).Pairwise (· ≤ ·) ∧ (l.foldl (fun o x => insR x o) o).Perm (l ++ o) := by
  induction l with
  | nil => intro o h; exact ⟨h, List.Perm.refl _⟩
  | cons x l ih =>
    intro o h
    obtain ⟨h1, h2⟩ := ih (insR x o) (insR_up x o h)
    refine ⟨h1, h2.trans ?_⟩
    exact ((insR_perm x o).append_left l).trans List.perm_middle
theorem rising_up (l : List Int) : (risingL l).Pairwise (· ≤ ·) := (rising_fold l [] List.Pairwise.nil).1
theorem rising_perm (l : List Int) : (risingL l).Perm l := by
  have := (rising_fold l [] List.Pairwise.nil).2
  rw [List.append_nil] at this; exact this
/-- rows that rise and hold the same are the same. -/
theorem up_one {a : List Int} : ∀ {b : List Int}, a.Pairwise (· ≤ ·) → b.Pairwise (· ≤ ·) → a.Perm b → a = b := by
  induction a with
  | nil => intro b _ _ hp; exact (List.Perm.nil_eq hp)
  | cons x a ih =>
    intro b ha hb hp
    match b, hb, hp with
    | [], _, hp => exact absurd hp.length_eq (by simp)
    | y :: b, hb, hp =>
      obtain ⟨ha1, ha2⟩ := List.pairwise_cons.1 ha
      obtain ⟨hb1, hb2⟩ := List.pairwise_cons.1 hb
      have hx : x ∈ y :: b := hp.subset List.mem_cons_self
      have hy : y ∈ x :: a := hp.symm.subset List.mem_cons_self
      have hxy : x = y := by
        rcases List.mem_cons.1 hx with h | h
        · exact h
        · rcases List.mem_cons.1 hy with h' | h'
          · exact h'.symm
          · have := hb1 x h; have := ha1 y h'; omega
      subst hxy
      rw [ih ha2 hb2 ((List.perm_cons x).1 hp)]
theorem up_rising {r l : List Int} (h : r.Pairwise (· ≤ ·)) (hp : r.Perm l) : r = risingL l := up_one h (rising_up l) (hp.trans (rising_perm l).symm)
end Go.Proofs.Ytogplndhciaoeaa
