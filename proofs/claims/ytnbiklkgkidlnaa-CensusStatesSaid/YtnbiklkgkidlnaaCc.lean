/- layer 35 (census): quantiles, slots and histograms: plain. -/
import Derived.Test.YtnbiklkgkidlnaaCb
namespace Go.Proofs.Ytnbiklkgkidlnaa

theorem sortL_len (l : List Int) : (sortL l).length = l.length := (sortL_perm l).length_eq
def capP (p : Int) : Nat := (min (max p 0) 100).toNat
def idxQ (p : Int) (n : Nat) : Nat := capP p * (n - 1) / 100
theorem capP_le (p : Int) : capP p ≤ 100 := by unfold capP; omega
theorem capP_eq (p : Int) : ((capP p : Nat) : Int) = min (max p 0) 100 := by unfold capP; omega
theorem idxQ_le (p : Int) (n : Nat) : idxQ p n ≤ n - 1 := by
  unfold idxQ
  have h : capP p * (n - 1) ≤ 100 * (n - 1) := Nat.mul_le_mul_right _ (capP_le p)
  omega
theorem idxQ_lt (p : Int) {n : Nat} (h : 0 < n) : idxQ p n < n := by have := idxQ_le p n; omega
theorem idxQ_mono {p q : Int} (h : p ≤ q) (n : Nat) : idxQ p n ≤ idxQ q n := by
  unfold idxQ
  exact Nat.div_le_div_right (Nat.mul_le_mul_right _ (by unfold capP; omega))
theorem idxQ_0 (n : Nat) : idxQ 0 n = 0 := by unfold idxQ; rw [show capP 0 = 0 by decide]; simp
theorem idxQ_100 (n : Nat) : idxQ 100 n = n - 1 := by unfold idxQ; rw [show capP 100 = 100 by decide]; omega
def qL (l : List Int) (p : Int) : Int := (sortL l).getD (idxQ p l.length) 0
theorem qL_at {l : List Int} (p : Int) (h : 0 < l.length) : (sortL l)[idxQ p l.length]'(by rw [sortL_len]; exact idxQ_lt p h) = qL l p := by
  unfold qL
  rw [List.getD_eq_getElem?_getD, List.getElem?_eq_getElem (by rw [sortL_len]; exact idxQ_lt p h)]; rfl
theorem sortL_mono (l : List Int) {i j : Nat} (hi : i ≤ j) (hj : j < (sortL l).length) : (sortL l)[i]'(by omega) ≤ (sortL l)[j] := by
  by_cases h : i = j
  · subst h; exact Int.le_refl _
  · exact List.pairwise_iff_getElem.1 (sortL_up l) i j (by omega) hj (by omega)
theorem qL_mono {l : List Int} {p q : Int} (h : 0 < l.length) (hpq : p ≤ q) : qL l p ≤ qL l q := by
  rw [← qL_at p h, ← qL_at q h]
  exact sortL_mono l (idxQ_mono hpq _) _
theorem qL_least {l : List Int} {x : Int} (hx : x ∈ l) : qL l 0 ≤ x ∧ x ≤ qL l 100 := by
  have h : 0 < l.length := List.length_pos_of_mem hx
  obtain ⟨i, hi, rfl⟩ := List.mem_iff_getElem.1 ((sortL_perm l).mem_iff.2 hx)
  have hi' : i < l.length := by rw [sortL_len] at hi; exact hi
  rw [← qL_at 0 h, ← qL_at 100 h]
  exact ⟨sortL_mono l (by rw [idxQ_0]; omega) hi, sortL_mono l (by rw [idxQ_100]; omega) _⟩
/-- in which part a number is. -/
def slotF : List Int → Int → Nat
  | [], _ => 0
  | b :: t, n => if n < b then 0 else slotF t n + 1
theorem slotF_le (bs : List Int) (n : Int) : slotF bs n ≤ bs.length := by
  induction bs with
  | nil => exact Nat.le_refl _
  | cons b t ih => unfold slotF; split <;> simp <;> omega
def bump (c : List Nat) (i : Nat) : List Nat := c.set i (c.getD i 0 + 1)
def histL (bs l : List Int) : List Nat := l.foldl (fun c n => bump c (slotF bs n)) (List.replicate (bs.length + 1) 0)
theorem bump_len (c : List Nat) (i : Nat) : (bump c i).length = c.length := by unfold bump; simp
theorem histL_snoc (bs l : List Int) (n : Int) : histL bs (l ++ [n]) = bump (histL bs l) (slotF bs n) := by unfold histL; rw [List.foldl_append]; rfl
theorem snoc_ind {α : Type} {P : List α → Prop} (h0 : P []) (h1 : ∀ l x, P l → P (l ++ [x])) (l : List α) : P l := by
  rw [← List.reverse_reverse l]
  generalize l.reverse = r
  induction r with
  | nil => exact h0
  | cons x r ih => rw [List.reverse_cons]; exact h1 _ _ ih
theorem histL_len (bs l : List Int) : (histL bs l).length = bs.length + 1 := by
  induction l using snoc_ind with
  | h0 => simp [histL]
  | h1 l x ih => rw [histL_snoc, bump_len, ih]
theorem histL_sum (bs l : List Int) : (histL bs l).sum = l.length := by
  induction l using snoc_ind with
  | h0 => simp [histL]
  | h1 l x ih =>
    rw [histL_snoc, List.length_append]
    have h : slotF bs x < (histL bs l).length := by have := slotF_le bs x; rw [histL_len]; omega
    unfold bump
    have : ∀ (c : List Nat) (i : Nat), i < c.length → (c.set i (c.getD i 0 + 1)).sum = c.sum + 1 := by
      intro c
      induction c with
      | nil => intro i hi; simp at hi
      | cons a c ihc =>
        intro i hi
        cases i with
        | zero => simp; omega
        | succ i => simp at hi; have := ihc i hi; simp at this ⊢; omega
    rw [this _ _ h, ih]; rfl
theorem le_sum {c : List Nat} {x : Nat} (h : x ∈ c) : x ≤ c.sum := by
  induction c with
  | nil => cases h
  | cons a c ih =>
    rw [List.sum_cons]
    rcases List.mem_cons.1 h with rfl | h
    · omega
    · have := ih h; omega
theorem histL_le (bs l : List Int) {x : Nat} (h : x ∈ histL bs l) : x ≤ l.length := by have := le_sum h; rw [histL_sum] at this; exact this
/-- the counts' cells. -/
def cN (c : List Nat) : List Value := c.map fun k : Nat => Value.int .i64 (k : Int)
theorem cN_len (c : List Nat) : (cN c).length = c.length := by simp [cN]
theorem cN_set (c : List Nat) (i x : Nat) : (cN c).toArray.setIfInBounds i (.int .i64 (x : Int)) = (cN (c.set i x)).toArray := by
  unfold cN
  rw [List.setIfInBounds_toArray, List.map_set]
theorem cN_at (c : List Nat) (i : Nat) (h : i < c.length) : (cN c).toArray[i]? = some (.int .i64 ((c[i] : Nat) : Int)) := by
  unfold cN
  rw [List.getElem?_toArray, List.getElem?_map, List.getElem?_eq_getElem h]; rfl
theorem bump_at (c : List Nat) (i : Nat) (h : i < c.length) : bump c i = c.set i (c[i] + 1) := by
  unfold bump; rw [List.getD_eq_getElem?_getD, List.getElem?_eq_getElem h]; rfl
theorem sort_ex : sortL [9, 1, 5] = [1, 5, 9] := by
  simp [sortL, List.mergeSort, List.MergeSort.Internal.splitInTwo]
theorem hist_ex : histL [2, 6] [1, 5, 9] = [1, 1, 1] := by decide +kernel
theorem q_ex : qL [9, 1, 5] 50 = 5 := by
  unfold qL; rw [sort_ex]; decide +kernel
end Go.Proofs.Ytnbiklkgkidlnaa
