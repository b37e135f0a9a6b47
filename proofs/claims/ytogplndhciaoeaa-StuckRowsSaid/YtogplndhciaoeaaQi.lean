/- layer 27 (stuck): a row of the call's own, sorted by the library; who is found. -/
import Derived.Test.YtogplndhciaoeaaQg
import Derived.Test.YtogplndhciaoeaaQh
import Derived.Test.YtogplndhciaoeaaShelf
import Derived.Sort.OwnSortedInts
namespace Go.Proofs.Ytogplndhciaoeaa
open Go.RowKit Go.Maps Go.Sort
set_option maxRecDepth 100000

def sortL (l : List Int) : List Int := l.mergeSort fun x y => decide (x ≤ y)
theorem sortL_perm (l : List Int) : (sortL l).Perm l := List.mergeSort_perm l _
theorem sortL_up (l : List Int) : (sortL l).Pairwise (· ≤ ·) := by
  have := List.pairwise_mergeSort (le := fun x y : Int => decide (x ≤ y)) (by intro a b c h1 h2; simp at *; omega) (by intro a b; simp; omega) l
  exact this.imp fun h => by simpa using h
theorem sortL_rising (l : List Int) : sortL l = risingL l := up_rising (sortL_up l) (sortL_perm l)
theorem sort_any {w : World} {B : Nat} {v : Value} {l : List Int} (h : OwnN B w v l) (hl : l.length ≤ 100000) :
    Calls Try.prog 45 #[v] w fun e w' => e = .returned (.tuple #[]) ∧ OwnN B w' v (sortL l) ∧ w.grownBy w' v.ownBlock := by
  have h' := h
  have hsl : (sortL l).length = l.length := (sortL_perm l).length_eq
  rcases h.2 with ⟨rfl, hn⟩ | ⟨g, cap, cur, rfl, hg, hh, hnc, hcm, hcs, ht⟩
  · have : l = [] := List.eq_nil_of_length_eq_zero hn
    subst this
    refine (Try.slices_Sort_int_none none 0 w).mono ?_
    rintro e w' ⟨rfl, rfl⟩
    have e0 : sortL [] = [] := by simp [sortL]
    exact ⟨rfl, by rw [e0]; exact h, ⟨rfl, rfl, rfl, Nat.le_refl _, fun _ _ _ => rfl⟩⟩
  · have hlt := (h'.lt g rfl).2
    have hH : Holds (Value.int .i64) w g 0 l.toArray := holds_of_blockI hh (by rw [Nat.mul_one] at ht; exact ht)
    refine (Try.slices_Sort_int g 0 cap l w hH hlt (by omega)).mono ?_
    rintro e w' ⟨rfl, n, os, rfl⟩
    refine ⟨rfl, ?_, grownBy_sortedI _⟩
    have := ownsRow_sortedI (n := n) (os := os) (ss := l) (ts := sortL l) hsl hg hh hnc hcm hcs
    unfold OwnN
    rw [hsl]
    exact this
end Go.Proofs.Ytogplndhciaoeaa
