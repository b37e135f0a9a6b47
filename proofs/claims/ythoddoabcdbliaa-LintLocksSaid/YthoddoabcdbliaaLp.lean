/- Where a program may go on (layer 26), told plainly. -/
import Derived.Test.YthoddoabcdbliaaEp
namespace Go.Proofs.Ythoddoabcdbliaa

/-- The places behind an instruction at its place. -/
def nextP (x : I4) (k : Nat) : List Int :=
  if x.op = 14 then []
  else if x.op = 4 then [x.n]
  else if x.op = 5 then (if x.n = (k : Int) + 1 then [x.n] else [min ((k : Int) + 1) x.n, max ((k : Int) + 1) x.n])
  else [(k : Int) + 1]
theorem nextP_len (x : I4) (k : Nat) : (nextP x k).length ≤ 2 := by
  unfold nextP; repeat' split
  all_goals simp
theorem nextP_in {prio : Int} {l : List I4} (h : Fine prio l) {k : Nat} {x : I4} (hx : l[k]? = some x) (hn : In32 x.n) : ∀ y ∈ nextP x k, 0 ≤ y ∧ y < (l.length : Int) := by
  have hm := h.may hx hn
  have hk := (List.getElem?_eq_some_iff.1 hx).1
  have hnext : x.op ≠ 4 → x.op ≠ 14 → k + 1 < l.length := fun h4 h14 => by
    by_cases e : k + 1 = l.length
    · have hl : lastOp l = x.op := lastOp_at (by rw [show l.length - 1 = k by omega]; exact hx)
      have := h.last; omega
    · omega
  have ht := hm.to
  intro y hy
  unfold nextP at hy
  split at hy
  · simp at hy
  · split at hy
    · simp at hy; omega
    · split at hy
      · split at hy
        · simp at hy; omega
        · simp at hy; rcases hy with rfl | rfl <;> omega
      · simp at hy; omega
/-- A step goes on where the program says, unless it is an exit. -/
theorem nextP_step (x : I4) (k : Nat) (r : R4) (h : (stepP x k r).e.op ≠ 14) (ho : 1 ≤ x.op ∧ x.op ≤ 14) : (stepP x k r).pc ∈ nextP x k := by
  have h14 : x.op ≠ 14 := fun e => by
    rw [stepP, if_neg (by omega), if_neg (by omega), if_neg (by omega), if_neg (by omega), if_neg (by omega), if_neg (by omega), if_neg (by omega), if_neg (by omega), if_neg (by omega)] at h
    exact h rfl
  unfold nextP
  rw [if_neg h14]
  by_cases h4 : x.op = 4
  · rw [if_pos h4, stepP, if_neg (by omega), if_neg (by omega), if_neg (by omega), if_pos h4]; simp
  · rw [if_neg h4]
    by_cases h5 : x.op = 5
    · have hpc5 : (stepP x k r).pc = (if r.get x.a.toNat = 0 then (k : Int) + 1 else x.n) := by
        unfold stepP; rw [if_neg (by omega), if_neg (by omega), if_neg (by omega), if_neg h4, if_pos h5]
      rw [if_pos h5, hpc5]
      by_cases e : x.n = (k : Int) + 1
      · rw [if_pos e]; split
        · simp [e]
        · simp
      · rw [if_neg e]; split
        · simp; omega
        · simp; omega
    · rw [if_neg h5]
      have hpc : (stepP x k r).pc = (k : Int) + 1 := by
        unfold stepP
        rw [if_neg h4, if_neg h5]
        repeat' split
        all_goals first | rfl | (exfalso; omega)
      rw [hpc]; simp
end Go.Proofs.Ythoddoabcdbliaa
