/- The document's Reach (layer 26), told plainly. -/
import Derived.Test.YthoddoabcdbliaaLr
namespace Go.Proofs.Ythoddoabcdbliaa

/-- Still to be gone: a met place from which one that is not met may follow. -/
def Opn (l : List I4) (S : Nat → Bool) (a b : Nat) : Prop := S a = true ∧ S b = false ∧ ∃ x, l[a]? = some x ∧ (b : Int) ∈ nextP x a
structure DInv (l : List I4) (S : Nat → Bool) : Prop where
  sub : ∀ k, S k = true → Rch l k
  zero : S 0 = true
theorem DInv.start (l : List I4) : DInv l (fun i => decide (i = 0)) :=
  ⟨fun k h => (by obtain rfl := of_decide_eq_true h; exact .zero), rfl⟩
theorem DInv.put {l : List I4} {S : Nat → Bool} (h : DInv l S) {a b : Nat} (ho : Opn l S a b) : DInv l (fun i => if i = b then true else S i) := by
  obtain ⟨ha, -, x, hx, hm⟩ := ho
  refine ⟨fun k hk => ?_, ?_⟩
  · split at hk
    · rename_i e; subst e; exact .step (h.sub a ha) hx hm
    · exact h.sub k hk
  · split
    · rfl
    · exact h.zero
theorem Rch.lt {prio : Int} {l : List I4} (hf : Fine prio l) (hn : ∀ (k : Nat) (x : I4), l[k]? = some x → In32 x.n) {k : Nat} (h : Rch l k) : k < l.length := by
  have := hf.len
  induction h with
  | zero => omega
  | step _ hx hj _ => have := nextP_in hf hx (hn _ _ hx) _ hj; omega
theorem DInv.done {prio : Int} {l : List I4} {S : Nat → Bool} (h : DInv l S) (hf : Fine prio l) (hn : ∀ (k : Nat) (x : I4), l[k]? = some x → In32 x.n)
    (hc : ∀ a b, a < l.length → b < l.length → ¬ Opn l S a b) (k : Nat) : S k = true ↔ Rch l k := by
  refine ⟨h.sub k, fun hr => ?_⟩
  induction hr with
  | zero => exact h.zero
  | @step a b x ha hx hj ih =>
    have hb : b < l.length := Rch.lt hf hn (.step ha hx hj)
    cases e : S b with
    | true => rfl
    | false => exact absurd ⟨ih, e, x, hx, hj⟩ (hc a b (Rch.lt hf hn ha) hb)
/-- How many are not met grows less with each one put. -/
theorem cnt_put' (S : Nat → Bool) {b N : Nat} (hb : b < N) (h : S b = false) : cnt (fun i => if i = b then true else S i) N = cnt S N + 1 := by
  rw [← cnt_put S hb h]
  exact cnt_congr N fun n _ => by by_cases e : n = b <;> simp [e]
/-- The places that follow, in the order of their numbers. -/
theorem nextP_sorted (x : I4) (k : Nat) : (nextP x k).Pairwise (· < ·) := by
  unfold nextP
  repeat' split
  all_goals simp
  all_goals omega
theorem sorted_filter {t : List Int} (hs : t.Pairwise (· < ·)) (N : Nat) (hin : ∀ y ∈ t, 0 ≤ y ∧ y < (N : Int)) : ((List.range N).map fun i : Nat => (i : Int)).filter (fun y => decide (y ∈ t)) = t := by
  have h1 : (((List.range N).map fun i : Nat => (i : Int)).filter (fun y => decide (y ∈ t))).Pairwise (· < ·) := by
    apply List.Pairwise.filter
    rw [List.pairwise_map]
    exact List.pairwise_lt_range.imp fun h => by omega
  refine List.Perm.eq_of_pairwise (le := (· < ·)) (fun a b _ _ h1 h2 => by omega) h1 hs ?_
  rw [List.perm_ext_iff_of_nodup (h1.imp fun h => by omega) (hs.imp fun h => by omega)]
  intro a
  simp only [List.mem_filter, List.mem_map, List.mem_range, decide_eq_true_eq]
  constructor
  · exact fun h => h.2
  · intro h
    obtain ⟨h0, h2⟩ := hin a h
    exact ⟨⟨a.toNat, by omega, by omega⟩, h⟩
end Go.Proofs.Ythoddoabcdbliaa
