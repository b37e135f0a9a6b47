/- A lock that parties wait for in a row, plainly: the row of those who came, whoever steps. -/
import Derived.Test.YtckdabokaelnoaaMm
namespace Go.Proofs.Ytckdabokaelnoaa

theorem updF_ite {α : Type} (f : Nat → α) (k : Nat) (v : α) (j : Nat) : updF f k v j = if j = k then v else f j := rfl
/-- Those who came are in a row q: who is at its head; who waits behind whom. -/
structure QInv (D : Lk) (q : List Nat) : Prop where
  nd : ∀ i j p : Nat, q[i]? = some p → q[j]? = some p → i = j
  lt : ∀ i p : Nat, q[i]? = some p → p < D.n ∧ (((D.cl p).st = 1 ∧ 3 ≤ (D.cl p).sp) ∨ (D.cl p).st = 2 ∨ (D.cl p).st = 3)
  mem : ∀ p : Nat, p < D.n → (((D.cl p).st = 1 ∧ 3 ≤ (D.cl p).sp) ∨ (D.cl p).st = 2 ∨ (D.cl p).st = 3) → ∃ i : Nat, q[i]? = some p
  tl0 : q = [] → D.tail = -1
  tl : ∀ i p : Nat, q[i]? = some p → i + 1 = q.length → D.tail = (p : Int) ∧ D.nx p = -1
  head : ∀ p : Nat, q[0]? = some p → (D.cl p).st = 1 → (D.cl p).sp = 4 ∧ D.wt p = false
  rest : ∀ i p : Nat, q[i + 1]? = some p → (D.cl p).st = 1 ∧ D.wt p = true
  l3 : ∀ i a p : Nat, q[i]? = some a → q[i + 1]? = some p → (D.cl p).sp = 3 → (D.cl p).ot = (a : Int) ∧ D.nx a = -1
  l4 : ∀ i a p : Nat, q[i]? = some a → q[i + 1]? = some p → (D.cl p).sp = 4 → D.nx a = (p : Int)
  s7 : ∀ p : Nat, p < D.n → (D.cl p).st = 3 → (D.cl p).sp = 7 → ∃ c : Nat, q[0]? = some p ∧ q[1]? = some c ∧ (D.cl p).ot = (c : Int) ∧ (D.cl c).sp = 4
  t1 : ∀ p : Nat, p < D.n → (D.cl p).st = 1 → 1 ≤ (D.cl p).sp → (D.cl p).sp ≤ 2 → D.nx p = -1
  t2 : ∀ p : Nat, p < D.n → (D.cl p).st = 1 → (D.cl p).sp = 2 → D.wt p = true
theorem qinv_new (n : Nat) : QInv (newL n) [] := by
  constructor <;> simp [newL]
/-- The row behind a party's step. -/
def qstep (D : Lk) (k : Nat) (q : List Nat) : List Nat :=
  if (D.cl k).sp = 2 then q ++ [k] else if ((D.cl k).sp = 6 ∧ D.tail = (k : Int)) ∨ (D.cl k).sp = 7 then q.tail else q
section
variable {D D' : Lk} {q : List Nat} {k s : Nat} {o : Int}
theorem qinv_far (h : QInv D q) (hk : k < D.n) (hcl : ∀ j : Nat, j ≠ k → D'.cl j = D.cl j) (hnx : ∀ j : Nat, j ≠ k → D'.nx j = D.nx j) (hwt : ∀ j : Nat, j ≠ k → D'.wt j = D.wt j) (ht : D'.tail = D.tail) (hn : D'.n = D.n)
    (hkq : ∀ i : Nat, q[i]? ≠ some k) (hs : (D'.cl k).st = 1 ∧ (D'.cl k).sp ≤ 2 ∨ (D'.cl k).st = 0) (h1 : (D'.cl k).st = 1 → 1 ≤ (D'.cl k).sp → D'.nx k = -1) (h2 : (D'.cl k).st = 1 → (D'.cl k).sp = 2 → D'.wt k = true) : QInv D' q := by
  have ne : ∀ (i p : Nat), q[i]? = some p → p ≠ k := fun i p hi e => hkq i (e ▸ hi)
  refine ⟨h.nd, ?_, ?_, fun e => ht.trans (h.tl0 e), ?_, ?_, ?_, ?_, ?_, ?_, ?_, ?_⟩
  · intro i p hi; rw [hcl p (ne i p hi), hn]; exact h.lt i p hi
  · intro p hp hx
    by_cases e : p = k
    · subst e; omega
    · rw [hcl p e] at hx; exact h.mem p (hn ▸ hp) hx
  · intro i p hi hl; rw [ht, hnx p (ne i p hi)]; exact h.tl i p hi hl
  · intro p hi; rw [hcl p (ne 0 p hi), hwt p (ne 0 p hi)]; exact h.head p hi
  · intro i p hi; rw [hcl p (ne _ p hi), hwt p (ne _ p hi)]; exact h.rest i p hi
  · intro i a p ha hi; rw [hcl p (ne _ p hi), hnx a (ne _ a ha)]; exact h.l3 i a p ha hi
  · intro i a p ha hi; rw [hcl p (ne _ p hi), hnx a (ne _ a ha)]; exact h.l4 i a p ha hi
  · intro p hp
    by_cases e : p = k
    · subst e; omega
    · rw [hcl p e]
      intro hs7 hp7
      obtain ⟨c, a1, a2, a3, a4⟩ := h.s7 p (hn ▸ hp) hs7 hp7
      exact ⟨c, a1, a2, a3, by rw [hcl c (ne 1 c a2)]; exact a4⟩
  · intro p hp
    by_cases e : p = k
    · subst e; intro a b _; exact h1 a b
    · rw [hcl p e, hnx p e]; exact h.t1 p (hn ▸ hp)
  · intro p hp
    by_cases e : p = k
    · subst e; exact h2
    · rw [hcl p e, hwt p e]; exact h.t2 p (hn ▸ hp)
theorem notin (h : QInv D q) (hs : (D.cl k).st = 1 ∧ (D.cl k).sp ≤ 2 ∨ (D.cl k).st = 0) (i : Nat) : q[i]? ≠ some k := fun hi => by have := (h.lt i k hi).2; omega
theorem qinv_0 (h : QInv D q) (hk : k < D.n) (hc : D.cl k = ⟨1, 0, o⟩) : QInv (stepL D k) q := by
  have e : stepL D k = { D with nx := updF D.nx k (-1), cl := updF D.cl k ⟨1, 1, o⟩ } := by unfold stepL; simp [hc]
  rw [e]
  exact qinv_far h hk (fun j hj => updF_other _ _ hj) (fun j hj => updF_other _ _ hj) (fun j hj => rfl) rfl rfl (notin h (by rw [hc]; simp)) (by simp [updF_same]) (by simp [updF_same]) (by simp [updF_same])
theorem qinv_1 (h : QInv D q) (hk : k < D.n) (hc : D.cl k = ⟨1, 1, o⟩) : QInv (stepL D k) q := by
  have e : stepL D k = { D with wt := updF D.wt k true, cl := updF D.cl k ⟨1, 2, o⟩ } := by unfold stepL; simp [hc]
  rw [e]
  have := h.t1 k hk (by rw [hc]) (by simp [hc]) (by simp [hc])
  exact qinv_far h hk (fun j hj => updF_other _ _ hj) (fun j hj => rfl) (fun j hj => updF_other _ _ hj) rfl rfl (notin h (by rw [hc]; simp)) (by simp [updF_same]) (by simp [updF_same, this]) (by simp [updF_same])
theorem qinv_2 (h : QInv D q) (hk : k < D.n) (hc : D.cl k = ⟨1, 2, o⟩) : QInv (stepL D k) (q ++ [k]) := by
  have e : stepL D k = { D with tail := k, cl := updF D.cl k ⟨if D.tail = -1 then 2 else 1, 3, D.tail⟩ } := by unfold stepL; simp [hc]
  have hkq := notin h (k := k) (by rw [hc]; simp)
  have n1 := h.t1 k hk (by rw [hc]) (by rw [hc]; simp) (by rw [hc]; simp)
  have w1 := h.t2 k hk (by rw [hc]) (by rw [hc])
  obtain ⟨D', hD'⟩ : ∃ D', D' = stepL D k := ⟨_, rfl⟩
  rw [← hD'] at e ⊢
  have hcl : ∀ j : Nat, j ≠ k → D'.cl j = D.cl j := fun j hj => by rw [e]; exact updF_other _ _ hj
  have hck : D'.cl k = ⟨if D.tail = -1 then 2 else 1, 3, D.tail⟩ := by rw [e]; exact updF_same _ _ _
  have hnx : D'.nx = D.nx := by rw [e]
  have hwt : D'.wt = D.wt := by rw [e]
  have htl : D'.tail = k := by rw [e]
  have hn : D'.n = D.n := by rw [e]
  clear e hD'
  have cut : ∀ i p : Nat, (q ++ [k])[i]? = some p → q[i]? = some p ∧ p ≠ k ∨ i = q.length ∧ p = k := by
    intro i p hi
    rw [List.getElem?_append] at hi
    split at hi
    · exact .inl ⟨hi, fun x => hkq i (x ▸ hi)⟩
    · rename_i hl
      have : i - q.length = 0 := by
        rcases Nat.eq_zero_or_pos (i - q.length) with z | z
        · exact z
        · rw [List.getElem?_eq_none (by simp; omega)] at hi; cases hi
      rw [this] at hi; simp at hi; exact .inr ⟨by omega, hi.symm⟩
  have len : ∀ i p : Nat, q[i]? = some p → i < q.length := fun i p hi => (List.getElem?_eq_some_iff.1 hi).1
  have tn : ∀ i p : Nat, q[i]? = some p → D.tail ≠ -1 := fun i p hi x => by
    have := (h.tl (q.length - 1) (q[q.length - 1]'(by have := len i p hi; omega)) (List.getElem?_eq_getElem _) (by have := len i p hi; omega)).1
    omega
  refine ⟨?_, ?_, ?_, by simp, ?_, ?_, ?_, ?_, ?_, ?_, ?_, ?_⟩
  · intro i j p hi hj
    have := len i p; have := len j p
    rcases cut i p hi with ⟨a, b⟩ | ⟨a, b⟩ <;> rcases cut j p hj with ⟨c, d⟩ | ⟨c, d⟩
    · exact h.nd i j p a c
    · exact absurd d b
    · exact absurd b d
    · omega
  · intro i p hi
    rcases cut i p hi with ⟨a, b⟩ | ⟨a, rfl⟩
    · rw [hcl p b, hn]; exact h.lt i p a
    · rw [hck, hn]; refine ⟨hk, ?_⟩; dsimp only; split <;> simp
  · intro p hp hx
    by_cases b : p = k
    · exact ⟨q.length, by rw [b]; simp⟩
    · rw [hcl p b] at hx
      obtain ⟨i, hi⟩ := h.mem p (hn ▸ hp) hx
      exact ⟨i, by rw [List.getElem?_append_left (len i p hi)]; exact hi⟩
  · intro i p hi hl
    rcases cut i p hi with ⟨a, b⟩ | ⟨a, rfl⟩
    · have := len i p a; simp at hl; omega
    · rw [htl, hnx]; exact ⟨rfl, n1⟩
  · intro p hi
    rcases cut 0 p hi with ⟨a, b⟩ | ⟨a, rfl⟩
    · rw [hcl p b, hwt]; exact h.head p a
    · rw [hck]; dsimp only
      rw [if_pos (h.tl0 (List.length_eq_zero_iff.1 a.symm))]
      intro x; cases x
  · intro i p hi
    rcases cut (i + 1) p hi with ⟨a, b⟩ | ⟨a, rfl⟩
    · rw [hcl p b, hwt]; exact h.rest i p a
    · rw [hck, hwt]; dsimp only
      rw [if_neg (tn i (q[i]'(by omega)) (List.getElem?_eq_getElem _))]
      exact ⟨rfl, w1⟩
  · intro i a p ha hi
    rcases cut (i + 1) p hi with ⟨x, b⟩ | ⟨x, rfl⟩
    · rcases cut i a ha with ⟨y, c⟩ | ⟨y, rfl⟩
      · rw [hcl p b, hnx]; exact h.l3 i a p y x
      · have := len _ _ x; omega
    · rcases cut i a ha with ⟨y, c⟩ | ⟨y, rfl⟩
      · rw [hck, hnx]; dsimp only
        intro _
        have := h.tl i a y x
        exact this
      · omega
  · intro i a p ha hi
    rcases cut (i + 1) p hi with ⟨x, b⟩ | ⟨x, rfl⟩
    · rcases cut i a ha with ⟨y, c⟩ | ⟨y, rfl⟩
      · rw [hcl p b, hnx]; exact h.l4 i a p y x
      · have := len _ _ x; omega
    · rw [hck]; simp
  · intro p hp hs7 hp7
    by_cases b : p = k
    · rw [b, hck] at hp7; simp at hp7
    · rw [hcl p b] at hs7 hp7 ⊢
      obtain ⟨c, a1, a2, a3, a4⟩ := h.s7 p (hn ▸ hp) hs7 hp7
      refine ⟨c, ?_, ?_, a3, ?_⟩
      · rw [List.getElem?_append_left (len _ _ a1)]; exact a1
      · rw [List.getElem?_append_left (len _ _ a2)]; exact a2
      · rw [hcl c (fun x => hkq 1 (x ▸ a2))]; exact a4
  · intro p hp
    by_cases b : p = k
    · rw [b, hck]; simp
    · rw [hcl p b, hnx]; exact h.t1 p (hn ▸ hp)
  · intro p hp
    by_cases b : p = k
    · rw [b, hck]; simp
    · rw [hcl p b, hwt]; exact h.t2 p (hn ▸ hp)
/-- A step of one in the row that leaves the row, and who waits. -/
theorem qinv_in (h : QInv D q) {i0 : Nat} (hi0 : q[i0]? = some k) (hcl : ∀ j : Nat, j ≠ k → D'.cl j = D.cl j) (hnx : D'.nx = D.nx) (hwt : D'.wt = D.wt) (ht : D'.tail = D.tail) (hn : D'.n = D.n)
    (hs : (D'.cl k).st = 1 ∧ 3 ≤ (D'.cl k).sp ∨ (D'.cl k).st = 2 ∨ (D'.cl k).st = 3)
    (hh : i0 = 0 → (D'.cl k).st = 1 → (D'.cl k).sp = 4 ∧ D.wt k = false) (hr : 0 < i0 → (D'.cl k).st = 1 ∧ (D'.cl k).sp = (D.cl k).sp ∧ (D'.cl k).ot = (D.cl k).ot)
    (h7 : (D'.cl k).st = 3 → (D'.cl k).sp = 7 → ∃ c : Nat, q[0]? = some k ∧ q[1]? = some c ∧ (D'.cl k).ot = (c : Int) ∧ (D.cl c).sp = 4) : QInv D' q := by
  have kn : k < D.n := (h.lt i0 k hi0).1
  refine ⟨h.nd, ?_, ?_, fun e => ht.trans (h.tl0 e), ?_, ?_, ?_, ?_, ?_, ?_, ?_, ?_⟩
  · intro i p hi
    by_cases e : p = k
    · rw [e, hn]; exact ⟨kn, hs⟩
    · rw [hcl p e, hn]; exact h.lt i p hi
  · intro p hp hx
    by_cases e : p = k
    · exact ⟨i0, e ▸ hi0⟩
    · rw [hcl p e] at hx; exact h.mem p (hn ▸ hp) hx
  · intro i p hi hl; rw [ht, hnx]; exact h.tl i p hi hl
  · intro p hi
    by_cases e : p = k
    · rw [e, hwt]; exact hh (h.nd _ _ _ hi0 (e ▸ hi))
    · rw [hcl p e, hwt]; exact h.head p hi
  · intro i p hi
    by_cases e : p = k
    · have := h.nd _ _ _ hi0 (e ▸ hi)
      rw [e, hwt]; exact ⟨(hr (by omega)).1, (h.rest i k (e ▸ hi)).2⟩
    · rw [hcl p e, hwt]; exact h.rest i p hi
  · intro i a p ha hi
    by_cases e : p = k
    · have z := h.nd _ _ _ hi0 (e ▸ hi)
      obtain ⟨_, z2, z3⟩ := hr (by omega)
      rw [e, hnx, z2, z3]; exact h.l3 i a k ha (e ▸ hi)
    · rw [hcl p e, hnx]; exact h.l3 i a p ha hi
  · intro i a p ha hi
    by_cases e : p = k
    · have z := h.nd _ _ _ hi0 (e ▸ hi)
      obtain ⟨_, z2, z3⟩ := hr (by omega)
      rw [e, hnx, z2]; exact h.l4 i a k ha (e ▸ hi)
    · rw [hcl p e, hnx]; exact h.l4 i a p ha hi
  · intro p hp hs7 hp7
    by_cases e : p = k
    · subst e
      obtain ⟨c, a1, a2, a3, a4⟩ := h7 hs7 hp7
      refine ⟨c, a1, a2, a3, ?_⟩
      by_cases x : c = p
      · have := h.nd _ _ _ a1 (x ▸ a2); omega
      · rw [hcl c x]; exact a4
    · rw [hcl p e] at hs7 hp7 ⊢
      obtain ⟨c, a1, a2, a3, a4⟩ := h.s7 p (hn ▸ hp) hs7 hp7
      refine ⟨c, a1, a2, a3, ?_⟩
      by_cases x : c = k
      · have z : i0 = 1 := h.nd _ _ _ hi0 (x ▸ a2)
        have z2 := (hr (z ▸ Nat.one_pos)).2.1
        rw [x] at a4 ⊢; rw [z2]; exact a4
      · rw [hcl c x]; exact a4
  · intro p hp
    by_cases e : p = k
    · rw [e]; clear h7 hh hr; intros; exfalso; omega
    · rw [hcl p e, hnx]; exact h.t1 p (hn ▸ hp)
  · intro p hp
    by_cases e : p = k
    · rw [e]; clear h7 hh hr; intros; exfalso; omega
    · rw [hcl p e, hwt]; exact h.t2 p (hn ▸ hp)
theorem qinv_3 (h : QInv D q) (hk : k < D.n) (hc : D.cl k = ⟨1, 3, o⟩) : QInv (stepL D k) q := by
  have e : stepL D k = { D with nx := updF D.nx o.toNat k, cl := updF D.cl k ⟨1, 4, o⟩ } := by unfold stepL; simp [hc]
  obtain ⟨i0, hi0⟩ := h.mem k hk (by simp [hc])
  obtain ⟨a0, j0, rfl, ha0⟩ : ∃ a j : Nat, i0 = j + 1 ∧ q[j]? = some a := by
    cases i0 with
    | zero => have := (h.head k hi0 (by simp [hc])).1; simp [hc] at this
    | succ j => exact ⟨_, j, rfl, List.getElem?_eq_getElem (by have := (List.getElem?_eq_some_iff.1 hi0).1; omega)⟩
  obtain ⟨ho, hna⟩ := h.l3 j0 a0 k ha0 hi0 (by simp [hc])
  rw [hc] at ho
  obtain rfl : o = (a0 : Int) := ho
  rw [Int.toNat_natCast] at e
  obtain ⟨D', hD'⟩ : ∃ D', D' = stepL D k := ⟨_, rfl⟩
  rw [← hD'] at e ⊢
  have hcl : ∀ j : Nat, j ≠ k → D'.cl j = D.cl j := fun j hj => by rw [e]; exact updF_other _ _ hj
  have hck : D'.cl k = ⟨1, 4, (a0 : Int)⟩ := by rw [e]; exact updF_same _ _ _
  have hnx : ∀ j : Nat, j ≠ a0 → D'.nx j = D.nx j := fun j hj => by rw [e]; exact updF_other _ _ hj
  have hna' : D'.nx a0 = (k : Int) := by rw [e]; exact updF_same _ _ _
  have hwt : D'.wt = D.wt := by rw [e]
  have htl : D'.tail = D.tail := by rw [e]
  have hn : D'.n = D.n := by rw [e]
  clear e hD'
  have at0 : ∀ i : Nat, q[i]? = some a0 → i = j0 := fun i hi => h.nd _ _ _ hi ha0
  have at1 : ∀ i : Nat, q[i]? = some k → i = j0 + 1 := fun i hi => h.nd _ _ _ hi hi0
  have l1 := (List.getElem?_eq_some_iff.1 hi0).1
  refine ⟨h.nd, ?_, ?_, fun e => htl.trans (h.tl0 e), ?_, ?_, ?_, ?_, ?_, ?_, ?_, ?_⟩
  · intro i p hi
    by_cases e : p = k
    · rw [e, hn, hck]; exact ⟨hk, .inl ⟨rfl, by simp⟩⟩
    · rw [hcl p e, hn]; exact h.lt i p hi
  · intro p hp hx
    by_cases e : p = k
    · exact ⟨_, e ▸ hi0⟩
    · rw [hcl p e] at hx; exact h.mem p (hn ▸ hp) hx
  · intro i p hi hl
    by_cases e : p = a0
    · have := at0 i (e ▸ hi); omega
    · rw [htl, hnx p e]; exact h.tl i p hi hl
  · intro p hi
    by_cases e : p = k
    · have := at1 0 (e ▸ hi); omega
    · rw [hcl p e, hwt]; exact h.head p hi
  · intro i p hi
    by_cases e : p = k
    · rw [e, hck, hwt]; exact ⟨rfl, (h.rest j0 k hi0).2⟩
    · rw [hcl p e, hwt]; exact h.rest i p hi
  · intro i a p ha hi
    by_cases e : p = k
    · rw [e, hck]; simp
    · by_cases f : a = a0
      · have x := at0 i (f ▸ ha)
        rw [x, hi0] at hi; exact absurd (Option.some.inj hi).symm e
      · rw [hcl p e, hnx a f]; exact h.l3 i a p ha hi
  · intro i a p ha hi
    by_cases e : p = k
    · have x := at1 (i + 1) (e ▸ hi)
      have y : i = j0 := by omega
      rw [y, ha0] at ha
      rw [← Option.some.inj ha, e, hna']; intro _; rfl
    · by_cases f : a = a0
      · have x := at0 i (f ▸ ha)
        rw [x, hi0] at hi; exact absurd (Option.some.inj hi).symm e
      · rw [hcl p e, hnx a f]; exact h.l4 i a p ha hi
  · intro p hp hs7 hp7
    by_cases e : p = k
    · rw [e, hck] at hp7; simp at hp7
    · rw [hcl p e] at hs7 hp7 ⊢
      obtain ⟨c, a1, a2, a3, a4⟩ := h.s7 p (hn ▸ hp) hs7 hp7
      refine ⟨c, a1, a2, a3, ?_⟩
      by_cases x : c = k
      · rw [x, hck]
      · rw [hcl c x]; exact a4
  · intro p hp
    by_cases e : p = k
    · rw [e, hck]; simp
    · rw [hcl p e]
      intro b1 b2 b3
      have : p ≠ a0 := fun x => notin h (k := p) (.inl ⟨b1, b3⟩) j0 (x ▸ ha0)
      rw [hnx p this]; exact h.t1 p (hn ▸ hp) b1 b2 b3
  · intro p hp
    by_cases e : p = k
    · rw [e, hck]; simp
    · rw [hcl p e, hwt]; exact h.t2 p (hn ▸ hp)
theorem first_of (h : QInv D q) {i0 : Nat} (hi0 : q[i0]? = some k) (hs : (D.cl k).st ≠ 1) : i0 = 0 := by
  cases i0 with
  | zero => rfl
  | succ j => exact absurd (h.rest j k hi0).1 hs
theorem qinv_4 (h : QInv D q) (hk : k < D.n) (hc : D.cl k = ⟨1, 4, o⟩) : QInv (stepL D k) q := by
  have e : stepL D k = { D with cl := updF D.cl k ⟨if D.wt k = true then 1 else 2, 4, o⟩ } := by unfold stepL; simp [hc]
  obtain ⟨i0, hi0⟩ := h.mem k hk (by simp [hc])
  rw [e]
  refine qinv_in h hi0 (fun j hj => updF_other _ _ hj) rfl rfl rfl rfl ?_ ?_ ?_ ?_
  · simp only [updF_same]; split <;> simp
  · rintro rfl; simp only [updF_same]; intro _; exact ⟨trivial, (h.head k hi0 (by simp [hc])).2⟩
  · intro hp
    simp only [updF_same]
    obtain ⟨j, rfl⟩ : ∃ j, i0 = j + 1 := ⟨i0 - 1, by omega⟩
    rw [if_pos (h.rest j k hi0).2, hc]; exact ⟨rfl, rfl, rfl⟩
  · simp only [updF_same]; intro _ x; cases x
theorem qinv_5 (h : QInv D q) (hN : Nice D) (hk : k < D.n) (hc : D.cl k = ⟨3, 5, o⟩) : QInv (stepL D k) q := by
  have e : stepL D k = { D with cl := updF D.cl k ⟨3, if D.nx k = -1 then 6 else 7, D.nx k⟩ } := by unfold stepL; simp [hc]
  obtain ⟨i0, hi0⟩ := h.mem k hk (by simp [hc])
  obtain rfl := first_of h hi0 (by simp [hc])
  rw [e]
  refine qinv_in h hi0 (fun j hj => updF_other _ _ hj) rfl rfl rfl rfl ?_ ?_ ?_ ?_
  · simp [updF_same]
  · simp [updF_same]
  · intro x; omega
  · simp only [updF_same]
    intro _ x
    have hx : D.nx k ≠ -1 := by intro y; rw [if_pos y] at x; cases x
    have l0 := (List.getElem?_eq_some_iff.1 hi0).1
    by_cases l1 : 1 < q.length
    · have hc1 : q[1]? = some q[1] := List.getElem?_eq_getElem l1
      have r := (h.rest 0 _ hc1).1
      have m := (h.lt 1 _ hc1).2
      have nn := (hN.each _ (h.lt 1 _ hc1).1).s1 r
      have n3 : (D.cl q[1]).sp ≠ 3 := fun y => hx (h.l3 0 k _ hi0 hc1 y).2
      have n4 : (D.cl q[1]).sp = 4 := by omega
      exact ⟨q[1], hi0, hc1, h.l4 0 k _ hi0 hc1 n4, n4⟩
    · exact absurd (h.tl 0 k hi0 (by omega)).2 hx
theorem qinv_6a (h : QInv D q) (hk : k < D.n) (hc : D.cl k = ⟨3, 6, o⟩) (ht : D.tail = (k : Int)) : q = [k] ∧ QInv (stepL D k) [] := by
  have e : stepL D k = { D with tail := -1, cl := updF D.cl k ⟨0, 5, o⟩ } := by unfold stepL; simp [hc, ht]
  obtain ⟨i0, hi0⟩ := h.mem k hk (by simp [hc])
  obtain rfl := first_of h hi0 (by simp [hc])
  have l0 := (List.getElem?_eq_some_iff.1 hi0).1
  have hl : q.length = 1 := by
    have x : q[q.length - 1]? = some (q[q.length - 1]'(by omega)) := List.getElem?_eq_getElem (by omega)
    have y := (h.tl _ _ x (by omega)).1
    rw [ht] at y
    have := h.nd 0 (q.length - 1) k hi0 (by rw [x]; congr 1; omega)
    omega
  have hq : q = [k] := by
    match q, hl with
    | [a], _ => simp at hi0; rw [hi0]
  refine ⟨hq, ?_⟩
  have only : ∀ p : Nat, p < D.n → p ≠ k → ¬ (((D.cl p).st = 1 ∧ 3 ≤ (D.cl p).sp) ∨ (D.cl p).st = 2 ∨ (D.cl p).st = 3) := fun p hp hne x => by
    obtain ⟨i, hi⟩ := h.mem p hp x
    rw [hq] at hi
    cases i with
    | zero => simp at hi; exact hne hi.symm
    | succ j => simp at hi
  rw [e]
  refine ⟨by simp, by simp, ?_, fun _ => rfl, by simp, by simp, by simp, by simp, by simp, ?_, ?_, ?_⟩
  · intro p hp hx
    by_cases f : p = k
    · subst f; simp [updF_same] at hx
    · simp only [updF_other _ _ f] at hx; exact absurd hx (only p hp f)
  · intro p hp hs hp7
    by_cases f : p = k
    · subst f; simp [updF_same] at hs
    · simp only [updF_other _ _ f] at hs; exact absurd (.inr (.inr hs)) (only p hp f)
  · intro p hp
    by_cases f : p = k
    · subst f; simp [updF_same]
    · simp only [updF_other _ _ f]; exact h.t1 p hp
  · intro p hp
    by_cases f : p = k
    · subst f; simp [updF_same]
    · simp only [updF_other _ _ f]; exact h.t2 p hp
theorem qinv_6b (h : QInv D q) (hk : k < D.n) (hc : D.cl k = ⟨3, 6, o⟩) (ht : D.tail ≠ (k : Int)) : QInv (stepL D k) q := by
  have e : stepL D k = { D with cl := updF D.cl k ⟨3, 5, o⟩ } := by unfold stepL; simp [hc, ht]
  obtain ⟨i0, hi0⟩ := h.mem k hk (by simp [hc])
  obtain rfl := first_of h hi0 (by simp [hc])
  rw [e]
  refine qinv_in h hi0 (fun j hj => updF_other _ _ hj) rfl rfl rfl rfl ?_ ?_ ?_ ?_
  · simp [updF_same]
  · simp [updF_same]
  · intro x; omega
  · simp [updF_same]
theorem qinv_7 (h : QInv D q) (hk : k < D.n) (hc : D.cl k = ⟨3, 7, o⟩) : ∃ c r, q = k :: c :: r ∧ QInv (stepL D k) (c :: r) := by
  obtain ⟨c, a1, a2, a3, a4⟩ := h.s7 k hk (by simp [hc]) (by simp [hc])
  obtain ⟨r, rfl⟩ : ∃ r, q = k :: c :: r := by
    match q with
    | [] => simp at a1
    | [x] => simp at a2
    | x :: y :: r => simp at a1 a2; exact ⟨r, by rw [a1, a2]⟩
  refine ⟨c, r, rfl, ?_⟩
  rw [hc] at a3
  obtain rfl : o = (c : Int) := a3
  have e : stepL D k = { D with wt := updF D.wt c false, cl := updF D.cl k ⟨0, 8, (c : Int)⟩ } := by unfold stepL; simp [hc]
  have hkc : c ≠ k := fun x => by have := h.nd 0 1 k rfl (by simp [x]); omega
  have nk : ∀ i p : Nat, (c :: r)[i]? = some p → p ≠ k := fun i p hi x => by
    have := h.nd 0 (i + 1) k rfl (by rw [List.getElem?_cons_succ]; exact x ▸ hi); omega
  have nc : ∀ i p : Nat, (c :: r)[i + 1]? = some p → p ≠ c := fun i p hi x => by
    have := h.nd 1 (i + 1 + 1) c rfl (by rw [List.getElem?_cons_succ]; exact x ▸ hi); omega
  rw [e]
  refine ⟨?_, ?_, ?_, by simp, ?_, ?_, ?_, ?_, ?_, ?_, ?_, ?_⟩
  · intro i j p hi hj
    have := h.nd (i + 1) (j + 1) p (by rw [List.getElem?_cons_succ]; exact hi) (by rw [List.getElem?_cons_succ]; exact hj)
    omega
  · intro i p hi
    simp only [updF_other _ _ (nk i p hi)]
    exact h.lt (i + 1) p (by rw [List.getElem?_cons_succ]; exact hi)
  · intro p hp hx
    by_cases f : p = k
    · subst f; simp [updF_same] at hx
    · simp only [updF_other _ _ f] at hx
      obtain ⟨i, hi⟩ := h.mem p hp hx
      cases i with
      | zero => simp at hi; exact absurd hi.symm f
      | succ j => rw [List.getElem?_cons_succ] at hi; exact ⟨j, hi⟩
  · intro i p hi hl
    exact h.tl (i + 1) p (by rw [List.getElem?_cons_succ]; exact hi) (by simp at hl ⊢; omega)
  · intro p hi
    obtain rfl : c = p := by simpa using hi
    simp only [updF_other _ _ hkc, updF_same]
    intro _; exact ⟨a4, trivial⟩
  · intro i p hi
    simp only [updF_other _ _ (nk (i + 1) p hi), updF_other _ _ (nc i p hi)]
    exact h.rest (i + 1) p (by rw [List.getElem?_cons_succ]; exact hi)
  · intro i a p ha hi
    simp only [updF_other _ _ (nk (i + 1) p hi)]
    exact h.l3 (i + 1) a p (by rw [List.getElem?_cons_succ]; exact ha) (by rw [List.getElem?_cons_succ]; exact hi)
  · intro i a p ha hi
    simp only [updF_other _ _ (nk (i + 1) p hi)]
    exact h.l4 (i + 1) a p (by rw [List.getElem?_cons_succ]; exact ha) (by rw [List.getElem?_cons_succ]; exact hi)
  · intro p hp hs hp7
    by_cases f : p = k
    · subst f; simp [updF_same] at hs
    · simp only [updF_other _ _ f] at hs hp7
      obtain ⟨i, hi⟩ := h.mem p hp (.inr (.inr hs))
      have := first_of h hi (by omega)
      subst this
      simp at hi; exact absurd hi.symm f
  · intro p hp
    by_cases f : p = k
    · subst f; simp [updF_same]
    · simp only [updF_other _ _ f]; exact h.t1 p hp
  · intro p hp
    by_cases f : p = k
    · subst f; simp [updF_same]
    · simp only [updF_other _ _ f]
      intro b1 b2
      have : p ≠ c := fun x => notin h (k := p) (.inl ⟨b1, by omega⟩) 1 (x ▸ rfl)
      rw [updF_other _ _ this]; exact h.t2 p hp b1 b2
/-- Whoever steps, the row stays one. -/
theorem qinv_step (h : QInv D q) (hN : Nice D) (hk : k < D.n) (ha : (D.cl k).st = 1 ∨ (D.cl k).st = 3) : QInv (stepL D k) (qstep D k q) := by
  have K := hN.each k hk
  have k1 := K.s1; have k3 := K.s3
  obtain ⟨s, p, o, hc⟩ : ∃ s p o, D.cl k = ⟨s, p, o⟩ := ⟨_, _, _, rfl⟩
  simp only [hc] at ha k1 k3
  unfold qstep
  simp only [hc]
  match p, hc with
  | 0, hc => obtain rfl : s = 1 := by omega
             simpa using qinv_0 h hk hc
  | 1, hc => obtain rfl : s = 1 := by omega
             simpa using qinv_1 h hk hc
  | 2, hc => obtain rfl : s = 1 := by omega
             simpa using qinv_2 h hk hc
  | 3, hc => obtain rfl : s = 1 := by omega
             simpa using qinv_3 h hk hc
  | 4, hc => obtain rfl : s = 1 := by omega
             simpa using qinv_4 h hk hc
  | 5, hc => obtain rfl : s = 3 := by omega
             simpa using qinv_5 h hN hk hc
  | 6, hc => obtain rfl : s = 3 := by omega
             by_cases ht : D.tail = (k : Int)
             · obtain ⟨rfl, h'⟩ := qinv_6a h hk hc ht
               simpa [ht] using h'
             · simpa [ht] using qinv_6b h hk hc ht
  | 7, hc => obtain rfl : s = 3 := by omega
             obtain ⟨c, r, rfl, h'⟩ := qinv_7 h hk hc
             simpa using h'
  | p + 8, hc => omega
theorem qinv_begT (h : QInv D q) (k : Int) (fr sp : Nat) (hf : fr = 0 ∧ sp = 0 ∨ fr = 2 ∧ sp = 5) : QInv (begT D k fr sp) q := by
  unfold begT
  split
  case isFalse => exact h
  case isTrue hc =>
    obtain ⟨hi, hs⟩ := hc
    have hk : k.toNat < D.n := by unfold isN at hi; omega
    rcases hf with ⟨rfl, rfl⟩ | ⟨rfl, rfl⟩
    · exact qinv_far h hk (fun j hj => updF_other _ _ hj) (fun j hj => rfl) (fun j hj => rfl) rfl rfl (notin h (.inr hs)) (by simp [updF_same]) (by simp [updF_same]) (by simp [updF_same])
    · obtain ⟨i0, hi0⟩ := h.mem k.toNat hk (.inr (.inl hs))
      obtain rfl := first_of h hi0 (by omega)
      refine qinv_in h hi0 (fun j hj => updF_other _ _ hj) rfl rfl rfl rfl ?_ ?_ ?_ ?_
      · simp [updF_same]
      · simp [updF_same]
      · intro x; omega
      · simp [updF_same]
end
end Go.Proofs.Ytckdabokaelnoaa
