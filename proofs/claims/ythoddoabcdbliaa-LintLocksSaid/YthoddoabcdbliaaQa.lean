/- Had and not had, place by place (layer 26), told plainly. -/
import Derived.Test.YthoddoabcdbliaaPc
import Derived.Test.YthoddoabcdbliaaMh
namespace Go.Proofs.Ythoddoabcdbliaa

def takesB (x : I4) (b : Nat) (locks : Int) : Bool := decide (x.op = 9 ∧ x.n = b ∧ (b : Int) < locks)
def givesB (x : I4) (b : Nat) : Bool := decide (x.op = 10 ∧ x.n = b)
/-- Is it had behind an instruction? -/
def nxtB (x : I4) (b : Nat) (locks : Int) (s : Bool) : Bool := if takesB x b locks then true else if givesB x b then false else s
theorem not_both (x : I4) (b : Nat) (locks : Int) : ¬ (takesB x b locks = true ∧ givesB x b = true) := by
  rintro ⟨h, g⟩
  have := of_decide_eq_true h; have := of_decide_eq_true g; omega
/-- A task can be at the place, and have the lock or not. -/
inductive Had (l : List I4) (b : Nat) (locks : Int) : Bool → Nat → Prop
  | zero : Had l b locks false 0
  | step {s : Bool} {k j : Nat} {x : I4} : Had l b locks s k → l[k]? = some x → (j : Int) ∈ nextP x k → Had l b locks (nxtB x b locks s) j
section
variable {l : List I4} {b : Nat} {locks : Int}
theorem Had.rch {s : Bool} {k : Nat} (h : Had l b locks s k) : Rch l k := by
  induction h with
  | zero => exact .zero
  | step _ hx hj ih => exact .step ih hx hj
theorem rch_had {k : Nat} (h : Rch l k) : ∃ s, Had l b locks s k := by
  induction h with
  | zero => exact ⟨_, .zero⟩
  | step _ hx hj ih => obtain ⟨s, hs⟩ := ih; exact ⟨_, .step hs hx hj⟩
theorem Had.lt {k : Nat} {s : Bool} (h : Had l b locks s k) (hs : s = true) : (b : Int) < locks := by
  induction h with
  | zero => cases hs
  | @step s k j x _ hx hj ih =>
    cases s with
    | true => exact ih rfl
    | false =>
      unfold nxtB at hs
      split at hs
      · rename_i q; exact (of_decide_eq_true q).2.2
      · split at hs <;> cases hs
theorem bhP_nxt (x : I4) (s : Nat → Bool) : bhP x s (allP locks) b = nxtB x b locks (s b) := by
  unfold bhP nxtB takesB givesB allP
  by_cases h9 : x.op = 9
  · rw [if_pos h9]
    by_cases e : x.n = (b : Int)
    · by_cases q : (b : Int) < locks
      · rw [if_pos (by simp [h9, e, q])]; simp [e, q]
      · rw [if_neg (by simp [h9, e, q]), if_neg (by simp [h9])]; simp [q]
    · rw [if_neg (by simp [h9, e]), if_neg (by simp [h9])]
      have : ¬ (b : Int) = x.n := fun q => e q.symm
      simp [this]
  · by_cases h10 : x.op = 10
    · by_cases e : x.n = (b : Int)
      · simp [h10, e]
      · have : ¬ (b : Int) = x.n := fun q => e q.symm
        simp [h10, e, this]
    · simp [h9, h10]
end
/-- May: what is had. -/
def mayI (l : List I4) (locks : Int) (F : Nat → Nat → Bool) : Prop := ∀ j b, F j b = true → Had l b locks true j
def mayBI (l : List I4) (locks : Int) (pc : Nat) (B : Nat → Bool) : Prop := ∀ b, B b = true → ∀ (x : I4) (j : Nat), l[pc]? = some x → (j : Int) ∈ nextP x pc → Had l b locks true j
theorem may_B (l : List I4) (locks : Int) (F : Nat → Nat → Bool) (pc : Nat) (x : I4) (h : mayI l locks F) (hr : Rch l pc) (hx : l[pc]? = some x) : mayBI l locks pc (bhP x (F pc) (allP locks)) := fun b hb y j hy hj => by
  rw [hx] at hy; cases hy
  rw [bhP_nxt] at hb
  cases e : F pc b with
  | true => rw [e] at hb; have := Had.step (h pc b e) hx hj; rwa [hb] at this
  | false =>
    rw [e] at hb
    obtain ⟨s, hs⟩ := rch_had (b := b) (locks := locks) hr
    have := Had.step hs hx hj
    have e2 : nxtB x b locks s = true := by
      unfold nxtB at hb ⊢
      split at hb
      · rename_i q; rw [if_pos q]
      · split at hb <;> cases hb
    rwa [e2] at this
theorem may_S (l : List I4) (locks : Int) (F : Nat → Nat → Bool) (pc : Nat) (x : I4) (j : Nat) (B : Nat → Bool) (h : mayI l locks F) (_ : Rch l pc) (hx : l[pc]? = some x) (hj : (j : Int) ∈ nextP x pc) (hB : mayBI l locks pc B) : mayI l locks (upd F j (fun k => F j k || B k)) := fun i b hb => by
  unfold upd at hb
  split at hb
  · rename_i e; subst e
    rcases Bool.or_eq_true_iff.1 hb with q | q
    · exact h _ _ q
    · exact hB b q x i hx hj
  · exact h _ _ hb
theorem may_done {l : List I4} {locks : Int} {F : Nat → Nat → Bool} (h : mayI l locks F) (hc : MayC l locks F) {b : Nat} (hb : b < 16) (j : Nat) : F j b = true ↔ Had l b locks true j := by
  refine ⟨h j b, fun hh => ?_⟩
  have key : ∀ s k, Had l b locks s k → s = true → F k b = true := by
    intro s k hh
    induction hh with
    | zero => intro q; cases q
    | @step s k j x hk hx hj ih =>
      intro q
      have := hc k x hk.rch hx j hj b hb
      rw [bhP_nxt] at this
      rw [← this]
      have e : nxtB x b locks (F k b) = true := by
        cases s with
        | true => rw [ih rfl]; exact q
        | false =>
          unfold nxtB at q ⊢
          split at q
          · rename_i z; rw [if_pos z]
          · split at q <;> cases q
      rw [e, Bool.or_true]
  exact key _ _ hh rfl
/-- Must: had, and on no way not had. -/
def Sure (l : List I4) (b : Nat) (locks : Int) (j : Nat) : Prop := Had l b locks true j ∧ ¬ Had l b locks false j
structure mustI (l : List I4) (locks : Int) (F : Nat → Nat → Bool) : Prop where
  low : ∀ j b, Sure l b locks j → F j b = true
  up : ∀ j b, F j b = true → Rch l j
  zero : ∀ b, F 0 b = false
def mustBI (l : List I4) (locks : Int) (pc : Nat) (B : Nat → Bool) : Prop := ∀ b (x : I4) (j : Nat), l[pc]? = some x → (j : Int) ∈ nextP x pc → Sure l b locks j → B b = true
theorem must_0 {l : List I4} {locks : Int} {prio : Int} (hf : Fine prio l) (hn : ∀ (k : Nat) (x : I4), l[k]? = some x → In32 x.n) (S : Nat → Bool) (hS : ∀ k, S k = true ↔ Rch l k) (M : Nat → Nat → Bool) (hM : ∀ i k, M i k = (decide (i < l.length) && (decide (0 < i) && (S i && allP locks k)))) : mustI l locks M := by
  refine ⟨fun j b hs => ?_, fun j b h => ?_, fun b => by rw [hM]; simp⟩
  · rw [hM]
    have hr := hs.1.rch
    have h1 : j < l.length := Rch.lt hf hn hr
    have h2 : 0 < j := by
      rcases Nat.eq_zero_or_pos j with e | e
      · subst e; exact absurd Had.zero hs.2
      · exact e
    have h3 := (hS j).2 hr
    have h4 := hs.1.lt rfl
    simp [h1, h2, h3, allP, h4]
  · rw [hM] at h
    simp at h
    exact (hS j).1 h.2.2.1
theorem must_B (l : List I4) (locks : Int) (F : Nat → Nat → Bool) (pc : Nat) (x : I4) (h : mustI l locks F) (hr : Rch l pc) (hx : l[pc]? = some x) : mustBI l locks pc (bhP x (F pc) (allP locks)) := fun b y j hy hj hs => by
  rw [hx] at hy; cases hy
  rw [bhP_nxt]
  have hall : ∀ s, Had l b locks s pc → nxtB x b locks s = true := fun s hh => by
    cases e : nxtB x b locks s with
    | true => rfl
    | false => have := Had.step hh hx hj; rw [e] at this; exact absurd this hs.2
  obtain ⟨s, hsp⟩ := rch_had (b := b) (locks := locks) hr
  by_cases ht : takesB x b locks = true
  · unfold nxtB; rw [if_pos ht]
  · by_cases hg : givesB x b = true
    · have := hall s hsp
      unfold nxtB at this; rw [if_neg ht, if_pos hg] at this; cases this
    · have hid : ∀ s, nxtB x b locks s = s := fun s => by unfold nxtB; rw [if_neg ht, if_neg hg]
      rw [hid]
      refine h.low pc b ⟨?_, fun q => ?_⟩
      · have := hall s hsp; rw [hid] at this; rwa [this] at hsp
      · have := hall false q; rw [hid] at this; cases this
theorem must_S (l : List I4) (locks : Int) (F : Nat → Nat → Bool) (pc : Nat) (x : I4) (j : Nat) (B : Nat → Bool) (h : mustI l locks F) (_ : Rch l pc) (hx : l[pc]? = some x) (hj : (j : Int) ∈ nextP x pc) (hB : mustBI l locks pc B) : mustI l locks (upd F j (fun k => F j k && B k)) := by
  refine ⟨fun i b hs => ?_, fun i b hb => ?_, fun b => ?_⟩
  · unfold upd; split
    · rename_i e; subst e
      show (F i b && B b) = true
      rw [h.low i b hs, hB b x i hx hj hs]; rfl
    · exact h.low i b hs
  · unfold upd at hb; split at hb
    · rename_i e; subst e
      exact h.up i b (Bool.and_eq_true_iff.1 hb).1
    · exact h.up i b hb
  · unfold upd; split
    · rename_i e; subst e; simp [h.zero]
    · exact h.zero b
theorem must_done {l : List I4} {locks : Int} {F : Nat → Nat → Bool} (h : mustI l locks F) (hc : ∀ pc x, Rch l pc → l[pc]? = some x → ∀ j : Nat, (j : Int) ∈ nextP x pc → ∀ b, b < 16 → (F j b && bhP x (F pc) (allP locks) b) = F j b) {b : Nat} (hb : b < 16) (j : Nat) : F j b = true ↔ Sure l b locks j := by
  refine ⟨fun hj => ?_, h.low j b⟩
  have key : ∀ s k, Had l b locks s k → s = false → F k b = false := by
    intro s k hh
    induction hh with
    | zero => intro _; exact h.zero b
    | @step s k j x hk hx hj ih =>
      intro q
      cases e : F j b with
      | false => rfl
      | true =>
        have := hc k x hk.rch hx j hj b hb
        rw [bhP_nxt, e, Bool.true_and] at this
        cases s with
        | false => rw [ih rfl, q] at this; cases this
        | true =>
          have z : ∀ t, nxtB x b locks t = false := fun t => by
            unfold nxtB at q ⊢
            split at q
            · cases q
            · split at q
              · rename_i h1 h2; rw [if_neg h1, if_pos h2]
              · cases q
          rw [z] at this; cases this
  have hnf : ¬ Had l b locks false j := fun q => by rw [key _ _ q rfl] at hj; cases hj
  obtain ⟨s, hs⟩ := rch_had (b := b) (locks := locks) (h.up j b hj)
  cases s with
  | true => exact ⟨hs, hnf⟩
  | false => exact absurd hs hnf
/-- What the document turns: had after a, not had after a. -/
def wB (x : I4) (b : Nat) (locks : Int) (W O : Bool) : Bool := (W || (takesB x b locks && O)) && !givesB x b
def oB (x : I4) (b : Nat) (locks : Int) (W O : Bool) : Bool := (O && !takesB x b locks) || (givesB x b && (W || O))
structure HInv (l : List I4) (b : Nat) (locks : Int) (W O : Nat → Bool) : Prop where
  w : ∀ k, W k = true → Had l b locks true k
  o : ∀ k, O k = true → Had l b locks false k
  z : O 0 = true
theorem HInv.start (l : List I4) (b : Nat) (locks : Int) : HInv l b locks (fun _ => false) (fun i => decide (i = 0)) :=
  ⟨fun _ h => (by cases h), fun k h => (by obtain rfl := of_decide_eq_true h; exact .zero), rfl⟩
theorem HInv.put {l : List I4} {b : Nat} {locks : Int} {W O : Nat → Bool} (h : HInv l b locks W O) {a c : Nat} {x : I4} (hx : l[a]? = some x) (hj : (c : Int) ∈ nextP x a) :
    HInv l b locks (fun i => if i = c then W c || wB x b locks (W a) (O a) else W i) (fun i => if i = c then O c || oB x b locks (W a) (O a) else O i) := by
  have nb := not_both x b locks
  refine ⟨fun k hk => ?_, fun k hk => ?_, ?_⟩
  · split at hk
    · rename_i e; subst e
      rcases Bool.or_eq_true_iff.1 hk with q | q
      · exact h.w _ q
      · unfold wB at q
        simp only [Bool.and_eq_true, Bool.or_eq_true, Bool.not_eq_true'] at q
        obtain ⟨q1 | ⟨q1, q2⟩, q3⟩ := q
        · have := Had.step (h.w a q1) hx hj
          have e : nxtB x b locks true = true := by unfold nxtB; split <;> simp [q3]
          rwa [e] at this
        · have := Had.step (h.o a q2) hx hj
          have e : nxtB x b locks false = true := by unfold nxtB; rw [if_pos q1]
          rwa [e] at this
    · exact h.w _ hk
  · split at hk
    · rename_i e; subst e
      rcases Bool.or_eq_true_iff.1 hk with q | q
      · exact h.o _ q
      · unfold oB at q
        simp only [Bool.and_eq_true, Bool.or_eq_true, Bool.not_eq_true'] at q
        rcases q with ⟨q1, q2⟩ | ⟨q1, q2⟩
        · have := Had.step (h.o a q1) hx hj
          have e : nxtB x b locks false = false := by unfold nxtB; rw [if_neg (by simp [q2])]; split <;> rfl
          rwa [e] at this
        · have ht : ¬ takesB x b locks = true := fun z => nb ⟨z, q1⟩
          have e : ∀ s, nxtB x b locks s = false := fun s => by unfold nxtB; rw [if_neg ht, if_pos q1]
          rcases q2 with q2 | q2
          · have := Had.step (h.w a q2) hx hj; rwa [e] at this
          · have := Had.step (h.o a q2) hx hj; rwa [e] at this
    · exact h.o _ hk
  · split
    · rename_i e; subst e; simp [h.z]
    · exact h.z
/-- Something still turns from a to c. -/
def HOpn (l : List I4) (b : Nat) (locks : Int) (W O : Nat → Bool) (a c : Nat) : Prop := ∃ x, l[a]? = some x ∧ (c : Int) ∈ nextP x a ∧ ((wB x b locks (W a) (O a) = true ∧ W c = false) ∨ (oB x b locks (W a) (O a) = true ∧ O c = false))
theorem HInv.done {prio : Int} {l : List I4} {b : Nat} {locks : Int} {W O : Nat → Bool} (h : HInv l b locks W O) (hf : Fine prio l) (hn : ∀ (k : Nat) (x : I4), l[k]? = some x → In32 x.n)
    (hc : ∀ a c, a < l.length → c < l.length → ¬ HOpn l b locks W O a c) : (∀ k, W k = true ↔ Had l b locks true k) ∧ (∀ k, O k = true ↔ Had l b locks false k) := by
  have key : ∀ s k, Had l b locks s k → (if s then W k else O k) = true := by
    intro s k hh
    induction hh with
    | zero => exact h.z
    | @step s a c x ha hx hj ih =>
      have hal := Rch.lt hf hn ha.rch
      have hcl := Rch.lt hf hn (Had.step ha hx hj).rch
      have hno := hc a c hal hcl
      have nb := not_both x b locks
      have hw : wB x b locks (W a) (O a) = true → W c = true := fun q => by
        cases e : W c with
        | true => rfl
        | false => exact absurd ⟨x, hx, hj, .inl ⟨q, e⟩⟩ hno
      have ho : oB x b locks (W a) (O a) = true → O c = true := fun q => by
        cases e : O c with
        | true => rfl
        | false => exact absurd ⟨x, hx, hj, .inr ⟨q, e⟩⟩ hno
      by_cases ht : takesB x b locks = true
      · have hg : givesB x b = false := by
          cases e : givesB x b with
          | false => rfl
          | true => exact absurd ⟨ht, e⟩ nb
        have e : nxtB x b locks s = true := by unfold nxtB; rw [if_pos ht]
        rw [e, if_pos rfl]
        apply hw
        unfold wB; rw [ht, hg]
        cases s with
        | true => simp only [↓reduceIte] at ih; simp [ih]
        | false => simp only [Bool.false_eq_true, ↓reduceIte] at ih; simp [ih]
      · have ht' : takesB x b locks = false := by simpa using ht
        by_cases hg : givesB x b = true
        · have e : nxtB x b locks s = false := by unfold nxtB; rw [if_neg ht, if_pos hg]
          rw [e, if_neg (by simp)]
          apply ho
          unfold oB; rw [ht', hg]
          cases s with
          | true => simp only [↓reduceIte] at ih; simp [ih]
          | false => simp only [Bool.false_eq_true, ↓reduceIte] at ih; simp [ih]
        · have hg' : givesB x b = false := by simpa using hg
          have e : nxtB x b locks s = s := by unfold nxtB; rw [if_neg ht, if_neg hg]
          rw [e]
          cases s with
          | true =>
            simp only [↓reduceIte] at ih ⊢
            apply hw; unfold wB; rw [hg']; simp [ih]
          | false =>
            simp only [Bool.false_eq_true, ↓reduceIte] at ih ⊢
            apply ho; unfold oB; rw [ht']; simp [ih]
  exact ⟨fun k => ⟨h.w k, fun q => by simpa using key _ _ q⟩, fun k => ⟨h.o k, fun q => by simpa using key _ _ q⟩⟩
end Go.Proofs.Ythoddoabcdbliaa
