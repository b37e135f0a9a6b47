/- Straight ways (layer 26), told plainly. -/
import Derived.Test.YthoddoabcdbliaaPc
import Derived.Test.YthoddoabcdbliaaMb
namespace Go.Proofs.Ythoddoabcdbliaa

/-- Does it end a straight way? -/
def stopB (x : I4) : Bool := decide (x.op = 6 ∨ (8 ≤ x.op ∧ x.op ≤ 11) ∨ x.op = 14)
/-- Can so many instructions be done from k on, none of which stops? -/
def Way (l : List I4) : Nat → Nat → Prop
  | 0, _ => True
  | n + 1, k => ∃ x, l[k]? = some x ∧ stopB x = false ∧ ∃ j : Nat, (j : Int) ∈ nextP x k ∧ Way l n j
theorem Way.less {l : List I4} : ∀ {n k : Nat}, Way l (n + 1) k → Way l n k
  | 0, _, _ => trivial
  | _ + 1, _, ⟨x, hx, hs, j, hj, h⟩ => ⟨x, hx, hs, j, hj, h.less⟩
theorem Way.le {l : List I4} {m n k : Nat} (h : Way l n k) (hm : m ≤ n) : Way l m k := by
  induction n with
  | zero => obtain rfl : m = 0 := by omega
            exact trivial
  | succ n ih =>
    by_cases e : m = n + 1
    · subst e; exact h
    · exact ih h.less (by omega)
/-- Where tasks at the first places go on. -/
def onT (l : List I4) (S : Nat → Bool) : Nat → Nat → Bool
  | 0, _ => false
  | k + 1, j => onT l S k j || (S k && (match l[k]? with
    | some x => !stopB x && decide ((j : Int) ∈ nextP x k)
    | none => false))
theorem onT_iff (l : List I4) (S : Nat → Bool) (n j : Nat) : onT l S n j = true ↔ ∃ k x, k < n ∧ S k = true ∧ l[k]? = some x ∧ stopB x = false ∧ (j : Int) ∈ nextP x k := by
  induction n with
  | zero => simp [onT]
  | succ n ih =>
    rw [onT, Bool.or_eq_true, ih]
    constructor
    · rintro (⟨k, x, h, r⟩ | h)
      · exact ⟨k, x, by omega, r⟩
      · cases e : l[n]? with
        | none => simp [e] at h
        | some x => simp [e] at h; exact ⟨n, x, by omega, h.1, e, h.2.1, h.2.2⟩
    · rintro ⟨k, x, h, h1, h2, h3, h4⟩
      by_cases e : k = n
      · subst e; right; simp [h1, h2, h3, h4]
      · left; exact ⟨k, x, by omega, h1, h2, h3, h4⟩
/-- Where tasks are after n straight steps from k. -/
def itS (l : List I4) (pc : Nat) : Nat → Nat → Bool
  | 0 => fun j => decide (j = pc)
  | n + 1 => onT l (itS l pc n) l.length
theorem itS_way (l : List I4) (pc : Nat) : ∀ n m : Nat, (∃ j, itS l pc n j = true ∧ Way l m j) ↔ Way l (n + m) pc
  | 0, m => by simp [itS]
  | n + 1, m => by
    rw [show n + 1 + m = n + (m + 1) by omega, ← itS_way l pc n (m + 1)]
    constructor
    · rintro ⟨j, hj, hw⟩
      obtain ⟨k, x, _, hs, hx, hn, hm⟩ := (onT_iff l _ _ j).1 hj
      exact ⟨k, hs, x, hx, hn, j, hm, hw⟩
    · rintro ⟨k, hs, x, hx, hn, j, hm, hw⟩
      exact ⟨j, (onT_iff l _ _ j).2 ⟨k, x, (List.getElem?_eq_some_iff.1 hx).1, hs, hx, hn, hm⟩, hw⟩
theorem itS_some (l : List I4) (pc n : Nat) : (∃ j, itS l pc n j = true) ↔ Way l n pc := by
  have := itS_way l pc n 0
  simpa [Way] using this
theorem itS_in {prio : Int} {l : List I4} (hf : Fine prio l) (hn : ∀ (k : Nat) (x : I4), l[k]? = some x → In32 x.n) {pc : Nat} (hpc : pc < l.length) (n : Nat) {j : Nat} (h : itS l pc n j = true) : j < l.length := by
  match n, h with
  | 0, h => obtain rfl := of_decide_eq_true h; exact hpc
  | n + 1, h =>
    obtain ⟨k, x, _, _, hx, _, hm⟩ := (onT_iff l _ _ j).1 h
    have := nextP_in hf hx (hn _ _ hx) _ hm; omega
/-- The ways as long as the program has places never end. -/
theorem way_long (l : List I4) {prio : Int} (hf : Fine prio l) (hn : ∀ (k : Nat) (x : I4), l[k]? = some x → In32 x.n) (pc : Nat) (h : Way l l.length pc) (hpc : pc < l.length) (m : Nat) : Way l m pc := by
  obtain ⟨T, hT⟩ : ∃ T : Nat → Nat → Bool, ∀ n k, T n k = true ↔ Way l n k := ⟨fun n k => @decide (Way l n k) (Classical.propDecidable _), fun n k => by simp⟩
  have hmono : ∀ n k, T (n + 1) k = true → T n k = true := fun n k h => (hT n k).2 ((hT _ k).1 h).less
  have key : ∀ n, (∃ j, j < n ∧ ∀ k, k < l.length → T j k = T (j + 1) k) ∨ cnt (T n) l.length + n ≤ l.length := by
    intro n
    induction n with
    | zero => right; have := cnt_le (T 0) l.length; omega
    | succ n ih =>
      rcases ih with ⟨j, hj, e⟩ | ih
      · exact .inl ⟨j, by omega, e⟩
      · by_cases e : ∀ k, k < l.length → T n k = T (n + 1) k
        · exact .inl ⟨n, by omega, e⟩
        · right
          have ⟨k, hk⟩ := Classical.not_forall.1 e
          have ⟨hkl, hne⟩ := Classical.not_imp.1 hk
          have h1 : T (n + 1) k = false := by
            cases q : T (n + 1) k with
            | false => rfl
            | true => exact absurd ((hmono n k q).trans q.symm) hne
          have h2 : T n k = true := by
            cases q : T n k with
            | true => rfl
            | false => exact absurd (q.trans h1.symm) hne
          have := cnt_less l.length (fun k _ hk => hmono n k hk) hkl h1 h2
          omega
  have hend : ∃ j, j ≤ l.length ∧ ∀ k, k < l.length → T j k = T (j + 1) k := by
    rcases key l.length with ⟨j, hj, e⟩ | e
    · exact ⟨j, by omega, e⟩
    · exfalso
      have h0 : cnt (T l.length) l.length = 0 := by omega
      have := cnt_put (fun k => T l.length k && !decide (k = pc)) (N := l.length) hpc (by simp)
      have hc : cnt (fun n => (T l.length n && !decide (n = pc)) || decide (n = pc)) l.length = cnt (T l.length) l.length := cnt_congr _ fun n _ => by
        by_cases e : n = pc
        · subst e; simp [(hT _ n).2 h]
        · simp [e]
      omega
  obtain ⟨j, hj, e⟩ := hend
  have hst : ∀ d k, k < l.length → T (j + d) k = T (j + d + 1) k := by
    intro d
    induction d with
    | zero => exact e
    | succ d ih =>
      intro k hk
      rw [Bool.eq_iff_iff, hT, hT]
      constructor
      · rintro ⟨x, hx, hs, b, hb, hw⟩
        have hbl := nextP_in hf hx (hn _ _ hx) _ hb
        have e1 := ih b (by omega)
        have e2 : T (j + d) b = true := (hT (j + d) b).2 hw
        exact ⟨x, hx, hs, b, hb, (hT (j + d + 1) b).1 (e1.symm.trans e2)⟩
      · intro h; exact h.less
  have hall : ∀ d, T (j + d) pc = true := by
    intro d
    induction d with
    | zero => exact (hT _ _).2 (h.le hj)
    | succ d ih => rw [← Nat.add_assoc, ← hst d pc hpc]; exact ih
  exact ((hT _ _).1 (hall m)).le (by omega)
/-- The greatest of one more than what f says, of the first places that are in t. -/
def mostF (f : Nat → Nat) (t : List Int) : Nat → Nat
  | 0 => 0
  | n + 1 => if (n : Int) ∈ t then max (mostF f t n) (1 + f n) else mostF f t n
theorem mostF_le (f : Nat → Nat) (t : List Int) (N : Nat) {b : Nat} (hb : b < N) (hm : (b : Int) ∈ t) : 1 + f b ≤ mostF f t N := by
  induction N with
  | zero => omega
  | succ N ih =>
    rw [mostF]
    by_cases e : b = N
    · subst e; rw [if_pos hm]; omega
    · have := ih (by omega)
      split <;> omega
theorem mostF_is (f : Nat → Nat) (t : List Int) (N : Nat) (h : ∃ b, b < N ∧ (b : Int) ∈ t) : ∃ b, b < N ∧ (b : Int) ∈ t ∧ mostF f t N = 1 + f b := by
  induction N with
  | zero => obtain ⟨b, hb, _⟩ := h; omega
  | succ N ih =>
    rw [mostF]
    by_cases hN : (N : Int) ∈ t
    · rw [if_pos hN]
      by_cases h' : ∃ b, b < N ∧ (b : Int) ∈ t
      · obtain ⟨b, hb, hm, e⟩ := ih h'
        by_cases q : mostF f t N ≤ 1 + f N
        · exact ⟨N, by omega, hN, by omega⟩
        · exact ⟨b, by omega, hm, by omega⟩
      · have h0 : ∀ M, M ≤ N → mostF f t M = 0 := by
          intro M hM
          induction M with
          | zero => rfl
          | succ M ih' => rw [mostF, if_neg (fun q => h' ⟨M, by omega, q⟩), ih' (by omega)]
        exact ⟨N, by omega, hN, by rw [h0 N (Nat.le_refl _)]; omega⟩
    · rw [if_neg hN]
      obtain ⟨b, hb, hm⟩ := h
      have hbn : b ≠ N := fun e => hN (e ▸ hm)
      obtain ⟨c, hc, hm', e⟩ := ih ⟨b, by omega, hm⟩
      exact ⟨c, by omega, hm', e⟩
/-- The document's way, counted step by step. -/
def stF (l : List I4) : Nat → Nat → Nat
  | 0, k => match l[k]? with
    | some x => if stopB x then 0 else 1000
    | none => 0
  | f + 1, k => match l[k]? with
    | some x => if stopB x then 0 else mostF (stF l f) (nextP x k) l.length
    | none => 0
theorem stF_le (l : List I4) : ∀ f k, stF l f k ≤ 1000 + f
  | 0, k => by unfold stF; repeat' split
               all_goals omega
  | f + 1, k => by
    unfold stF
    split
    · split
      · omega
      · rename_i x hx _
        by_cases h : ∃ b, b < l.length ∧ (b : Int) ∈ nextP x k
        · obtain ⟨b, _, _, e⟩ := mostF_is (stF l f) (nextP x k) l.length h
          have := stF_le l f b; omega
        · have h0 : ∀ M, M ≤ l.length → mostF (stF l f) (nextP x k) M = 0 := by
            intro M hM
            induction M with
            | zero => rfl
            | succ M ih' => rw [mostF, if_neg (fun q => h ⟨M, by omega, q⟩), ih' (by omega)]
          rw [h0 _ (Nat.le_refl _)]; omega
    · omega
theorem stF_long {prio : Int} {l : List I4} (hf : Fine prio l) (hn : ∀ (k : Nat) (x : I4), l[k]? = some x → In32 x.n) : ∀ f k, Way l (f + 1) k → 1000 ≤ stF l f k
  | 0, k, ⟨x, hx, hs, _⟩ => by unfold stF; rw [hx]; simp [hs]
  | f + 1, k, ⟨x, hx, hs, j, hj, hw⟩ => by
    unfold stF; rw [hx]
    simp only [hs, Bool.false_eq_true, ↓reduceIte]
    have hjl := nextP_in hf hx (hn _ _ hx) _ hj
    have := mostF_le (stF l f) (nextP x k) l.length (b := j) (by omega) hj
    have := stF_long hf hn f j hw
    omega
/-- What doesn't stop goes on. -/
theorem goes_on {prio : Int} {l : List I4} (hf : Fine prio l) (hn : ∀ (k : Nat) (x : I4), l[k]? = some x → In32 x.n) {k : Nat} {x : I4} (hx : l[k]? = some x) (hs : stopB x = false) : ∃ j : Nat, j < l.length ∧ (j : Int) ∈ nextP x k := by
  have h14 : x.op ≠ 14 := fun e => by simp [stopB, e] at hs
  have hne : ∃ y, y ∈ nextP x k := by
    unfold nextP; rw [if_neg h14]
    split
    · exact ⟨_, List.mem_singleton.2 rfl⟩
    · split
      · split
        · exact ⟨_, List.mem_singleton.2 rfl⟩
        · exact ⟨_, List.mem_cons_self⟩
      · exact ⟨_, List.mem_singleton.2 rfl⟩
  obtain ⟨y, hy⟩ := hne
  have := nextP_in hf hx (hn _ _ hx) y hy
  exact ⟨y.toNat, by omega, by rwa [show ((y.toNat : Nat) : Int) = y by omega]⟩
theorem stF_short {prio : Int} {l : List I4} (hf : Fine prio l) (hn : ∀ (k : Nat) (x : I4), l[k]? = some x → In32 x.n) : ∀ f k, k < l.length → ¬ Way l (f + 1) k → Way l (stF l f k) k ∧ ¬ Way l (stF l f k + 1) k
  | 0, k, hk, h => by
    obtain ⟨x, hx⟩ : ∃ x, l[k]? = some x := ⟨_, List.getElem?_eq_getElem hk⟩
    cases hs : stopB x with
    | true => unfold stF; rw [hx]; simp only [hs, ↓reduceIte]; exact ⟨trivial, h⟩
    | false =>
      obtain ⟨j, _, hj⟩ := goes_on hf hn hx hs
      exact absurd ⟨x, hx, hs, j, hj, trivial⟩ h
  | f + 1, k, hk, h => by
    obtain ⟨x, hx⟩ : ∃ x, l[k]? = some x := ⟨_, List.getElem?_eq_getElem hk⟩
    unfold stF; rw [hx]
    cases hs : stopB x with
    | true =>
      simp only [hs, ↓reduceIte]
      refine ⟨trivial, fun hw => ?_⟩
      obtain ⟨y, hy, hs', _⟩ := hw
      rw [hx] at hy; cases hy; rw [hs] at hs'; cases hs'
    | false =>
      simp only [hs, Bool.false_eq_true, ↓reduceIte]
      have hfol : ∀ b : Nat, (b : Int) ∈ nextP x k → b < l.length ∧ Way l (stF l f b) b ∧ ¬ Way l (stF l f b + 1) b := fun b hb => by
        have hbl := nextP_in hf hx (hn _ _ hx) _ hb
        have hbl' : b < l.length := by omega
        exact ⟨hbl', stF_short hf hn f b hbl' fun hw => h ⟨x, hx, hs, b, hb, hw⟩⟩
      obtain ⟨b, hb, hm, e⟩ := mostF_is (stF l f) (nextP x k) l.length (goes_on hf hn hx hs)
      obtain ⟨_, w1, w2⟩ := hfol b hm
      rw [e, Nat.add_comm 1]
      refine ⟨⟨x, hx, hs, b, hm, w1⟩, ?_⟩
      rintro ⟨y, hy, _, c, hc, hw⟩
      rw [hx] at hy; cases hy
      obtain ⟨hcl, _, c2⟩ := hfol c hc
      have hle := mostF_le (stF l f) (nextP x k) l.length hcl hc
      exact c2 (hw.le (by omega))
/-- What lint.Straight should be. -/
def StrR (l : List I4) (pc : Nat) (r : Int) : Prop := (∃ n : Nat, r = n ∧ n < l.length ∧ Way l n pc ∧ ¬ Way l (n + 1) pc) ∨ (r = -1 ∧ Way l l.length pc)
theorem str_done {prio : Int} {l : List I4} (hf : Fine prio l) (hn : ∀ (k : Nat) (x : I4), l[k]? = some x → In32 x.n) (h12 : l.length ≤ 12) {pc : Nat} (hpc : pc < l.length) {r : Int} (h : StrR l pc r) : r = (if 1000 ≤ stF l 12 pc then -1 else (stF l 12 pc : Int)) := by
  rcases h with ⟨n, rfl, hnl, hw, hnw⟩ | ⟨rfl, hw⟩
  · have hn13 : ¬ Way l (12 + 1) pc := fun q => hnw (q.le (by omega))
    obtain ⟨a, b⟩ := stF_short hf hn 12 pc hpc hn13
    have e : stF l 12 pc = n := by
      by_cases q : stF l 12 pc < n
      · exact absurd (hw.le (by omega)) b
      · by_cases q' : n < stF l 12 pc
        · exact absurd (a.le (by omega)) hnw
        · omega
    rw [e, if_neg (by omega)]
  · rw [if_pos (stF_long hf hn 12 pc (way_long l hf hn pc hw hpc _))]
end Go.Proofs.Ythoddoabcdbliaa
