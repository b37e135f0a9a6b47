/- Plain functions: what a set's text reads as, byte by byte. -/
import Derived.Test.YtpdghnlnbhenhaaDoorSm
namespace Go.Proofs.YtpdghnlnbhenhaaDoor

/-- The byte at a place of a text. -/
def byteAt (s : ByteArray) (i : Nat) : Nat := (s.data.toList.getD i 0).toNat
theorem byteAt_eq (s : ByteArray) (i : Nat) (h : i < s.size) : (s[i].toNat : Nat) = byteAt s i := by
  have h' : i < s.data.toList.length := by simpa using h
  unfold byteAt
  rw [List.getD_eq_getElem?_getD, List.getElem?_eq_getElem h']
  rfl
theorem byteAt_lt (s : ByteArray) (i : Nat) : byteAt s i < 256 := by
  unfold byteAt; exact UInt8.toNat_lt _

/-- A decimal digit. -/
def digB (c : Nat) : Bool := decide (48 ≤ c ∧ c ≤ 57)
/-- Where the digits from i on end, at most `fuel` of them. -/
def runE (c : Nat → Nat) : Nat → Nat → Nat
  | 0, i => i
  | f + 1, i => if digB (c i) then runE c f (i + 1) else i
def numEnd (c : Nat → Nat) (len i : Nat) : Nat := runE c (len - i) i
theorem runE_spec (c : Nat → Nat) (f i : Nat) : i ≤ runE c f i ∧ runE c f i ≤ i + f ∧ (∀ j, i ≤ j → j < runE c f i → digB (c j) = true) ∧ (runE c f i = i + f ∨ digB (c (runE c f i)) = false) := by
  induction f generalizing i with
  | zero => simp only [runE]; exact ⟨Nat.le_refl _, by omega, fun j h1 h2 => by omega, .inl (by omega)⟩
  | succ f ih =>
    rw [runE]
    by_cases h : digB (c i) = true
    · rw [if_pos h]
      obtain ⟨h1, h2, h3, h4⟩ := ih (i + 1)
      refine ⟨by omega, by omega, fun j a b => ?_, ?_⟩
      · by_cases e : j = i
        · subst e; exact h
        · exact h3 j (by omega) b
      · rcases h4 with h4 | h4
        · exact .inl (by omega)
        · exact .inr h4
    · rw [if_neg h]
      exact ⟨Nat.le_refl _, by omega, fun j a b => by omega, .inr (by simpa using h)⟩
theorem numEnd_spec (c : Nat → Nat) (len i : Nat) (hi : i ≤ len) : i ≤ numEnd c len i ∧ numEnd c len i ≤ len ∧ (∀ j, i ≤ j → j < numEnd c len i → digB (c j) = true) ∧ (numEnd c len i = len ∨ digB (c (numEnd c len i)) = false) := by
  obtain ⟨h1, h2, h3, h4⟩ := runE_spec c (len - i) i
  exact ⟨h1, by unfold numEnd; omega, h3, by unfold numEnd; rcases h4 with h4 | h4; exact .inl (by omega); exact .inr h4⟩
theorem numEnd_eq (c : Nat → Nat) (len i e : Nat) (h1 : i ≤ e) (h2 : e ≤ len) (h3 : ∀ j, i ≤ j → j < e → digB (c j) = true) (h4 : e = len ∨ digB (c e) = false) : numEnd c len i = e := by
  obtain ⟨g1, g2, g3, g4⟩ := numEnd_spec c len i (by omega)
  by_cases hlt : numEnd c len i < e
  · rcases g4 with g4 | g4
    · omega
    · rw [h3 _ g1 hlt] at g4; cases g4
  · by_cases hgt : e < numEnd c len i
    · rcases h4 with h4 | h4
      · omega
      · rw [g3 _ h1 hgt] at h4; cases h4
    · omega
/-- The value of k digits from i on, no further than 1024. -/
def numV (c : Nat → Nat) (i : Nat) : Nat → Nat
  | 0 => 0
  | k + 1 => min (numV c i k * 10 + (c (i + k) - 48)) 1024
theorem numV_le (c : Nat → Nat) (i k : Nat) : numV c i k ≤ 1024 := by
  cases k with
  | zero => simp [numV]
  | succ k => rw [numV]; omega

/-- What stands at a place where a number must begin: its value, the place behind it, and the error's number (0: none). -/
def numberR (c : Nat → Nat) (len i : Nat) : Nat × Nat × Nat :=
  if i = len then (0, i, 22)
  else if numEnd c len i = i then (0, i, 20)
  else if 1024 ≤ numV c i (numEnd c len i - i) then (0, i, 26)
  else if c i = 48 ∧ i + 1 < numEnd c len i then (0, i, 26)
  else (numV c i (numEnd c len i - i), numEnd c len i, 0)
/-- What stands behind an item's numbers. -/
def tailR (c : Nat → Nat) (len f t e : Nat) : Nat × Nat × Nat × Nat :=
  if e < len ∧ c e ≠ 44 then (0, 0, e, 20) else (f, t, e, 0)
/-- An item: its first and last worker, the place behind it (or the error's), the error's number. -/
def itemR (c : Nat → Nat) (len i : Nat) : Nat × Nat × Nat × Nat :=
  let a := numberR c len i
  if a.2.2 ≠ 0 then (0, 0, i, a.2.2)
  else if a.2.1 < len ∧ c a.2.1 = 45 then
    let b := numberR c len (a.2.1 + 1)
    if b.2.2 ≠ 0 then (0, 0, a.2.1 + 1, b.2.2)
    else if b.1 < a.1 then (0, 0, a.2.1 + 1, 26)
    else tailR c len a.1 b.1 b.2.1
  else tailR c len a.1 a.1 a.2.1
theorem numberR_le (c : Nat → Nat) (len i : Nat) (h : i ≤ len) : (numberR c len i).1 < 1024 ∧ i ≤ (numberR c len i).2.1 ∧ (numberR c len i).2.1 ≤ len ∧ ((numberR c len i).2.2 = 0 → i < (numberR c len i).2.1) ∧ ((numberR c len i).2.2 = 0 ∨ (numberR c len i).2.2 = 20 ∨ (numberR c len i).2.2 = 22 ∨ (numberR c len i).2.2 = 26) := by
  obtain ⟨g1, g2, g3, g4⟩ := numEnd_spec c len i h
  unfold numberR
  split
  · simp; omega
  split
  · simp; omega
  split
  · simp; omega
  split
  · simp; omega
  · simp; omega
theorem itemR_le (c : Nat → Nat) (len i : Nat) (h : i ≤ len) : (itemR c len i).2.2.1 ≤ len ∧ ((itemR c len i).2.2.2 = 0 → i < (itemR c len i).2.2.1 ∧ (itemR c len i).1 ≤ (itemR c len i).2.1 ∧ (itemR c len i).2.1 < 1024) := by
  obtain ⟨f, e1, er, h1⟩ : ∃ f e1 er, numberR c len i = (f, e1, er) := ⟨_, _, _, rfl⟩
  have l1 := numberR_le c len i h
  rw [h1] at l1
  simp only at l1
  obtain ⟨lf, la, lb, lc, _⟩ := l1
  unfold itemR
  rw [h1]
  simp only
  split
  · simp; omega
  · rename_i her
    have her : er = 0 := by omega
    split
    · rename_i hd
      obtain ⟨g, e2, er2, h2⟩ : ∃ g e2 er2, numberR c len (e1 + 1) = (g, e2, er2) := ⟨_, _, _, rfl⟩
      have l2 := numberR_le c len (e1 + 1) (by omega)
      rw [h2] at l2 ⊢
      simp only at l2 ⊢
      obtain ⟨lg, ma, mb, mc, _⟩ := l2
      split
      · simp; omega
      · split
        · simp; omega
        · unfold tailR; split
          · simp; omega
          · simp; omega
    · unfold tailR; split
      · simp; omega
      · simp; omega

/-- The set that a text's items from a place on give, with those that are there already; or the error's number and place. -/
def parseR (c : Nat → Nat) (len : Nat) : Nat → (Nat → Bool) → Nat → (Nat → Bool) × Nat × Nat
  | 0, _, _ => (fun _ => false, 0, 0)
  | fuel + 1, p, i =>
    let a := itemR c len i
    if a.2.2.2 ≠ 0 then (fun _ => false, a.2.2.2, a.2.2.1)
    else if (List.range 1024).any (fun n => p n && (decide (a.1 ≤ n) && decide (n ≤ a.2.1))) then (fun _ => false, 9, i)
    else if a.2.2.1 = len then (fun n => p n || (decide (a.1 ≤ n) && decide (n ≤ a.2.1)), 0, 0)
    else parseR c len fuel (fun n => p n || (decide (a.1 ≤ n) && decide (n ≤ a.2.1))) (a.2.2.1 + 1)
/-- A whole text. -/
def parseAll (c : Nat → Nat) (len : Nat) : (Nat → Bool) × Nat × Nat := if len = 0 then (fun _ => false, 0, 0) else parseR c len (len + 1) (fun _ => false) 0
end Go.Proofs.YtpdghnlnbhenhaaDoor
