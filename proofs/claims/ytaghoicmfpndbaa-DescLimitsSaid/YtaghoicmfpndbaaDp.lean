/- Plain functions: a description's text cut into tokens, byte by byte; a place's line and column. -/
import Derived.WalkKit
namespace Go.Proofs.Ytaghoicmfpndbaa

/-- The byte at a place of a text. -/
def byteAt (s : ByteArray) (i : Nat) : Nat := (s.data.toList.getD i 0).toNat
theorem byteAt_eq (s : ByteArray) (i : Nat) (h : i < s.size) : (s[i].toNat : Nat) = byteAt s i := by
  have h' : i < s.data.toList.length := by simpa using h
  unfold byteAt
  rw [List.getD_eq_getElem?_getD, List.getElem?_eq_getElem h']
  rfl
theorem byteAt_lt (s : ByteArray) (i : Nat) : byteAt s i < 256 := by
  unfold byteAt; exact UInt8.toNat_lt _

def lowB (c : Nat) : Bool := decide (97 ≤ c) && decide (c ≤ 122)
def digB (c : Nat) : Bool := decide (48 ≤ c) && decide (c ≤ 57)
def signB (c : Nat) : Bool := decide (c = 123) || (decide (c = 125) || decide (c = 59))
def blankB (c : Nat) : Bool := decide (c = 32) || (decide (c = 9) || (decide (c = 10) || decide (c = 13)))
def nameB (c : Nat) : Bool := lowB c || (digB c || decide (c = 95))
def listB (c : Nat) : Bool := digB c || (decide (c = 44) || decide (c = 45))
def noteB (c : Nat) : Bool := !decide (c = 10)

/-- Where the bytes of a kind from i on end. -/
def runQ (q : Nat → Bool) (c : Nat → Nat) : Nat → Nat → Nat
  | 0, i => i
  | f + 1, i => if q (c i) then runQ q c f (i + 1) else i
def runEnd (q : Nat → Bool) (c : Nat → Nat) (len i : Nat) : Nat := runQ q c (len - i) i
theorem runQ_spec (q : Nat → Bool) (c : Nat → Nat) (f i : Nat) : i ≤ runQ q c f i ∧ runQ q c f i ≤ i + f ∧ (∀ j, i ≤ j → j < runQ q c f i → q (c j) = true) ∧ (runQ q c f i = i + f ∨ q (c (runQ q c f i)) = false) := by
  induction f generalizing i with
  | zero => simp only [runQ]; exact ⟨Nat.le_refl _, by omega, fun j h1 h2 => by omega, .inl (by omega)⟩
  | succ f ih =>
    rw [runQ]
    by_cases h : q (c i) = true
    · rw [if_pos h]
      obtain ⟨h1, h2, h3, h4⟩ := ih (i + 1)
      refine ⟨by omega, by omega, fun j a b => ?_, ?_⟩
      · by_cases e : j = i
        · subst e; exact h
        · exact h3 j (by omega) b
      · rcases h4 with h4 | h4
        · exact .inl (by omega)
        · exact .inr h4
    · rw [if_neg h]
      exact ⟨Nat.le_refl _, by omega, fun j a b => by omega, .inr (by simpa using h)⟩
theorem runEnd_spec (q : Nat → Bool) (c : Nat → Nat) (len i : Nat) (hi : i ≤ len) : i ≤ runEnd q c len i ∧ runEnd q c len i ≤ len ∧ (∀ j, i ≤ j → j < runEnd q c len i → q (c j) = true) ∧ (runEnd q c len i = len ∨ q (c (runEnd q c len i)) = false) := by
  obtain ⟨h1, h2, h3, h4⟩ := runQ_spec q c (len - i) i
  exact ⟨h1, by unfold runEnd; omega, h3, by unfold runEnd; rcases h4 with h4 | h4; exact .inl (by omega); exact .inr h4⟩
theorem runEnd_eq (q : Nat → Bool) (c : Nat → Nat) (len i e : Nat) (h1 : i ≤ e) (h2 : e ≤ len) (h3 : ∀ j, i ≤ j → j < e → q (c j) = true) (h4 : e = len ∨ q (c e) = false) : runEnd q c len i = e := by
  obtain ⟨g1, g2, g3, g4⟩ := runEnd_spec q c len i (by omega)
  by_cases hlt : runEnd q c len i < e
  · rcases g4 with g4 | g4
    · omega
    · rw [h3 _ g1 hlt] at g4; cases g4
  · by_cases hgt : e < runEnd q c len i
    · rcases h4 with h4 | h4
      · omega
      · rw [g3 _ h1 hgt] at h4; cases h4
    · omega
theorem runEnd_one (q : Nat → Bool) (c : Nat → Nat) (len i : Nat) (hi : i < len) (h : q (c i) = true) : runEnd q c len (i + 1) = runEnd q c len i := by
  unfold runEnd
  rw [show len - i = len - (i + 1) + 1 by omega, runQ, if_pos h]
theorem runEnd_stop (q : Nat → Bool) (c : Nat → Nat) (len i : Nat) (h : q (c i) = false) : runEnd q c len i = i := by
  unfold runEnd
  cases len - i with
  | zero => rfl
  | succ f => rw [runQ, h]; rfl
theorem runEnd_len (q : Nat → Bool) (c : Nat → Nat) (len : Nat) : runEnd q c len len = len := by
  unfold runEnd; rw [Nat.sub_self]; rfl

/-- A place's line and column. -/
def lineA (c : Nat → Nat) : Nat → Nat
  | 0 => 1
  | k + 1 => if c k = 10 then lineA c k + 1 else lineA c k
def colA (c : Nat → Nat) : Nat → Nat
  | 0 => 1
  | k + 1 => if c k = 10 then 1 else colA c k + 1
theorem lineA_le (c : Nat → Nat) (k : Nat) : 1 ≤ lineA c k ∧ lineA c k ≤ k + 1 := by
  induction k with
  | zero => simp [lineA]
  | succ k ih => rw [lineA]; split <;> omega
theorem colA_le (c : Nat → Nat) (k : Nat) : 1 ≤ colA c k ∧ colA c k ≤ k + 1 := by
  induction k with
  | zero => simp [colA]
  | succ k ih => rw [colA]; split <;> omega
theorem lineA_congr {c d : Nat → Nat} {k : Nat} (h : ∀ j, j < k → c j = d j) : lineA c k = lineA d k := by
  induction k with
  | zero => rfl
  | succ k ih => rw [lineA, lineA, h k (by omega), ih fun j hj => h j (by omega)]
theorem colA_congr {c d : Nat → Nat} {k : Nat} (h : ∀ j, j < k → c j = d j) : colA c k = colA d k := by
  induction k with
  | zero => rfl
  | succ k ih => rw [colA, colA, h k (by omega), ih fun j hj => h j (by omega)]

/-- A token: its kind (0: none begins so), where it begins, where it ends. -/
structure Tok where
  kind : Nat
  a : Nat
  e : Nat
def tokK (c : Nat) : Nat := if lowB c then 1 else if digB c then 2 else if signB c then 3 else 0
def tokE (c : Nat → Nat) (len i : Nat) : Nat := if lowB (c i) then runEnd nameB c len i else if digB (c i) then runEnd listB c len i else i + 1
/-- The tokens from a place on till the first error; the error's number (0: none), its place. -/
def lexF (c : Nat → Nat) (len : Nat) : Nat → Nat → List Tok × Nat × Nat
  | 0, _ => ([], 0, 0)
  | f + 1, i =>
    if len ≤ i then ([], 0, 0)
    else if blankB (c i) then lexF c len f (i + 1)
    else if c i = 35 then lexF c len f (runEnd noteB c len i)
    else if tokK (c i) = 0 then ([], 20, i)
    else if tokK (c i) = 1 ∧ 32 < tokE c len i - i then ([], 2, i)
    else (⟨tokK (c i), i, tokE c len i⟩ :: (lexF c len f (tokE c len i)).1, (lexF c len f (tokE c len i)).2)
theorem note_gt (c : Nat → Nat) (len i : Nat) (hi : i < len) (h : c i = 35) : i < runEnd noteB c len i := by
  have hq : noteB (c i) = true := by rw [h]; rfl
  rw [← runEnd_one noteB c len i hi hq]
  have := (runEnd_spec noteB c len (i + 1) (by omega)).1; omega
theorem tokE_gt (c : Nat → Nat) (len i : Nat) (hi : i < len) : i < tokE c len i ∧ tokE c len i ≤ len := by
  unfold tokE
  split
  · rename_i hl
    have hq : nameB (c i) = true := by unfold nameB; rw [hl]; rfl
    rw [← runEnd_one nameB c len i hi hq]
    have := runEnd_spec nameB c len (i + 1) (by omega); omega
  · split
    · rename_i hl
      have hq : listB (c i) = true := by unfold listB; rw [hl]; rfl
      rw [← runEnd_one listB c len i hi hq]
      have := runEnd_spec listB c len (i + 1) (by omega); omega
    · omega
theorem lexF_fuel (c : Nat → Nat) (len : Nat) : ∀ f g i, len + 1 ≤ f + i → len + 1 ≤ g + i → lexF c len f i = lexF c len g i := by
  intro f
  induction f with
  | zero =>
    intro g i h1 h2
    cases g with
    | zero => rfl
    | succ g => rw [lexF, lexF, if_pos (by omega)]
  | succ f ih =>
    intro g i h1 h2
    cases g with
    | zero => rw [lexF, lexF, if_pos (by omega)]
    | succ g =>
      rw [lexF, lexF]
      by_cases h0 : len ≤ i
      · rw [if_pos h0, if_pos h0]
      rw [if_neg h0, if_neg h0]
      by_cases hb : blankB (c i) = true
      · rw [if_pos hb, if_pos hb]; exact ih g (i + 1) (by omega) (by omega)
      rw [if_neg hb, if_neg hb]
      by_cases hn : c i = 35
      · rw [if_pos hn, if_pos hn]
        have := note_gt c len i (by omega) hn
        exact ih g _ (by omega) (by omega)
      rw [if_neg hn, if_neg hn]
      by_cases hk : tokK (c i) = 0
      · rw [if_pos hk, if_pos hk]
      rw [if_neg hk, if_neg hk]
      have := tokE_gt c len i (by omega)
      rw [ih g (tokE c len i) (by omega) (by omega)]
def lexAt (c : Nat → Nat) (len i : Nat) : List Tok × Nat × Nat := lexF c len (len + 1) i
theorem lex_done (c : Nat → Nat) (len i : Nat) (h : len ≤ i) : lexAt c len i = ([], 0, 0) := by
  unfold lexAt; rw [lexF, if_pos h]
theorem lex_blank (c : Nat → Nat) (len i : Nat) (h : i < len) (hb : blankB (c i) = true) : lexAt c len i = lexAt c len (i + 1) := by
  have : lexAt c len i = lexF c len len (i + 1) := by unfold lexAt; rw [lexF, if_neg (by omega), if_pos hb]
  rw [this]; exact lexF_fuel c len _ _ _ (by omega) (by omega)
theorem lex_note (c : Nat → Nat) (len i : Nat) (h : i < len) (hn : c i = 35) : lexAt c len i = lexAt c len (runEnd noteB c len i) := by
  have hb : ¬ blankB (c i) = true := by rw [hn]; decide
  have : lexAt c len i = lexF c len len (runEnd noteB c len i) := by unfold lexAt; rw [lexF, if_neg (by omega), if_neg hb, if_pos hn]
  have hg := note_gt c len i h hn
  rw [this]; exact lexF_fuel c len _ _ _ (by omega) (by omega)
theorem lex_byte (c : Nat → Nat) (len i : Nat) (h : i < len) (hb : blankB (c i) = false) (hn : c i ≠ 35) (hk : tokK (c i) = 0) : lexAt c len i = ([], 20, i) := by
  unfold lexAt; rw [lexF, if_neg (by omega), if_neg (by simp [hb]), if_neg hn, if_pos hk]
theorem lex_big (c : Nat → Nat) (len i : Nat) (h : i < len) (hb : blankB (c i) = false) (hn : c i ≠ 35) (hk : tokK (c i) = 1) (he : 32 < tokE c len i - i) : lexAt c len i = ([], 2, i) := by
  unfold lexAt; rw [lexF, if_neg (by omega), if_neg (by simp [hb]), if_neg hn, if_neg (by omega), if_pos ⟨hk, he⟩]
theorem lex_tok (c : Nat → Nat) (len i : Nat) (h : i < len) (hb : blankB (c i) = false) (hn : c i ≠ 35) (hk : tokK (c i) ≠ 0) (he : ¬ (tokK (c i) = 1 ∧ 32 < tokE c len i - i)) :
    lexAt c len i = (⟨tokK (c i), i, tokE c len i⟩ :: (lexAt c len (tokE c len i)).1, (lexAt c len (tokE c len i)).2) := by
  have hg := tokE_gt c len i h
  have e : lexF c len len (tokE c len i) = lexAt c len (tokE c len i) := lexF_fuel c len _ _ _ (by omega) (by omega)
  have : lexAt c len i = (⟨tokK (c i), i, tokE c len i⟩ :: (lexF c len len (tokE c len i)).1, (lexF c len len (tokE c len i)).2) := by
    unfold lexAt; rw [lexF, if_neg (by omega), if_neg (by simp [hb]), if_neg hn, if_neg hk, if_neg he]
  rw [this, e]
/-- Past all bytes that are blank. -/
theorem lex_blanks (c : Nat → Nat) (len i : Nat) (hi : i ≤ len) : lexAt c len i = lexAt c len (runEnd blankB c len i) := by
  obtain ⟨h1, h2, h3, -⟩ := runEnd_spec blankB c len i hi
  generalize runEnd blankB c len i = e at *
  obtain ⟨k, rfl⟩ : ∃ k, e = i + k := ⟨e - i, by omega⟩
  clear h1
  induction k with
  | zero => rfl
  | succ k ih =>
    rw [ih (by omega) (fun j a b => h3 j a (by omega))]
    rw [lex_blank c len (i + k) (by omega) (h3 _ (by omega) (by omega))]
    rfl
end Go.Proofs.Ytaghoicmfpndbaa
