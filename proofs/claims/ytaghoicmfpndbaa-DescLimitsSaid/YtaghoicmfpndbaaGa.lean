/- Plain functions: what stands between two tokens. -/
import Derived.Test.YtaghoicmfpndbaaDw
namespace Go.Proofs.Ytaghoicmfpndbaa
open Go.RowKit

/-- Blanks and notes from i to n. -/
inductive Gap (c : Nat → Nat) : Nat → Nat → Prop
  | done (i : Nat) : Gap c i i
  | blank (i n : Nat) (h : i < n) (hb : blankB (c i) = true) (k : Gap c (i + 1) n) : Gap c i n
  | note (i e n : Nat) (h : i < e) (he : e ≤ n) (h35 : c i = 35) (ha : ∀ j, i ≤ j → j < e → noteB (c j) = true) (hz : e = n ∨ noteB (c e) = false) (k : Gap c e n) : Gap c i n
theorem Gap.le {c : Nat → Nat} {i n : Nat} (h : Gap c i n) : i ≤ n := by
  induction h with
  | done => omega
  | blank => omega
  | note => omega
/-- A gap by itself has no token and no error. -/
theorem gap_lex {c : Nat → Nat} {i n : Nat} (h : Gap c i n) : ∀ (p : Nat) (d : Nat → Nat), p ≤ i → (∀ j, p ≤ j → j < n → d (j - p) = c j) → lexAt d (n - p) (i - p) = ([], 0, 0) := by
  induction h with
  | done i => intro p d _ _; exact lex_done _ _ _ (Nat.le_refl _)
  | blank i n h hb k ih =>
    intro p d hp hd
    rw [lex_blank d (n - p) (i - p) (by omega) (by rw [hd i hp h]; exact hb)]
    rw [show i - p + 1 = i + 1 - p by omega]
    exact ih p d (by omega) hd
  | note i e n h he h35 ha hz k ih =>
    intro p d hp hd
    rw [lex_note d (n - p) (i - p) (by omega) (by rw [hd i hp (by omega)]; exact h35)]
    have hE : runEnd noteB d (n - p) (i - p) = e - p := by
      refine runEnd_eq noteB d (n - p) (i - p) (e - p) (by omega) (by omega) (fun j h1 h2 => ?_) ?_
      · have := hd (j + p) (by omega) (by omega)
        rw [Nat.add_sub_cancel] at this
        rw [this]; exact ha (j + p) (by omega) (by omega)
      · by_cases hen : e = n
        · exact .inl (by omega)
        · refine .inr ?_
          rw [hd e (by omega) (by omega)]
          rcases hz with hz | hz
          · exact absurd hz hen
          · exact hz
    rw [hE]
    exact ih p d (by omega) hd
/-- From a place on there is nothing more, or a token begins behind a gap. -/
theorem gap_split (c : Nat → Nat) (len : Nat) : ∀ m i, len - i ≤ m → i ≤ len → (lexAt c len i = ([], 0, 0) ∧ Gap c i len) ∨ ∃ n, i ≤ n ∧ n < len ∧ Gap c i n ∧ lexAt c len i = lexAt c len n ∧ blankB (c n) = false ∧ c n ≠ 35 := by
  intro m
  induction m with
  | zero =>
    intro i hm hi
    obtain rfl : i = len := by omega
    exact .inl ⟨lex_done _ _ _ (Nat.le_refl _), .done _⟩
  | succ m ih =>
    intro i hm hi
    by_cases hlt : i < len
    · by_cases hb : blankB (c i) = true
      · rcases ih (i + 1) (by omega) (by omega) with ⟨h1, h2⟩ | ⟨n, h1, h2, h3, h4, h5⟩
        · exact .inl ⟨(lex_blank _ _ _ hlt hb).trans h1, .blank _ _ hlt hb h2⟩
        · exact .inr ⟨n, by omega, h2, .blank _ _ (by omega) hb h3, (lex_blank _ _ _ hlt hb).trans h4, h5⟩
      · have hb' : blankB (c i) = false := by simpa using hb
        by_cases hn : c i = 35
        · have hg := note_gt c len i hlt hn
          obtain ⟨e1, e2, e3, e4⟩ := runEnd_spec noteB c len i (by omega)
          have hl := lex_note c len i hlt hn
          generalize runEnd noteB c len i = E at *
          rcases ih E (by omega) e2 with ⟨h1, h2⟩ | ⟨n, h1, h2, h3, h4, h5, h6⟩
          · exact .inl ⟨hl.trans h1, .note _ E _ hg e2 hn e3 e4 h2⟩
          · refine .inr ⟨n, by omega, h2, .note _ E _ hg h1 hn e3 ?_ h3, hl.trans h4, h5, h6⟩
            rcases e4 with e | e
            · omega
            · exact .inr e
        · exact .inr ⟨i, Nat.le_refl _, hlt, .done _, rfl, hb', hn⟩
    · obtain rfl : i = len := by omega
      exact .inl ⟨lex_done _ _ _ (Nat.le_refl _), .done _⟩
/-- What a good text's tokens are like, one by one. -/
theorem lex_cases (c : Nat → Nat) (len i : Nat) (l : List Tok) (o : Nat) (hi : i ≤ len) (h : lexAt c len i = (l, 0, o)) :
    (l = [] ∧ Gap c i len) ∨ ∃ t r, l = t :: r ∧ i ≤ t.a ∧ t.a < t.e ∧ t.e ≤ len ∧ Gap c i t.a ∧ lexAt c len t.e = (r, 0, o) ∧ t.kind = tokK (c t.a) ∧ t.kind ≠ 0 ∧ t.e = tokE c len t.a ∧ ¬ (t.kind = 1 ∧ 32 < t.e - t.a) := by
  rcases gap_split c len _ i (Nat.le_refl _) hi with ⟨h1, h2⟩ | ⟨n, h1, h2, h3, h4, h5, h6⟩
  · rw [h1] at h
    exact .inl ⟨(Prod.mk.inj h).1.symm, h2⟩
  · right
    rw [h4] at h
    by_cases hk : tokK (c n) = 0
    · rw [lex_byte c len n h2 h5 h6 hk] at h
      simp at h
    · by_cases he : tokK (c n) = 1 ∧ 32 < tokE c len n - n
      · rw [lex_big c len n h2 h5 h6 he.1 he.2] at h
        simp at h
      · rw [lex_tok c len n h2 h5 h6 hk he] at h
        obtain ⟨g1, g2⟩ := Prod.mk.inj h
        have hg := tokE_gt c len n h2
        refine ⟨_, _, g1.symm, h1, hg.1, hg.2, h3, ?_, rfl, hk, rfl, he⟩
        show lexAt c len (tokE c len n) = _
        rw [← g2]
/-- A text between two places. -/
theorem byteAt_mid (s : ByteArray) (a b j : Nat) (hb : b ≤ s.size) (h1 : a ≤ j) (h2 : j < b) : byteAt (s.extract a b) (j - a) = byteAt s j := by
  have h3 : j - a < (s.extract a b).size := by simp; omega
  have h4 := byteAt_eq _ (j - a) h3
  rw [← h4, ← byteAt_eq s j (by omega)]
  congr 1
  rw [ByteArray.getElem_extract]
  simp only [show a + (j - a) = j by omega]
theorem gap_res (s : ByteArray) (a b : Nat) (hb : b ≤ s.size) (hs : s.size ≤ 65536) (h : Gap (byteAt s) a b) : resR (s.extract a b) = ([], 0, 0) := by
  have hle := h.le
  have hsz : (s.extract a b).size = b - a := by simp; omega
  unfold resR
  rw [if_neg (by omega), hsz]
  have := gap_lex h a (byteAt (s.extract a b)) (Nat.le_refl _) (fun j h1 h2 => byteAt_mid s a b j hb h1 h2)
  rw [Nat.sub_self] at this
  rw [this]; rfl
end Go.Proofs.Ytaghoicmfpndbaa
