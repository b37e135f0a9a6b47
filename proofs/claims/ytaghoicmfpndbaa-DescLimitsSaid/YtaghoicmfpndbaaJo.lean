/- Plain functions: tokens, printed, are cut into the same. -/
import Derived.Test.YtaghoicmfpndbaaRi
namespace Go.Proofs.Ytaghoicmfpndbaa
open Go.RowKit

def cL (L : List UInt8) (i : Nat) : Nat := (L.getD i 0).toNat
theorem byteAt_mk (L : List UInt8) : byteAt ⟨L.toArray⟩ = cL L := rfl
theorem size_mk (L : List UInt8) : (ByteArray.mk L.toArray).size = L.length := by simp [ByteArray.size]
theorem cL_left {A B : List UInt8} {j : Nat} (h : j < A.length) : cL (A ++ B) j = cL A j := by
  unfold cL; simp only [List.getD_eq_getElem?_getD]; rw [List.getElem?_append_left h]
theorem cL_right {A B : List UInt8} {j : Nat} : cL (A ++ B) (A.length + j) = cL B j := by
  unfold cL; simp only [List.getD_eq_getElem?_getD]; rw [List.getElem?_append_right (by omega)]; congr 3; omega
/-- The texts of the first k tokens, a blank between two. -/
def accK (f : Nat → List UInt8) : Nat → List UInt8
  | 0 => []
  | k + 1 => (if 0 < k then accK f k ++ [32] else accK f k) ++ f k
theorem accK_pre (f : Nat → List UInt8) (i : Nat) : ∀ n, i ≤ n → ∃ R, accK f n = accK f i ++ R ∧ (0 < i → i < n → ∃ R', R = 32 :: R') := by
  intro n
  induction n with
  | zero =>
    intro h
    obtain rfl : i = 0 := by omega
    exact ⟨[], by simp, fun _ h2 => by omega⟩
  | succ n ih =>
    intro h
    by_cases hin : i = n + 1
    · subst hin; exact ⟨[], by simp, fun _ h2 => by omega⟩
    · obtain ⟨R, h1, h2⟩ := ih (by omega)
      by_cases h0 : 0 < n
      · rw [accK, if_pos h0, h1]
        by_cases hi : i < n
        · refine ⟨R ++ [32] ++ f n, by simp, fun h3 _ => ?_⟩
          obtain ⟨R', rfl⟩ := h2 h3 hi
          exact ⟨R' ++ [32] ++ f n, by simp⟩
        · obtain rfl : i = n := by omega
          have : R = [] := by simpa using h1
          subst this
          exact ⟨32 :: f i, by simp, fun _ _ => ⟨f i, rfl⟩⟩
      · obtain rfl : n = 0 := by omega
        rw [accK, if_neg h0, h1]
        exact ⟨R ++ f 0, by simp, fun h3 h4 => by omega⟩
/-- Where the i-th text begins. -/
def posK (f : Nat → List UInt8) (i : Nat) : Nat := (accK f i).length + if 0 < i then 1 else 0
theorem accK_succ_len (f : Nat → List UInt8) (i : Nat) : (accK f (i + 1)).length = posK f i + (f i).length := by
  rw [accK]; unfold posK; split <;> simp only [List.length_append, List.length_cons, List.length_nil] <;> omega
/-- The i-th text stands at its place. -/
theorem accK_seg (f : Nat → List UInt8) (i n : Nat) (hi : i < n) (j : Nat) (hj : j < (f i).length) : cL (accK f n) (posK f i + j) = cL (f i) j := by
  obtain ⟨R, hR, -⟩ := accK_pre f (i + 1) n (by omega)
  have e : accK f (i + 1) = (if 0 < i then accK f i ++ [32] else accK f i) ++ f i := rfl
  have hl : posK f i = (if 0 < i then accK f i ++ [32] else accK f i).length := by unfold posK; split <;> simp
  rw [hR, cL_left (by rw [accK_succ_len]; omega), e, hl]
  exact cL_right
theorem accK_blank (f : Nat → List UInt8) (i n : Nat) (h0 : 0 < i) (hi : i < n) : cL (accK f n) (accK f i).length = 32 := by
  obtain ⟨R, hR, h2⟩ := accK_pre f i n (by omega)
  obtain ⟨R', rfl⟩ := h2 h0 hi
  rw [hR]
  have := cL_right (A := accK f i) (B := 32 :: R') (j := 0)
  rw [Nat.add_zero] at this
  rw [this]; rfl
theorem accK_le (f : Nat → List UInt8) (i n : Nat) (hi : i ≤ n) : (accK f i).length ≤ (accK f n).length := by
  obtain ⟨R, hR, -⟩ := accK_pre f i n hi
  rw [hR]; simp
/-- A token's bytes by themselves. -/
structure Good (k : Nat) (B : List UInt8) : Prop where
  pos : 0 < B.length
  kind : k = tokK (cL B 0)
  ne : k ≠ 0
  name : k = 1 → B.length ≤ 32 ∧ ∀ j, j < B.length → nameB (cL B j) = true
  list : k = 2 → ∀ j, j < B.length → listB (cL B j) = true
  sign : k = 3 → B.length = 1
theorem tokK_blank {c : Nat} (h : tokK c ≠ 0) : blankB c = false ∧ c ≠ 35 := by
  constructor
  · cases hb : blankB c with
    | false => rfl
    | true =>
      exfalso; apply h
      have := (kind_blank c).2 hb
      rw [tokK_kind, this]; rfl
  · rintro rfl; exact h rfl
theorem tokK_three (c : Nat) : tokK c = 0 ∨ tokK c = 1 ∨ tokK c = 2 ∨ tokK c = 3 := by
  unfold tokK; (repeat' split) <;> simp
/-- A text of good tokens is cut into them. -/
theorem lex_join (f : Nat → List UInt8) (kd : Nat → Nat) (n : Nat) (hg : ∀ i, i < n → Good (kd i) (f i)) : ∀ m i, n - i ≤ m → i ≤ n →
    lexAt (cL (accK f n)) (accK f n).length (accK f i).length = ((List.range' i (n - i)).map fun j => ⟨kd j, posK f j, posK f j + (f j).length⟩, 0, 0) := by
  intro m
  induction m with
  | zero =>
    intro i hm hi
    obtain rfl : i = n := by omega
    rw [lex_done _ _ _ (Nat.le_refl _), Nat.sub_self]; rfl
  | succ m ih =>
    intro i hm hi
    by_cases hin : i = n
    · subst hin
      rw [lex_done _ _ _ (Nat.le_refl _), Nat.sub_self]; rfl
    · have hlt : i < n := by omega
      have G := hg i hlt
      have hN := accK_succ_len f i
      have hle := accK_le f (i + 1) n (by omega)
      have hp := G.pos
      have hstep : lexAt (cL (accK f n)) (accK f n).length (accK f i).length = lexAt (cL (accK f n)) (accK f n).length (posK f i) := by
        by_cases h0 : 0 < i
        · have hpk : posK f i = (accK f i).length + 1 := by unfold posK; rw [if_pos h0]
          rw [hpk, lex_blank _ _ _ (by omega) (by rw [accK_blank f i n h0 hlt]; rfl)]
        · have hpk : posK f i = (accK f i).length := by unfold posK; rw [if_neg h0]; rfl
          rw [hpk]
      have hc0 : cL (accK f n) (posK f i) = cL (f i) 0 := by
        have := accK_seg f i n hlt 0 hp
        rwa [Nat.add_zero] at this
      have hk : tokK (cL (accK f n) (posK f i)) = kd i := by rw [hc0]; exact G.kind.symm
      have hnb := tokK_blank (c := cL (accK f n) (posK f i)) (by rw [hk]; exact G.ne)
      have hend : posK f i + (f i).length = (accK f n).length ∨ cL (accK f n) (posK f i + (f i).length) = 32 := by
        by_cases hl : i + 1 = n
        · left; rw [← hN, hl]
        · right
          have := accK_blank f (i + 1) n (by omega) (by omega)
          rwa [hN] at this
      have hE : tokE (cL (accK f n)) (accK f n).length (posK f i) = posK f i + (f i).length := by
        unfold tokE
        rcases tokK_three (cL (accK f n) (posK f i)) with e | e | e | e
        · exact absurd (hk.symm.trans e) G.ne
        · have hlow : lowB (cL (accK f n) (posK f i)) = true := by
            unfold tokK at e
            by_cases hb : lowB (cL (accK f n) (posK f i)) = true
            · exact hb
            · rw [if_neg hb] at e; (repeat' split at e) <;> omega
          rw [if_pos hlow]
          refine runEnd_eq nameB _ _ _ _ (by omega) (by omega) (fun j h1 h2 => ?_) ?_
          · have := accK_seg f i n hlt (j - posK f i) (by omega)
            rw [show posK f i + (j - posK f i) = j by omega] at this
            rw [this]; exact (G.name (hk.symm.trans e)).2 _ (by omega)
          · rcases hend with h | h
            · exact .inl h
            · exact .inr (by rw [h]; rfl)
        · have hnl : ¬ lowB (cL (accK f n) (posK f i)) = true := fun hb => by
            unfold tokK at e; rw [if_pos hb] at e; omega
          have hdg : digB (cL (accK f n) (posK f i)) = true := by
            unfold tokK at e
            rw [if_neg hnl] at e
            by_cases hb : digB (cL (accK f n) (posK f i)) = true
            · exact hb
            · rw [if_neg hb] at e; (repeat' split at e) <;> omega
          rw [if_neg hnl, if_pos hdg]
          refine runEnd_eq listB _ _ _ _ (by omega) (by omega) (fun j h1 h2 => ?_) ?_
          · have := accK_seg f i n hlt (j - posK f i) (by omega)
            rw [show posK f i + (j - posK f i) = j by omega] at this
            rw [this]; exact G.list (hk.symm.trans e) _ (by omega)
          · rcases hend with h | h
            · exact .inl h
            · exact .inr (by rw [h]; rfl)
        · have hnl : ¬ lowB (cL (accK f n) (posK f i)) = true := fun hb => by
            unfold tokK at e; rw [if_pos hb] at e; omega
          have hnd : ¬ digB (cL (accK f n) (posK f i)) = true := fun hb => by
            unfold tokK at e; rw [if_neg hnl, if_pos hb] at e; omega
          rw [if_neg hnl, if_neg hnd, G.sign (hk.symm.trans e)]
      have hbig : ¬ (tokK (cL (accK f n) (posK f i)) = 1 ∧ 32 < tokE (cL (accK f n)) (accK f n).length (posK f i) - posK f i) := by
        rw [hk, hE]
        rintro ⟨h1, h2⟩
        have := (G.name h1).1; omega
      rw [hstep, lex_tok _ _ _ (by omega) hnb.1 hnb.2 (by rw [hk]; exact G.ne) hbig, hk, hE, ← hN, ih (i + 1) (by omega) (by omega)]
      rw [show n - i = (n - (i + 1)) + 1 by omega, List.range'_succ, List.map_cons, hN]
/-- What a good text's tokens are like. -/
theorem all_good (c : Nat → Nat) (len : Nat) (o : Nat) : ∀ (l : List Tok) (i : Nat), i ≤ len → lexAt c len i = (l, 0, o) → ∀ t ∈ l, t.a < t.e ∧ t.e ≤ len ∧ t.kind = tokK (c t.a) ∧ t.kind ≠ 0 ∧ t.e = tokE c len t.a ∧ ¬ (t.kind = 1 ∧ 32 < t.e - t.a) := by
  intro l
  induction l with
  | nil => intro i _ _ t ht; cases ht
  | cons t l ih =>
    intro i hi h
    rcases lex_cases c len i (t :: l) o hi h with ⟨h0, -⟩ | ⟨u, r, hr, -, h2, h3, -, h5, h6, h7, h8, h9⟩
    · cases h0
    · obtain ⟨rfl, rfl⟩ := List.cons.inj hr
      intro x hx
      rcases List.mem_cons.1 hx with rfl | hx
      · exact ⟨h2, h3, h6, h7, h8, h9⟩
      · exact ih _ h3 h5 x hx
/-- A token's own bytes. -/
def bytesT (s : ByteArray) (t : Tok) : List UInt8 := (s.extract t.a t.e).data.toList
theorem bytesT_len (s : ByteArray) (t : Tok) (h : t.e ≤ s.size) : (bytesT s t).length = t.e - t.a := by
  unfold bytesT
  have h1 : (s.extract t.a t.e).data.toList.length = (s.extract t.a t.e).size := rfl
  have h2 : (s.extract t.a t.e).size = t.e - t.a := by simp; omega
  rw [h1, h2]
theorem bytesT_get (s : ByteArray) (t : Tok) (j : Nat) (h : t.e ≤ s.size) (hj : j < t.e - t.a) : cL (bytesT s t) j = byteAt s (t.a + j) := by
  have := byteAt_mid s t.a t.e (t.a + j) h (by omega) (by omega)
  rw [Nat.add_sub_cancel_left] at this
  exact this
theorem good_of {s : ByteArray} {l : List Tok} {o : Nat} (h : lexAt (byteAt s) s.size 0 = (l, 0, o)) (t : Tok) (ht : t ∈ l) : Good t.kind (bytesT s t) := by
  obtain ⟨h1, h2, h3, h4, h5, h6⟩ := all_good _ _ _ l 0 (by omega) h t ht
  have hlen := bytesT_len s t h2
  have h0 := bytesT_get s t 0 h2 (by omega)
  rw [Nat.add_zero] at h0
  have hcase : ∀ (hk : t.kind = 1), t.e = runEnd nameB (byteAt s) s.size t.a := fun hk => by
    rw [h5, tokE]
    have : lowB (byteAt s t.a) = true := by
      rw [h3] at hk
      unfold tokK at hk
      by_cases hb : lowB (byteAt s t.a) = true
      · exact hb
      · rw [if_neg hb] at hk; (repeat' split at hk) <;> omega
    rw [if_pos this]
  exact {
    pos := by omega
    kind := by rw [h0]; exact h3
    ne := h4
    name := fun hk => ⟨by omega, fun j hj => by
      have he := hcase hk
      rw [bytesT_get s t j h2 (by omega)]
      exact (runEnd_spec nameB (byteAt s) s.size t.a (by omega)).2.2.1 (t.a + j) (by omega) (by omega)⟩
    list := fun hk j hj => by
      have he : t.e = runEnd listB (byteAt s) s.size t.a := by
        rw [h5, tokE]
        rw [h3] at hk
        unfold tokK at hk
        by_cases hb : lowB (byteAt s t.a) = true
        · rw [if_pos hb] at hk; omega
        · rw [if_neg hb] at hk ⊢
          by_cases hd : digB (byteAt s t.a) = true
          · rw [if_pos hd]
          · rw [if_neg hd] at hk; (repeat' split at hk) <;> omega
      rw [bytesT_get s t j h2 (by omega)]
      exact (runEnd_spec listB (byteAt s) s.size t.a (by omega)).2.2.1 (t.a + j) (by omega) (by omega)
    sign := fun hk => by
      have he : t.e = t.a + 1 := by
        rw [h5, tokE]
        rw [h3] at hk
        unfold tokK at hk
        by_cases hb : lowB (byteAt s t.a) = true
        · rw [if_pos hb] at hk; omega
        · rw [if_neg hb] at hk ⊢
          by_cases hd : digB (byteAt s t.a) = true
          · rw [if_pos hd] at hk; omega
          · rw [if_neg hd]
      omega }
end Go.Proofs.Ytaghoicmfpndbaa
