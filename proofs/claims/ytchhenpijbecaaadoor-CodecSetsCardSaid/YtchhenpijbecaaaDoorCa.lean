/- plain facts of layer 31: bytes of numbers, and the number that stands in bytes. -/
import Derived.WalkKit
namespace Go.Proofs.YtchhenpijbecaaaDoor
open Go

/-- the bytes of a number without a sign. -/
def vb (u : Nat) : List UInt8 := if u < 128 then [UInt8.ofNat u] else UInt8.ofNat (u % 128 + 128) :: vb (u / 128)
termination_by u
decreasing_by omega
theorem vb_lo {u : Nat} (h : u < 128) : vb u = [UInt8.ofNat u] := by rw [vb]; simp [h]
theorem vb_hi {u : Nat} (h : ¬ u < 128) : vb u = UInt8.ofNat (u % 128 + 128) :: vb (u / 128) := by rw [vb]; simp [h]
/-- the number without a sign that a number stands for. -/
def foldN (n : Int) : Nat := if n < 0 then (-2 * n - 1).toNat else (2 * n).toNat
def unfoldI (u : Nat) : Int := if u % 2 = 1 then -((u / 2 : Nat) : Int) - 1 else ((u / 2 : Nat) : Int)
theorem unfold_fold (n : Int) : unfoldI (foldN n) = n := by
  unfold unfoldI foldN; split <;> split <;> omega
theorem fold_unfold (u : Nat) : foldN (unfoldI u) = u := by
  unfold unfoldI foldN; split <;> split <;> omega
theorem fold_lt {n : Int} (h : -9223372036854775808 ≤ n ∧ n ≤ 9223372036854775807) : foldN n < 18446744073709551616 := by
  unfold foldN; split <;> omega
theorem unfold_in {u : Nat} (h : u < 18446744073709551616) : -9223372036854775808 ≤ unfoldI u ∧ unfoldI u ≤ 9223372036854775807 := by
  unfold unfoldI; split <;> omega
/-- a number's bytes. -/
def intB (n : Int) : List UInt8 := vb (foldN n)

/-- the number without a sign that stands in bytes, and behind how many: from its i-th byte on, u being what the others say. -/
def dec (i u : Nat) : List UInt8 → Option (Nat × Nat)
  | [] => none
  | c :: cs => if i = 9 ∧ 1 < c.toNat then none
    else if 128 ≤ c.toNat then dec (i + 1) (u + c.toNat % 128 * 128 ^ i) cs
    else if 0 < i ∧ c.toNat = 0 then none
    else some (u + c.toNat % 128 * 128 ^ i, i + 1)
/-- the number that stands from a place on, and the place behind it. -/
def getN (l : List UInt8) (at' : Nat) : Option (Int × Nat) := (dec 0 0 (l.drop at')).map fun p => (unfoldI p.1, at' + p.2)

theorem vb_len (k : Nat) : ∀ u, u < 128 ^ (k + 1) → (vb u).length ≤ k + 1 := by
  induction k with
  | zero => intro u hu; rw [vb_lo (by simpa using hu)]; simp
  | succ k ih =>
    intro u hu
    by_cases h : u < 128
    · rw [vb_lo h]; simp
    · rw [vb_hi h]; simp
      have := ih (u / 128) (by rw [Nat.div_lt_iff_lt_mul (by decide)]; simpa [Nat.pow_succ] using hu)
      omega
theorem vb_len10 {u : Nat} (h : u < 18446744073709551616) : (vb u).length ≤ 10 := vb_len 9 u (by omega)
theorem vb_pos (u : Nat) : 0 < (vb u).length := by
  rw [vb]; split <;> simp
theorem intB_len {n : Int} (h : -9223372036854775808 ≤ n ∧ n ≤ 9223372036854775807) : (intB n).length ≤ 10 := vb_len10 (fold_lt h)
theorem intB_pos (n : Int) : 0 < (intB n).length := vb_pos _

theorem u8_of {x : Nat} (h : x < 256) : (UInt8.ofNat x).toNat = x := by simp; omega

/-- what is written is read. -/
theorem dec_vb (k : Nat) : ∀ (i u acc : Nat) (rest : List UInt8), 10 - i = k → i ≤ 9 → u * 128 ^ i < 18446744073709551616 → (0 < i → u ≠ 0) →
    dec i acc (vb u ++ rest) = some (acc + u * 128 ^ i, i + (vb u).length) := by
  induction k with
  | zero => intro i u acc rest hk hi; omega
  | succ k ih =>
    intro i u acc rest hk hi hu h0
    by_cases h : u < 128
    · rw [vb_lo h, List.singleton_append, dec, u8_of (by omega)]
      have h9 : ¬ (i = 9 ∧ 1 < u) := by
        rintro ⟨rfl, h1⟩
        have : 2 * 128 ^ 9 ≤ u * 128 ^ 9 := Nat.mul_le_mul_right _ h1
        have e : (128 : Nat) ^ 9 = 9223372036854775808 := by decide
        omega
      rw [if_neg h9, if_neg (by omega), if_neg (by rintro ⟨a, b⟩; exact h0 a b), Nat.mod_eq_of_lt h]; simp
    · rw [vb_hi h, List.cons_append, dec, u8_of (by omega)]
      have hi9 : i ≠ 9 := by
        rintro rfl
        have : 128 * 128 ^ 9 ≤ u * 128 ^ 9 := Nat.mul_le_mul_right _ (by omega)
        have e : (128 : Nat) ^ 9 = 9223372036854775808 := by decide
        omega
      have e2 : (u % 128 + 128) % 128 = u % 128 := by omega
      have hp : u / 128 * 128 ^ (i + 1) + u % 128 * 128 ^ i = u * 128 ^ i := by
        rw [Nat.pow_succ, Nat.mul_comm (128 ^ i) 128, ← Nat.mul_assoc, ← Nat.add_mul]
        congr 1; omega
      rw [if_neg (by rintro ⟨a, _⟩; exact hi9 a), if_pos (by omega), e2, ih (i + 1) (u / 128) _ rest (by omega) (by omega) (by omega) (by intro _; omega)]
      simp only [List.length_cons, Option.some.injEq, Prod.mk.injEq]
      omega
theorem getN_intB {n : Int} (hn : -9223372036854775808 ≤ n ∧ n ≤ 9223372036854775807) (a rest : List UInt8) : getN (a ++ (intB n ++ rest)) a.length = some (n, a.length + (intB n).length) := by
  unfold getN
  rw [List.drop_left, intB, dec_vb 10 0 (foldN n) 0 rest rfl (by omega) (by have := fold_lt hn; omega) (by omega)]
  simp [unfold_fold]
/-- what is read is written so. -/
theorem dec_back (l : List UInt8) : ∀ (i acc v m : Nat), i ≤ 9 → acc < 128 ^ i → dec i acc l = some (v, m) →
    ∃ u rest, l = vb u ++ rest ∧ v = acc + u * 128 ^ i ∧ m = i + (vb u).length ∧ (0 < i → u ≠ 0) ∧ u * 128 ^ i + acc < 18446744073709551616 := by
  induction l with
  | nil => intro i acc v m _ _ h; cases h
  | cons c cs ih =>
    intro i acc v m hi ha h
    rw [dec] at h
    have hc : c.toNat < 256 := c.toNat_lt
    split at h
    · cases h
    · rename_i h9
      split at h
      · rename_i hge
        have hi9 : i ≠ 9 := fun e => h9 ⟨e, by omega⟩
        have hp : (128 : Nat) ^ (i + 1) = 128 ^ i * 128 := Nat.pow_succ ..
        have hm : c.toNat % 128 * 128 ^ i ≤ 127 * 128 ^ i := Nat.mul_le_mul_right _ (by omega)
        obtain ⟨u, rest, e1, e2, e3, e4, e5⟩ := ih (i + 1) _ v m (by omega) (by omega) h
        have hu : u ≠ 0 := e4 (by omega)
        have hq : u * 128 ^ (i + 1) = u * 128 * 128 ^ i := by rw [hp, Nat.mul_comm (128 ^ i) 128, Nat.mul_assoc]
        refine ⟨u * 128 + c.toNat % 128, rest, ?_, ?_, ?_, by omega, ?_⟩
        · rw [vb_hi (by omega), show (u * 128 + c.toNat % 128) / 128 = u by omega, show (u * 128 + c.toNat % 128) % 128 + 128 = c.toNat by omega, e1]
          simp
        · rw [e2, Nat.add_mul]; omega
        · rw [vb_hi (by omega), show (u * 128 + c.toNat % 128) / 128 = u by omega, e3]; simp; omega
        · rw [Nat.add_mul]; omega
      · split at h
        · cases h
        · rename_i hlt h0
          injection h with h; injection h with e1 e2
          have hmod : c.toNat % 128 = c.toNat := by omega
          refine ⟨c.toNat, cs, ?_, ?_, ?_, ?_, ?_⟩
          · rw [vb_lo (by omega)]; simp
          · rw [← e1, hmod]
          · rw [vb_lo (by omega), ← e2]; rfl
          · intro hp e; exact h0 ⟨hp, e⟩
          · by_cases e9 : i = 9
            · subst e9
              have : c.toNat ≤ 1 := by omega
              have hm : c.toNat * 128 ^ 9 ≤ 1 * 128 ^ 9 := Nat.mul_le_mul_right _ this
              have e : (128 : Nat) ^ 9 = 9223372036854775808 := by decide
              omega
            · have hm : c.toNat * 128 ^ i ≤ 127 * 128 ^ i := Nat.mul_le_mul_right _ (by omega)
              have h8 : (128 : Nat) ^ i ≤ 128 ^ 8 := Nat.pow_le_pow_right (by decide) (by omega)
              have e : (128 : Nat) ^ 8 = 72057594037927936 := by decide
              omega
theorem dec_lt {l : List UInt8} {v m : Nat} (h : dec 0 0 l = some (v, m)) : v < 18446744073709551616 ∧ 1 ≤ m ∧ m ≤ 10 ∧ m ≤ l.length := by
  obtain ⟨u, rest, e1, e2, e3, _, e5⟩ := dec_back l 0 0 v m (by omega) (by simp) h
  simp at e2 e5
  subst e2
  have := vb_len10 e5
  have := vb_pos v
  subst e1
  simp; omega
theorem getN_back {l : List UInt8} {k m : Nat} {n : Int} (hk : k ≤ l.length) (h : getN l k = some (n, m)) :
    ∃ rest, l.drop k = intB n ++ rest ∧ m = k + (intB n).length ∧ -9223372036854775808 ≤ n ∧ n ≤ 9223372036854775807 ∧ m ≤ l.length := by
  unfold getN at h
  match hd : dec 0 0 (l.drop k) with
  | none => rw [hd] at h; cases h
  | some (v, j) =>
    rw [hd] at h
    simp at h
    obtain ⟨rfl, rfl⟩ := h
    have hl := dec_lt hd
    obtain ⟨u, rest, e1, e2, e3, _, e5⟩ := dec_back _ 0 0 v j (by omega) (by simp) hd
    simp at e2 e5 e3
    subst e2
    have h4 := hl.2.2.2
    simp at h4
    refine ⟨rest, by rw [intB, fold_unfold]; exact e1, by rw [intB, fold_unfold, e3], (unfold_in hl.1).1, (unfold_in hl.1).2, by omega⟩
end Go.Proofs.YtchhenpijbecaaaDoor
