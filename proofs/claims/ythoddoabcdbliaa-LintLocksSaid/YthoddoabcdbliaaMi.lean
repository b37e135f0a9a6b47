/- Layer 26's lives. -/
import Derived.Test.YthoddoabcdbliaaMf
import Derived.Test.YthoddoabcdbliaaMh
import Derived.Test.YthoddoabcdbliaaM2
namespace Go.Proofs.Ythoddoabcdbliaa
open Go.RowKit

def exM : List I4 := [⟨9, 0, 0, 2⟩, ⟨13, 0, 0, 0⟩, ⟨14, 0, 0, 0⟩]
abbrev exMC : Array Value := #[.int .i64 9, .int .i64 0, .int .i64 0, .int .i32 2, .int .i64 13, .int .i64 0, .int .i64 0, .int .i32 0, .int .i64 14, .int .i64 0, .int .i64 0, .int .i32 0]
theorem exM_fine : Fine 0 exM := fine_of (by decide +kernel)
theorem exM_in {W : World} {b : Nat} (h : Blk W b 41 exMC) : InsIn W (some ⟨b, 0, none⟩) exM := fun i x hx => by
  match i, hx with
  | 0, hx => cases hx; exact ⟨⟨by unfold In64; decide, by unfold In64; decide, by unfold In64; decide, by decide⟩, b, 0, rfl, h.lt, h.cell 0, h.cell 1, h.cell 2, h.cell 3⟩
  | 1, hx => cases hx; exact ⟨⟨by unfold In64; decide, by unfold In64; decide, by unfold In64; decide, by decide⟩, b, 0, rfl, h.lt, h.cell 4, h.cell 5, h.cell 6, h.cell 7⟩
  | 2, hx => cases hx; exact ⟨⟨by unfold In64; decide, by unfold In64; decide, by unfold In64; decide, by decide⟩, b, 0, rfl, h.lt, h.cell 8, h.cell 9, h.cell 10, h.cell 11⟩
  | i + 3, hx => simp [exM] at hx
theorem exM_at {pc : Nat} {x : I4} (h : exM[pc]? = some x) : (pc = 0 ∧ x = ⟨9, 0, 0, 2⟩) ∨ (pc = 1 ∧ x = ⟨13, 0, 0, 0⟩) ∨ (pc = 2 ∧ x = ⟨14, 0, 0, 0⟩) := by
  match pc, h with
  | 0, h => cases h; exact .inl ⟨rfl, rfl⟩
  | 1, h => cases h; exact .inr (.inl ⟨rfl, rfl⟩)
  | 2, h => cases h; exact .inr (.inr ⟨rfl, rfl⟩)
  | i + 3, h => simp [exM] at h
theorem exM_next {pc : Nat} {x : I4} (h : exM[pc]? = some x) {j : Nat} (hj : (j : Int) ∈ nextP x pc) : (pc = 0 ∧ j = 1) ∨ (pc = 1 ∧ j = 2) := by
  rcases exM_at h with ⟨rfl, rfl⟩ | ⟨rfl, rfl⟩ | ⟨rfl, rfl⟩
  · simp [nextP] at hj; exact .inl ⟨rfl, by omega⟩
  · simp [nextP] at hj; exact .inr ⟨rfl, by omega⟩
  · simp [nextP] at hj
theorem rch0 : Rch exM 0 := .zero
theorem rch1 : Rch exM 1 := .step rch0 (x := ⟨9, 0, 0, 2⟩) rfl (by simp [nextP])
theorem rch2 : Rch exM 2 := .step rch1 (x := ⟨13, 0, 0, 0⟩) rfl (by simp [nextP])
/-- What may be had in the example. -/
def exA (F : Nat → Nat → Bool) : Prop := ∀ i k, F i k = true → i ≠ 0 ∧ k = 2
def exAB (_ : Nat) (B : Nat → Bool) : Prop := ∀ k, B k = true → k = 2
theorem exA_B (F : Nat → Nat → Bool) (pc : Nat) (x : I4) (h : exA F) (_ : Rch exM pc) (hx : exM[pc]? = some x) : exAB pc (bhP x (F pc) (allP 3)) := fun k hk => by
  rcases exM_at hx with ⟨rfl, rfl⟩ | ⟨rfl, rfl⟩ | ⟨rfl, rfl⟩
  · simp [bhP] at hk
    rcases hk with q | ⟨q, _⟩
    · exact (h _ _ q).2
    · omega
  · simp [bhP] at hk; exact (h _ _ hk).2
  · simp [bhP] at hk; exact (h _ _ hk).2
theorem exA_S (F : Nat → Nat → Bool) (pc : Nat) (x : I4) (j : Nat) (B : Nat → Bool) (h : exA F) (_ : Rch exM pc) (hx : exM[pc]? = some x) (hj : (j : Int) ∈ nextP x pc) (hB : exAB pc B) : exA (upd F j (fun k => F j k || B k)) := fun i k hk => by
  unfold upd at hk
  split at hk
  · rename_i e
    subst e
    have hi : i ≠ 0 := by rcases exM_next hx hj with ⟨_, q⟩ | ⟨_, q⟩ <;> omega
    rcases Bool.or_eq_true_iff.1 hk with q | q
    · exact h _ _ q
    · exact ⟨hi, hB k q⟩
  · exact h _ _ hk
theorem exA_words {F : Nat → Nat → Bool} (h : exA F) (hc : MayC exM 3 F) : wordB (F 0) 16 = 0 ∧ wordB (F 1) 16 = 4 ∧ wordB (F 2) 16 = 4 := by
  have h1 : F 1 2 = true := by
    have := hc 0 ⟨9, 0, 0, 2⟩ rch0 rfl 1 (by simp [nextP]) 2 (by omega)
    simpa [bhP, allP] using this
  have h2 : F 2 2 = true := by
    have := hc 1 ⟨13, 0, 0, 0⟩ rch1 rfl 2 (by simp [nextP]) 2 (by omega)
    simpa [bhP, h1] using this
  have e4 : ∀ i, F i 2 = true → wordB (F i) 16 = 4 := fun i hi => by
    have : wordB (F i) 16 = wordB (fun k => decide (k = 2)) 16 := wordB_same _ _ 16 fun k _ => by
      by_cases e : k = 2
      · subst e; simp [hi]
      · cases q : F i k
        · simp [e]
        · exact absurd (h i k q).2 e
    rw [this]; decide
  refine ⟨?_, e4 1 h1, e4 2 h2⟩
  have : wordB (F 0) 16 = wordB (fun _ => false) 16 := wordB_same _ _ 16 fun k _ => by
    cases q : F 0 k
    · rfl
    · exact absurd rfl (h 0 k q).1
  rw [this]; decide
theorem exA_leak {F : Nat → Nat → Bool} (h : exA F) (hc : MayC exM 3 F) : leakL F exM 3 = [2] := by
  obtain ⟨h0, h1, h2⟩ := exA_words h hc
  rw [leakL_succ, leakL_succ, leakL_succ, h0, h1, h2]
  simp [exM, leakL]
/-- What is had for sure in the example. -/
def exU (F : Nat → Nat → Bool) : Prop := (∀ k, F 0 k = false) ∧ F 1 2 = true ∧ F 2 2 = true
def exUB (pc : Nat) (B : Nat → Bool) : Prop := pc = 0 ∨ pc = 1 → B 2 = true
theorem exU_0 (S : Nat → Bool) (h : ∀ k, S k = true ↔ Rch exM k) : exU (mustP S (allP 3) exM.length) :=
  ⟨fun k => by simp [mustP], by simp [mustP, exM, allP, (h 1).2 rch1], by simp [mustP, exM, allP, (h 2).2 rch2]⟩
theorem exU_B (F : Nat → Nat → Bool) (pc : Nat) (x : I4) (h : exU F) (_ : Rch exM pc) (hx : exM[pc]? = some x) : exUB pc (bhP x (F pc) (allP 3)) := fun hp => by
  rcases exM_at hx with ⟨rfl, rfl⟩ | ⟨rfl, rfl⟩ | ⟨rfl, rfl⟩
  · simp [bhP, allP]
  · simp [bhP, h.2.1]
  · omega
theorem exU_S (F : Nat → Nat → Bool) (pc : Nat) (x : I4) (j : Nat) (B : Nat → Bool) (h : exU F) (_ : Rch exM pc) (hx : exM[pc]? = some x) (hj : (j : Int) ∈ nextP x pc) (hB : exUB pc B) : exU (upd F j (fun k => F j k && B k)) := by
  obtain ⟨a, b, c⟩ := h
  rcases exM_next hx hj with ⟨rfl, rfl⟩ | ⟨rfl, rfl⟩
  · exact ⟨fun k => by simp [upd, a], by simp [upd, b, hB (.inl rfl)], by simp [upd, c]⟩
  · exact ⟨fun k => by simp [upd, a], by simp [upd, b], by simp [upd, c, hB (.inr rfl)]⟩
theorem exU_word {F : Nat → Nat → Bool} (h : exU F) (hc : ∀ pc x, Rch exM pc → exM[pc]? = some x → ∀ j : Nat, (j : Int) ∈ nextP x pc → ∀ b, b < 16 → (F j b && bhP x (F pc) (allP 3) b) = F j b) : wordB (F 2) 16 = 4 := by
  obtain ⟨a, b, c⟩ := h
  have h1 : ∀ k, k < 16 → F 1 k = true → k = 2 := fun k hk q => by
    have := hc 0 ⟨9, 0, 0, 2⟩ rch0 rfl 1 (by simp [nextP]) k hk
    rw [q] at this
    simp [bhP, a] at this
    omega
  have : wordB (F 2) 16 = wordB (fun k => decide (k = 2)) 16 := wordB_same _ _ 16 fun k hk => by
    by_cases e : k = 2
    · subst e; simp [c]
    · cases q : F 2 k
      · simp [e]
      · have := hc 1 ⟨13, 0, 0, 0⟩ rch1 rfl 2 (by simp [nextP]) k hk
        rw [q] at this
        simp [bhP] at this
        exact absurd (h1 k hk this) e
  rw [this]; decide
end Go.Proofs.Ythoddoabcdbliaa
