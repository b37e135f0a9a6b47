/- What lies in one that isn't burst is neither placed nor burst (layer 13): whatever is done keeps it. -/
import Derived.Test.YtekahmfchpgmfaaYm
import Derived.Test.YtekahmfchpgmfaaYn
namespace Go.Proofs.Ytekahmfchpgmfaa
open Go.RowKit
set_option maxRecDepth 100000

/-- What lies in one that is not burst has a state below 3. -/
def QuB (bs : List Bub) : Prop := ∀ (i u : Nat) (x y : Bub), bs[i]? = some x → bs[u]? = some y → x.up = (u : Int) → y.state ≠ 4 → x.state < 3
theorem qu_nil : QuB [] := fun i u x y h => by simp at h
section
variable {bs : List Bub} {b : Nat} {x : Bub}
theorem qu_set (hQ : QuB bs) (hx : bs[b]? = some x) {z : Bub} (hu : z.up = x.up) (hn : x.state ≠ 4) (hz : z.state < 3 ∨ ∀ (u : Nat) (y : Bub), x.up = (u : Int) → bs[u]? = some y → u ≠ b ∧ y.state = 4) : QuB (bs.set b z) := by
  intro i u p q hp hq hup h4
  have hb := (List.getElem?_eq_some_iff.1 hx).1
  rw [List.getElem?_set] at hp hq
  obtain ⟨q0, hq0, hq4⟩ : ∃ q0, bs[u]? = some q0 ∧ (q0.state ≠ 4) := by
    by_cases e : b = u
    · subst e; exact ⟨x, hx, hn⟩
    · rw [if_neg e] at hq; exact ⟨q, hq, h4⟩
  by_cases e : b = i
  · subst e
    rw [if_pos rfl, if_pos hb] at hp
    cases hp
    rcases hz with hz | hz
    · exact hz
    · exact absurd (hz u q0 (by rw [← hu]; exact hup) hq0).2 hq4
  · rw [if_neg e] at hp
    exact hQ i u p q0 hp hq0 hup hq4
theorem qu_burst (hI : InvB bs) (hQ : QuB bs) (hx : bs[b]? = some x) (hs : x.state = 3) : QuB (burstT bs (b : Int)) := by
  intro i u p q hp hq hup h4
  rw [burst_ent hI hx hs] at hp hq
  by_cases eu : u = b
  · rw [if_pos eu] at hq; cases hq; exact absurd rfl h4
  · rw [if_neg eu] at hq
    obtain ⟨y, hy, hy4⟩ : ∃ y, bs[u]? = some y ∧ y.state ≠ 4 := by
      split at hq
      · rename_i hc
        cases hb : bs[u]? with
        | none => rw [hb] at hq; cases hq
        | some y =>
          have := hc.2
          unfold ownAsk at this
          rw [atB_of hb] at this
          simp only [Bool.and_eq_true, beq_iff_eq] at this
          exact ⟨y, rfl, by omega⟩
      · exact ⟨q, hq, h4⟩
    by_cases ei : i = b
    · rw [if_pos ei] at hp; cases hp
      have := hQ b u x y hx hy hup hy4
      omega
    · rw [if_neg ei] at hp
      split at hp
      · rename_i hc
        cases hb : bs[i]? with
        | none => rw [hb] at hp; cases hp
        | some p0 =>
          have h := hc.2
          unfold ownAsk at h
          rw [atB_of hb] at h
          simp only [Bool.and_eq_true, beq_iff_eq] at h
          rw [hb] at hp
          cases hp
          simp only at hup
          omega
      · exact hQ i u p y hp hy hup hy4
theorem qu_app (hI : InvB bs) (hQ : QuB bs) {z : Bub} (hz : z.state < 3) (hu : z.up < (bs.length : Int)) : QuB (bs ++ [z]) := by
  have key : ∀ (j : Nat) (y : Bub), (bs ++ [z])[j]? = some y → (j = bs.length ∧ y = z) ∨ (j < bs.length ∧ bs[j]? = some y) := fun j y hy => by
    by_cases h : j < bs.length
    · rw [List.getElem?_append_left h] at hy; exact .inr ⟨h, hy⟩
    · rw [List.getElem?_append_right (by omega)] at hy
      obtain ⟨hl, he⟩ := List.getElem?_eq_some_iff.1 hy
      simp at hl
      exact .inl ⟨by omega, by rw [← he]; simp⟩
  intro i u p q hp hq hup h4
  rcases key i p hp with ⟨-, rfl⟩ | ⟨hi, hp⟩
  · exact hz
  · have := (hI.up i p hp).2
    rcases key u q hq with ⟨rfl, -⟩ | ⟨-, hq⟩
    · omega
    · exact hQ i u p q hp hq hup h4
theorem inside_own1 (hI : InvB bs) (hx : bs[b]? = some x) : insideP bs (b : Int) (b : Int) = true := by
  unfold insideP; rw [way_yes hI hx]; simp
theorem inside_up1 (hI : InvB bs) {i : Nat} {p : Bub} (hp : bs[i]? = some p) (h : insideP bs p.up (b : Int) = true) : insideP bs (i : Int) (b : Int) = true := by
  unfold insideP at h ⊢; rw [way_yes hI hp]
  simp only [List.contains_cons, h, Bool.or_true]
theorem qu_regen (hI : InvB bs) (hQ : QuB bs) (hx : bs[b]? = some x) (hs : x.state = 4) (h : Int) : QuB (regenT bs (b : Int) h) := by
  intro i u p q hp hq hup h4
  rw [regen_same hx hs] at hp hq
  rw [regen_at hx h _ (Nat.le_refl _)] at hp hq
  by_cases ei : i = b
  · rw [if_pos ei] at hp; cases hp
    simp only at hup
    have hub : u < b := by have := (hI.up b x hx).2; omega
    rw [if_neg (by omega)] at hq
    split at hq
    · rename_i hc
      have hn := hc.2
      unfold inAsk insideP at hn
      rw [Bool.and_eq_true] at hn
      have := (way_in hI _ (u : Int) (Nat.le_refl _) (b : Int) (by simpa using hn.1)).2.1
      omega
    · have := hQ b u x q hx hq hup h4
      omega
  · rw [if_neg ei] at hp
    split at hp
    · cases hb : bs[i]? with
      | none => rw [hb] at hp; cases hp
      | some p0 => rw [hb] at hp; cases hp; exact (by decide : (2 : Int) < 3)
    · rename_i hc
      have hil := (List.getElem?_eq_some_iff.1 hp).1
      by_cases h3 : p.state < 3
      · exact h3
      · exfalso
        have h34 := hI.st i p hp
        have hni : insideP bs (i : Int) (b : Int) = false := by
          cases hq : insideP bs (i : Int) (b : Int) with
          | false => rfl
          | true =>
            refine absurd ⟨hil, ?_⟩ hc
            unfold inAsk
            rw [hq, atB_of hp]
            simp only [Bool.true_and, Bool.or_eq_true, beq_iff_eq]
            omega
        have hub : u ≠ b := fun e => by
          subst e
          have := inside_up1 hI hp (by rw [hup]; exact inside_own1 hI hx)
          rw [hni] at this; cases this
        rw [if_neg hub] at hq
        split at hq
        · rename_i hd
          have hn := hd.2
          unfold inAsk at hn
          rw [Bool.and_eq_true] at hn
          have := inside_up1 hI hp (by rw [hup]; exact hn.1)
          rw [hni] at this; cases this
        · exact h3 (hQ i u p q hp hq hup h4)
theorem qu_seal (hQ : QuB bs) (b : Int) : QuB (sealT bs b) := by
  unfold sealT
  by_cases h : sealE bs b = 0
  · rw [if_pos h]
    obtain ⟨k, x, rfl, hx, hc⟩ := checkE_0 h
    have h1 : x.state = 1 := by simpa using hc
    rw [Int.toNat_natCast, atB_of hx]
    exact qu_set hQ hx rfl (by omega) (.inl (show (2 : Int) < 3 by decide))
  · rw [if_neg h]; exact hQ
theorem qu_place (hI : InvB bs) (hQ : QuB bs) (b home : Int) : QuB (placeT bs b home) := by
  unfold placeT
  by_cases h : placeE bs b = 0
  · rw [if_pos h]
    have h0 : checkE bs b [2, 3] = 0 := by
      unfold placeE at h
      by_cases hc : checkE bs b [2, 3] = 0
      · exact hc
      · rw [if_neg hc] at h; exact h
    have hp : placeOk bs b = true := by
      unfold placeE at h
      rw [if_pos h0] at h
      by_cases hc : placeOk bs b = true
      · exact hc
      · rw [if_neg hc] at h; exact absurd h (by decide)
    obtain ⟨k, x, rfl, hx, hc⟩ := checkE_0 h0
    have h1 : x.state = 2 ∨ x.state = 3 := by simpa using hc
    rw [Int.toNat_natCast, atB_of hx]
    refine qu_set hQ hx rfl (by omega) (.inr fun u y hu hy => ⟨fun e => ?_, ?_⟩)
    · have := (hI.up k x hx).2; omega
    · unfold placeOk at hp
      rw [atB_of hx, hu, atB_of hy] at hp
      simp only [Bool.or_eq_true, beq_iff_eq] at hp
      omega
  · rw [if_neg h]; exact hQ
theorem qu_make (hI : InvB bs) (hQ : QuB bs) (up : Int) (m : Nat → Bool) : QuB (makeT bs up m) := by
  unfold makeT
  by_cases h : (makeE bs up m).2 = 0
  · rw [if_pos h]
    refine qu_app hI hQ (show (1 : Int) < 3 by decide) ?_
    by_cases hu : up ≠ -1 ∧ inB bs up = false
    · unfold makeE at h; rw [if_pos hu] at h; exact absurd h (by decide)
    · by_cases e : up = -1
      · simp only; omega
      · have : inB bs up = true := by
          cases hq : inB bs up with
          | true => rfl
          | false => exact absurd ⟨e, hq⟩ hu
        exact (inB_iff.1 this).2
  · rw [if_neg h]; exact hQ
theorem qu_do (hI : InvB bs) (hQ : QuB bs) (o : OpB) : QuB (doB bs o) := by
  unfold doB
  by_cases h : o.kind % 6 < 2
  · rw [if_pos h]; exact qu_make hI hQ _ _
  · rw [if_neg h]
    unfold turnT
    split
    · exact qu_seal hQ _
    · split
      · exact qu_place hI hQ _ _
      · split
        · by_cases he : burstE bs o.b = 0
          · obtain ⟨k, x, hk, hx, hc⟩ := checkE_0 he
            rw [hk]; exact qu_burst hI hQ hx (by simpa using hc)
          · unfold burstT; rw [if_neg he]; exact hQ
        · by_cases he : regenE bs o.b = 0
          · obtain ⟨k, x, hk, hx, hc⟩ := checkE_0 he
            rw [hk]; exact qu_regen hI hQ hx (by simpa using hc) _
          · unfold regenT; rw [if_neg he]; exact hQ
end
end Go.Proofs.Ytekahmfchpgmfaa
