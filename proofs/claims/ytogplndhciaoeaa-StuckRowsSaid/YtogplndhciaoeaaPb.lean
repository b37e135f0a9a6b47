/- layer 27 (stuck): how a chain is followed, plain. -/
import Derived.Test.YtogplndhciaoeaaPa
namespace Go.Proofs.Ytogplndhciaoeaa
open Classical in
/-- how a task's chain goes on: 2: it ends; 3: it comes to a round; 4: it comes back. -/
noncomputable def fateP (l : List (Int × Int)) (x : Int) : Nat := if Endless l x then (if Rnd l x then 4 else 3) else 2
theorem fate_end {l : List (Int × Int)} {x : Int} (h : ¬ Endless l x) : fateP l x = 2 := if_neg h
theorem fate_rnd {l : List (Int × Int)} {x : Int} (h : Rnd l x) : fateP l x = 4 := by unfold fateP; rw [if_pos h.endless, if_pos h]
theorem fate_comes {l : List (Int × Int)} {x : Int} (h : Endless l x) (hn : ¬ Rnd l x) : fateP l x = 3 := by unfold fateP; rw [if_pos h, if_neg hn]
theorem fate_pos (l : List (Int × Int)) (x : Int) : fateP l x ≠ 0 := by unfold fateP; split <;> (try split) <;> omega
/-- what is known is so, and known as far as it goes. -/
def Good (l : List (Int × Int)) (k : Int → Nat) : Prop := ∀ x, k x ≠ 0 → k x = fateP l x ∧ nxt l x ≠ none ∧ ∀ u, nxt l x = some u → nxt l u = none ∨ k u ≠ 0
theorem good_none (l : List (Int × Int)) : Good l fun _ => 0 := fun _ h => absurd rfl h
theorem Good.walk {l : List (Int × Int)} {k : Int → Nat} (h : Good l k) (n : Nat) : ∀ x u, k x ≠ 0 → itr l n x = some u → nxt l u = none ∨ k u ≠ 0 := by
  induction n with
  | zero => intro x u hx e; injection e with e; subst e; exact .inr hx
  | succ n ih =>
    intro x u hx e
    change (nxt l x).bind (itr l n) = some u at e
    match hv : nxt l x with
    | none => rw [hv] at e; cases e
    | some y =>
      rw [hv] at e
      change itr l n y = some u at e
      rcases (h x hx).2.2 y hv with hy | hy
      · match n, e with
        | 0, e => injection e with e; subst e; exact .inl hy
        | n + 1, e => change (nxt l y).bind (itr l n) = some u at e; rw [hy] at e; cases e
      · exact ih y u hy e
/-- what holds when a chain is followed from t0 on: a lies behind, it stands at s. -/
structure Fol (l : List (Int × Int)) (k : Int → Nat) (t0 : Int) (a : List Int) (s : Int) : Prop where
  path : ∀ i (h : i < a.length), itr l i t0 = some a[i]
  here : itr l a.length t0 = some s
  nodup : a.Nodup
  unk : ∀ x ∈ a, k x = 0
/-- what is known meanwhile. -/
def midK (k : Int → Nat) (a : List Int) : Int → Nat := fun x => if x ∈ a then 1 else k x
section
variable {l : List (Int × Int)} {k : Int → Nat} {t0 s : Int} {a : List Int}
theorem Fol.start (l : List (Int × Int)) (k : Int → Nat) (t0 : Int) : Fol l k t0 [] t0 := ⟨fun i h => absurd h (by simp), rfl, List.nodup_nil, fun x h => by cases h⟩
theorem Fol.waits (h : Fol l k t0 a s) (i : Nat) (hi : i < a.length) : nxt l a[i] ≠ none := by
  intro e
  have h1 : itr l (i + 1) t0 = none := by rw [itr_add, h.path i hi]; show itr l 1 a[i] = none; rw [itr_one, e]
  have := h.here
  rw [itr_none h1 (by omega)] at this; cases this
theorem Fol.len (h : Fol l k t0 a s) : a.length ≤ l.length := by
  have := len_sub (b := l.map (·.1)) h.nodup fun x hx => by
    obtain ⟨i, hi, rfl⟩ := List.mem_iff_getElem.1 hx
    match hv : nxt l a[i] with
    | none => exact absurd hv (h.waits i hi)
    | some u => exact nxt_mem hv
  simpa using this
theorem Fol.step (h : Fol l k t0 a s) {u : Int} (hk : midK k a s = 0) (hu : nxt l s = some u) : Fol l k t0 (a ++ [s]) u := by
  have hs : s ∉ a := fun hm => by rw [midK, if_pos hm] at hk; cases hk
  have hk0 : k s = 0 := by rwa [midK, if_neg hs] at hk
  refine ⟨fun i hi => ?_, ?_, ?_, fun x hx => ?_⟩
  · by_cases c : i < a.length
    · rw [List.getElem_append_left c]; exact h.path i c
    · obtain rfl : i = a.length := by simp at hi; omega
      rw [List.getElem_append_right (Nat.le_refl _)]; simpa using h.here
  · rw [List.length_append, itr_add, h.here]
    show itr l 1 s = some u
    rw [itr_one, hu]
  · rw [List.nodup_append]
    exact ⟨h.nodup, by simp, fun x hx y hy e => by simp at hy; subst hy; subst e; exact hs hx⟩
  · rcases List.mem_append.1 hx with hx | hx
    · exact h.unk x hx
    · simp at hx; subst hx; exact hk0
theorem mid_step (hs : midK k a s = 0) : midK k (a ++ [s]) = fun x => if x = s then 1 else midK k a x := by
  funext x
  by_cases c : x = s
  · subst c; simp [midK]
  · simp [midK, c]
theorem Fol.to (h : Fol l k t0 a s) (i : Nat) (hi : i < a.length) : itr l (a.length - i) a[i] = some s := by
  have h1 := h.here
  rw [show a.length = i + (a.length - i) by omega, itr_add, h.path i hi] at h1
  exact h1
/-- where it ends: nobody is waited for, or it is known to end. -/
theorem Fol.ends (h : Fol l k t0 a s) (hG : Good l k) (he : nxt l s = none ∨ midK k a s = 2) : ∀ x ∈ a, fateP l x = 2 := by
  have hs : ¬ Endless l s := by
    rcases he with he | he
    · exact fun hh => hh 1 (by rw [itr_one]; exact he)
    · have hsa : s ∉ a := fun hm => by rw [midK, if_pos hm] at he; cases he
      rw [midK, if_neg hsa] at he
      intro hh
      have := (hG s (by omega)).1
      rw [he] at this
      unfold fateP at this
      rw [if_pos hh] at this
      split at this <;> omega
  intro x hx
  obtain ⟨i, hi, rfl⟩ := List.mem_iff_getElem.1 hx
  exact fate_end fun hh => hs (hh.on (h.to i hi))
/-- where it comes to what is asked, or known to come to a round. -/
theorem Fol.comes (h : Fol l k t0 a s) (hG : Good l k) (h0 : midK k a s ≠ 0) (h2 : midK k a s ≠ 2) (i : Nat) (hi : i < a.length) : fateP l a[i] = if s ∈ a.take (i + 1) then 4 else 3 := by
  by_cases hsa : s ∈ a
  · obtain ⟨j, hj, hje⟩ := List.mem_iff_getElem.1 hsa
    have hcyc : Rnd l s := ⟨a.length - j, by omega, by have := h.to j hj; rw [hje] at this; exact this⟩
    by_cases c : j ≤ i
    · have hm : s ∈ a.take (i + 1) := List.mem_iff_getElem.2 ⟨j, by simp; omega, by simpa using hje⟩
      rw [if_pos hm]
      refine fate_rnd ⟨(a.length - i) + (i - j), by omega, ?_⟩
      rw [itr_add, h.to i hi]
      show itr l (i - j) s = some a[i]
      have h1 : itr l (j + (i - j)) t0 = some a[i] := by rw [show j + (i - j) = i by omega]; exact h.path i hi
      rw [itr_add, h.path j hj, hje] at h1
      exact h1
    · have hm : s ∉ a.take (i + 1) := fun hm => by
        obtain ⟨m, hm1, hm2⟩ := List.mem_iff_getElem.1 hm
        simp at hm1
        rw [List.getElem_take] at hm2
        have := (List.getElem_inj h.nodup).1 (hm2.trans hje.symm)
        omega
      rw [if_neg hm]
      refine fate_comes (Endless.of (h.to i hi) hcyc.endless) ?_
      rintro ⟨p, hp, hr⟩
      -- the chain from s stays in the round behind j
      have hin : ∀ n, ∃ m, j ≤ m ∧ ∃ hm : m < a.length, itr l n s = some a[m] := by
        intro n
        induction n with
        | zero => exact ⟨j, Nat.le_refl _, hj, by rw [hje]; rfl⟩
        | succ n ih =>
          obtain ⟨m, h1, h2, h3⟩ := ih
          have hnx : itr l (n + 1) s = nxt l a[m] := by rw [itr_add, h3]; exact itr_one l _
          have hp1 : itr l (m + 1) t0 = nxt l a[m] := by rw [itr_add, h.path m h2]; exact itr_one l _
          by_cases c2 : m + 1 < a.length
          · exact ⟨m + 1, by omega, c2, by rw [hnx, ← hp1]; exact h.path _ c2⟩
          · refine ⟨j, Nat.le_refl _, hj, ?_⟩
            rw [hnx, ← hp1, show m + 1 = a.length by omega, h.here, hje]
      have hlong := itr_mul hr (a.length - i)
      have hle : a.length - i ≤ p * (a.length - i) := by
        have := Nat.mul_le_mul_right (a.length - i) hp; omega
      obtain ⟨q, hq⟩ := Nat.exists_eq_add_of_le hle
      rw [hq, itr_add, h.to i hi] at hlong
      obtain ⟨m, h1, h2, h3⟩ := hin q
      have e := h3.symm.trans hlong
      injection e with e
      have := (List.getElem_inj h.nodup).1 e
      omega
  · rw [if_neg fun hm => hsa (List.mem_of_mem_take hm)]
    rw [midK, if_neg hsa] at h0 h2
    have hs := (hG s h0).1
    have hE : Endless l s := Classical.byContradiction fun hn => h2 (by rw [hs, fate_end hn])
    refine fate_comes (Endless.of (h.to i hi) hE) ?_
    rintro ⟨p, hp, hr⟩
    have hlong := itr_mul hr (a.length - i)
    have hle : a.length - i ≤ p * (a.length - i) := by
      have := Nat.mul_le_mul_right (a.length - i) hp; omega
    obtain ⟨q, hq⟩ := Nat.exists_eq_add_of_le hle
    rw [hq, itr_add, h.to i hi] at hlong
    rcases hG.walk q s a[i] h0 hlong with h1 | h1
    · exact h.waits i hi h1
    · exact h1 (h.unk _ (List.getElem_mem hi))
/-- what is known behind it. -/
noncomputable def endK (l : List (Int × Int)) (k : Int → Nat) (a : List Int) : Int → Nat := fun x => if x ∈ a then fateP l x else k x
theorem Fol.good (h : Fol l k t0 a s) (hG : Good l k) (he : nxt l s = none ∨ midK k a s ≠ 0) : Good l (endK l k a) := by
  intro x hx
  by_cases c : x ∈ a
  · refine ⟨by rw [endK, if_pos c], ?_⟩
    obtain ⟨i, hi, rfl⟩ := List.mem_iff_getElem.1 c
    refine ⟨h.waits i hi, fun u hu => ?_⟩
    have h1 : itr l (i + 1) t0 = some u := by rw [itr_add, h.path i hi]; exact (itr_one l _).trans hu
    by_cases c2 : i + 1 < a.length
    · have h2 := (h.path _ c2).symm.trans h1
      injection h2 with h2
      refine .inr ?_
      rw [endK, if_pos (by rw [← h2]; exact List.getElem_mem c2)]; exact fate_pos l u
    · have h2 := h.here
      rw [show a.length = i + 1 by omega, h1] at h2
      injection h2 with h2
      subst h2
      rcases he with he | he
      · exact .inl he
      · refine .inr ?_
        by_cases c3 : u ∈ a
        · rw [endK, if_pos c3]; exact fate_pos l u
        · rw [midK, if_neg c3] at he; rw [endK, if_neg c3]; exact he
  · rw [endK, if_neg c] at hx
    obtain ⟨h1, h2, h3⟩ := hG x hx
    refine ⟨by rw [endK, if_neg c]; exact h1, h2, fun u hu => (h3 u hu).imp id fun h4 => ?_⟩
    by_cases c3 : u ∈ a
    · rw [endK, if_pos c3]; exact fate_pos l u
    · rw [endK, if_neg c3]; exact h4
theorem Fol.known (h : Fol l k t0 a s) (hw : nxt l t0 ≠ none) (he : nxt l s = none ∨ midK k a s ≠ 0) : endK l k a t0 ≠ 0 := by
  match a, h, he with
  | [], h, he =>
    have h1 := h.here
    change some t0 = some s at h1
    injection h1 with h1
    subst h1
    rcases he with he | he
    · exact absurd he hw
    · simpa [midK, endK] using he
  | x :: a, h, _ =>
    have h1 := h.path 0 (by simp)
    change some t0 = some x at h1
    injection h1 with h1
    rw [endK, if_pos (by rw [h1]; simp)]; exact fate_pos l t0
theorem Fol.kept (h : Fol l k t0 a s) {x : Int} (hx : k x ≠ 0) : endK l k a x = k x := by
  rw [endK, if_neg fun c => hx (h.unk x c)]
end
end Go.Proofs.Ytogplndhciaoeaa
