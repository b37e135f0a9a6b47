/- A lock stays one that may be, whatever is done (layer 14): plain. -/
import Derived.Test.YtdomgipbadimmaaCm
namespace Go.Proofs.Ytdomgipbadimmaa

theorem zCoh_ok : CohOk zCoh := ⟨by simp [zCoh], fun r h => by simp [zCoh] at h, fun r h => by simp [zCoh] at h, by simp [zCoh], fun _ => rfl, by simp [zCoh]⟩
theorem addR_map (s t : Int) (L : List CRow) : (addR s t L).map (·.1) = if s ∈ L.map (·.1) then L.map (·.1) else L.map (·.1) ++ [s] := by
  induction L with
  | nil => simp [addR]
  | cons r l ih =>
    unfold addR
    by_cases h : r.1 = s
    · rw [if_pos h]; simp [h]
    · rw [if_neg h, List.map_cons, ih]
      have h' : ¬ s = r.1 := fun e => h e.symm
      by_cases q : s ∈ l.map (·.1)
      · rw [if_pos q, if_pos (by simp only [List.map_cons, List.mem_cons]; exact .inr q)]; rfl
      · rw [if_neg q, if_neg (by simp only [List.map_cons, List.mem_cons]; rintro (e | e); exact h' e; exact q e)]; rfl
theorem addR_mem {s t : Int} {L : List CRow} {r : CRow} (h : r ∈ addR s t L) : r ∈ L ∨ r = (s, [t]) ∨ ∃ q ∈ L, r = (q.1, q.2 ++ [t]) := by
  induction L with
  | nil => simp [addR] at h; exact .inr (.inl h)
  | cons q l ih =>
    unfold addR at h
    by_cases e : q.1 = s
    · rw [if_pos e] at h
      rcases List.mem_cons.1 h with h | h
      · exact .inr (.inr ⟨q, by simp, h⟩)
      · exact .inl (by simp [h])
    · rw [if_neg e] at h
      rcases List.mem_cons.1 h with h | h
      · exact .inl (by simp [h])
      · rcases ih h with a | a | ⟨x, a, b⟩
        · exact .inl (by simp [a])
        · exact .inr (.inl a)
        · exact .inr (.inr ⟨x, by simp [a], b⟩)
theorem addR_len (s t : Int) (L : List CRow) : (addR s t L).length ≤ L.length + 1 := by
  induction L with
  | nil => simp [addR]
  | cons r l ih => unfold addR; split <;> simp; omega
theorem cutR2_sub (i : Nat) (L : List CRow) : ((cutR2 i L).map (·.1)).Sublist (L.map (·.1)) := by
  induction L generalizing i with
  | nil => cases i <;> simp [cutR2]
  | cons r l ih =>
    cases i with
    | zero =>
      unfold cutR2
      split
      · exact List.sublist_cons_self _ _
      · simp
    | succ i => simp only [cutR2, List.map_cons]; exact (ih i).cons_cons _
theorem cutR2_mem {i : Nat} {L : List CRow} {r : CRow} (h : r ∈ cutR2 i L) : r ∈ L ∨ ∃ q ∈ L, 1 < q.2.length ∧ r = (q.1, q.2.tail) := by
  induction L generalizing i with
  | nil => cases i <;> simp [cutR2] at h
  | cons q l ih =>
    cases i with
    | zero =>
      unfold cutR2 at h
      split at h
      · exact .inl (by simp [h])
      · rename_i hq
        rcases List.mem_cons.1 h with h | h
        · exact .inr ⟨q, by simp, by omega, h⟩
        · exact .inl (by simp [h])
    | succ i =>
      simp only [cutR2] at h
      rcases List.mem_cons.1 h with h | h
      · exact .inl (by simp [h])
      · rcases ih h with a | ⟨x, a, b⟩
        · exact .inl (by simp [a])
        · exact .inr ⟨x, by simp [a], b⟩
theorem cutR2_length (i : Nat) (L : List CRow) : (cutR2 i L).length ≤ L.length := by
  have := (cutR2_sub i L).length_le; simpa using this
theorem lastR_perm (s : Int) (L : List CRow) : (lastR s L).Perm L := by
  induction L with
  | nil => exact List.Perm.refl _
  | cons r l ih =>
    unfold lastR
    split
    · exact List.perm_append_comm (l₁ := l) (l₂ := [r])
    · exact ih.cons r
theorem headR_pos {c : Coh} (h : CohOk c) (i : Nat) : 0 ≤ headR c.rnd i := by
  unfold headR
  cases hr : c.rnd[i]? with
  | none => simp
  | some r =>
    simp only [Option.getD_some]
    cases hx : r.2[0]? with
    | none => simp
    | some x => simp only [Option.getD_some]; exact h.tsk r (List.mem_of_getElem? hr) x (List.mem_of_getElem? hx)
theorem cut_ok {L : List CRow} (hs : (L.map (·.1)).Nodup) (h1 : ∀ r ∈ L, r.2 ≠ []) (ht : ∀ r ∈ L, ∀ x ∈ r.2, 0 ≤ x) (i : Nat) : ((cutR2 i L).map (·.1)).Nodup ∧ (∀ r ∈ cutR2 i L, r.2 ≠ []) ∧ ∀ r ∈ cutR2 i L, ∀ x ∈ r.2, 0 ≤ x := by
  refine ⟨hs.sublist (cutR2_sub i L), fun r hr => ?_, fun r hr x hx => ?_⟩
  · rcases cutR2_mem hr with q | ⟨q, a, b, rfl⟩
    · exact h1 r q
    · intro e
      have := congrArg List.length e
      simp at this; omega
  · rcases cutR2_mem hr with q | ⟨q, a, b, rfl⟩
    · exact ht r q x hx
    · exact ht q a x (List.mem_of_mem_tail hx)
theorem tell_ok {c : Coh} (h : CohOk c) (i : Nat) : CohOk (tellC c i) := by
  obtain ⟨a, b, d⟩ := cut_ok h.soc h.one h.tsk i
  have := headR_pos h i
  exact ⟨a, b, d, by show -1 ≤ headR c.rnd i; omega, fun e => by have e' : headR c.rnd i = -1 := e; omega, h.pas⟩
theorem leave_ok {c : Coh} (h : CohOk c) (j : Nat) : CohOk (leaveC c j) := by
  obtain ⟨a, b, d⟩ := cut_ok h.soc h.one h.tsk j
  have hp := lastR_perm c.soc (cutR2 j c.rnd)
  have := headR_pos h j
  refine ⟨((hp.map (·.1)).nodup_iff).2 a, fun r hr => b r (hp.mem_iff.1 hr), fun r hr => d r (hp.mem_iff.1 hr), by show -1 ≤ headR c.rnd j; omega, fun e => by have e' : headR c.rnd j = -1 := e; omega, by show (0 : Int) ≤ 0; omega⟩
theorem pas_ok {c : Coh} (h : CohOk c) (hn : c.rnd ≠ []) : CohOk { c with pas := c.pas + 1 } :=
  ⟨h.soc, h.one, h.tsk, h.own, fun e => by have := h.non e; rw [this] at hn; exact absurd rfl hn, by have := h.pas; show 0 ≤ c.pas + 1; omega⟩
theorem give_ok {c : Coh} (h : CohOk c) : CohOk (giveC c) := by
  unfold giveC
  split
  · rename_i h1
    refine tell_ok (pas_ok h fun e => ?_) _
    unfold ownI at h1; rw [e] at h1; simp [idxR] at h1
  · split
    · exact leave_ok h _
    · exact zCoh_ok
theorem take_ok {c : Coh} (h : CohOk c) {t s : Int} (ht : 0 ≤ t) : CohOk (takeC c t s) := by
  unfold takeC
  by_cases e : c.own = -1
  · rw [if_pos e]
    have hz := h.non e
    refine ⟨h.soc, h.one, h.tsk, by show -1 ≤ t; omega, fun q => ?_, h.pas⟩
    have : t = -1 := q
    omega
  · rw [if_neg e]
    refine ⟨?_, fun r hr => ?_, fun r hr x hx => ?_, h.own, fun q => absurd q e, h.pas⟩
    · show ((addR s t c.rnd).map (·.1)).Nodup
      rw [addR_map]
      split
      · exact h.soc
      · rename_i hn
        rw [List.nodup_append]
        refine ⟨h.soc, by simp, fun a ha b hb => ?_⟩
        simp at hb
        subst hb
        exact fun q => hn (q ▸ ha)
    · rcases addR_mem hr with q | rfl | ⟨q, a, rfl⟩
      · exact h.one r q
      · simp
      · simp
    · rcases addR_mem hr with q | rfl | ⟨q, a, rfl⟩
      · exact h.tsk r q x hx
      · simp at hx; omega
      · simp only [List.mem_append, List.mem_singleton] at hx
        rcases hx with hx | hx
        · exact h.tsk q a x hx
        · omega
theorem takeT_ok {c : Coh} (h : CohOk c) (t s : Int) : CohOk (takeT c t s) := by
  unfold takeT
  split
  · rename_i hE
    by_cases ht : t < 0 ∨ s < 0
    · unfold takeE at hE; rw [if_pos ht] at hE; cases hE
    · exact take_ok h (by omega)
  · exact h
/-- How much there is, behind a call. -/
theorem take_b {c : Coh} {m : Nat} (h : CohB c m) (t s : Int) : CohB (takeT c t s) (m + 1) := by
  unfold takeT
  split
  · unfold takeC
    split
    · exact ⟨by have := h.pas; show c.pas ≤ _; omega, by have := h.rnd; show c.rnd.length ≤ _; omega, fun r hr => by have := h.row r hr; omega⟩
    · refine ⟨by have := h.pas; show c.pas ≤ _; omega, by have := h.rnd; have := addR_len s t c.rnd; show (addR s t c.rnd).length ≤ _; omega, fun r hr => ?_⟩
      rcases addR_mem hr with q | rfl | ⟨q, a, rfl⟩
      · have := h.row r q; omega
      · simp
      · have := h.row q a; simp; omega
  · exact ⟨by have := h.pas; omega, by have := h.rnd; omega, fun r hr => by have := h.row r hr; omega⟩
theorem give_b {c : Coh} {m : Nat} (h : CohB c m) : CohB (giveC c) (m + 1) := by
  have cut : ∀ i, (cutR2 i c.rnd).length ≤ m + 1 ∧ ∀ r ∈ cutR2 i c.rnd, r.2.length ≤ m + 1 := fun i => by
    refine ⟨by have := cutR2_length i c.rnd; have := h.rnd; omega, fun r hr => ?_⟩
    rcases cutR2_mem hr with q | ⟨q, a, _, rfl⟩
    · have := h.row r q; omega
    · have := h.row q a; simp; omega
  unfold giveC
  split
  · exact ⟨by have := h.pas; show c.pas + 1 ≤ _; omega, (cut _).1, (cut _).2⟩
  · split
    · rename_i j _
      have hp := lastR_perm c.soc (cutR2 (othI c).toNat c.rnd)
      exact ⟨by show (0 : Int) ≤ _; omega, by show (lastR _ _).length ≤ _; rw [hp.length_eq]; exact (cut _).1, fun r hr => (cut _).2 r (hp.mem_iff.1 hr)⟩
    · exact ⟨by show (0 : Int) ≤ _; omega, by simp [zCoh], fun r hr => by simp [zCoh] at hr⟩
theorem zCoh_b : CohB zCoh 0 := ⟨by simp [zCoh], by simp [zCoh], fun r hr => by simp [zCoh] at hr⟩
end Go.Proofs.Ytdomgipbadimmaa
