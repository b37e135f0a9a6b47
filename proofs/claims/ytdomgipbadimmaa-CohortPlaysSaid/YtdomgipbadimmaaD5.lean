/- What CohortOrder keeps, plainly: Take; nobody waits twice (layer 14). -/
import Derived.Test.YtdomgipbadimmaaD4
namespace Go.Proofs.Ytdomgipbadimmaa

section
variable {s t : Int} {L : List CRow} {c : Coh} {E : List Ent}
theorem OInv.rrng (h : OInv c E) : ∀ r ∈ c.rnd, 0 ≤ r.1 ∧ r.1 ≤ 5 := fun r hr => by
  have h1 : rowT r.1 c.rnd ≠ [] := by
    obtain ⟨A, C, hL⟩ := List.append_of_mem hr
    obtain ⟨pA, _⟩ := nodup_parts (hL ▸ h.ok.soc)
    rw [hL, rowT_at pA]; exact h.ok.one r hr
  rw [h.rows] at h1
  by_cases q : ∃ e ∈ E, e.soc = r.1
  · obtain ⟨e, he, hs⟩ := q
    rw [← hs]; exact h.rng e he
  · exact absurd (wof_no fun f hf e => q ⟨f, hf, e⟩) h1
theorem OInv.row (h : OInv c E) {e : Ent} (he : e ∈ E) : ∃ r ∈ c.rnd, r.1 = e.soc ∧ e.tsk ∈ r.2 := by
  have h1 := wof_in he
  rw [← h.rows] at h1
  obtain ⟨r, hr, hs⟩ := rowT_in (List.ne_nil_of_mem h1)
  refine ⟨r, hr, hs, ?_⟩
  obtain ⟨A, C, hL⟩ := List.append_of_mem hr
  obtain ⟨pA, _⟩ := nodup_parts (hL ▸ h.ok.soc)
  rw [← hs, hL, rowT_at pA] at h1
  exact h1
theorem rowT_add (z : Int) : rowT z (addR s t L) = if s = z then rowT z L ++ [t] else rowT z L := by
  induction L with
  | nil => simp [addR, rowT]
  | cons r l ih =>
    unfold addR
    by_cases e : r.1 = s
    · rw [if_pos e]
      simp only [rowT]
      by_cases q : r.1 = z
      · rw [if_pos q, if_pos q, if_pos (e.symm.trans q)]
      · rw [if_neg q, if_neg q, if_neg (fun x => q (e.trans x))]
    · rw [if_neg e]
      simp only [rowT]
      by_cases q : r.1 = z
      · rw [if_pos q, if_pos q, if_neg (fun x => e (q.trans x.symm))]
      · rw [if_neg q, if_neg q, ih]
theorem bef_add {z : Int} (h : ∃ r ∈ L, r.1 = z) : bef z (addR s t L) = bef z L := by
  induction L with
  | nil => obtain ⟨r, h, _⟩ := h; cases h
  | cons r l ih =>
    unfold addR
    by_cases e : r.1 = s
    · rw [if_pos e]; simp only [bef]
    · rw [if_neg e]
      simp only [bef]
      split
      · rfl
      · rename_i q
        rw [ih ?_]
        obtain ⟨y, hy, e'⟩ := h
        rcases List.mem_cons.1 hy with rfl | hy
        · exact absurd e' q
        · exact ⟨y, hy, e'⟩
theorem oinv_z : OInv zCoh [] := ⟨zCoh_ok, fun _ => rfl, fun e h => (by cases h), by simp [zCoh], fun X f Y h => by simp at h⟩
theorem take_oinv_free (h : OInv c E) (q : c.own = -1) (ht : 0 ≤ t) (hs : 0 ≤ s ∧ s ≤ 5) : OInv (takeC c t s) E ∧ E = [] := by
  have hz := h.ok.non q
  have hE : E = [] := by
    cases E with
    | nil => rfl
    | cons e l =>
      obtain ⟨r, hr, _⟩ := h.row (e := e) (by simp)
      rw [hz] at hr; simp [zCoh] at hr
  subst hE
  have hk := take_ok h.ok ht (s := s)
  refine ⟨⟨hk, fun z => ?_, fun e h => (by cases h), ?_, fun X f Y h => by simp at h⟩, rfl⟩
  · unfold takeC; rw [if_pos q, hz]; rfl
  · unfold takeC; rw [if_pos q]; exact hs
theorem take_oinv_wait (h : OInv c E) (q : c.own ≠ -1) (ht : 0 ≤ t) (hs : 0 ≤ s ∧ s ≤ 5) : OInv (takeC c t s) (E ++ [⟨t, s, ((cntE s E : Int) + 1) * 6 * 4⟩]) := by
  have hk := take_ok h.ok ht (s := s)
  have hc : takeC c t s = { c with rnd := addR s t c.rnd } := by unfold takeC; rw [if_neg q]
  rw [hc] at hk ⊢
  have hrr := h.rrng
  have hrr' : ∀ r ∈ addR s t c.rnd, 0 ≤ r.1 ∧ r.1 ≤ 5 := fun r hr => by
    rcases addR_mem hr with a | a | ⟨y, a, rfl⟩
    · exact hrr r a
    · rw [a]; exact hs
    · exact hrr y a
  refine ⟨hk, fun z => ?_, fun e he => ?_, h.soc, fun X f Y hE => ?_⟩
  · rw [wof_app]
    show rowT z (addR s t c.rnd) = _
    rw [rowT_add, h.rows]
    simp only [wof]
    split
    · rfl
    · simp
  · simp only [List.mem_append, List.mem_singleton] at he
    rcases he with he | rfl
    · exact h.rng e he
    · exact hs
  · rcases List.append_eq_append_iff.1 hE with ⟨M, hX, hY⟩ | ⟨M, hX, hY⟩
    · cases M with
      | nil =>
        simp only [List.nil_append, List.cons.injEq] at hY
        obtain ⟨rfl, _⟩ := hY
        rw [List.append_nil] at hX
        subst hX
        show phi _ s (cntE s X) ≤ ((cntE s X : Int) + 1) * 6 * 4
        unfold phi
        by_cases e : s = c.soc
        · rw [if_pos e]; omega
        · rw [if_neg e]
          have hd := dis_le (s := s) (soc := c.soc) hk.soc hrr' h.soc hs e
          have hp := h.ok.pas
          show 24 * (cntE s X : Int) + 4 * ((dis c.soc s (addR s t c.rnd) : Nat) : Int) + 4 - min c.pas 3 ≤ _
          have hd' : ((dis c.soc s (addR s t c.rnd) : Nat) : Int) ≤ 4 := by exact_mod_cast hd
          omega
      | cons m M =>
        simp only [List.cons_append, List.cons.injEq] at hY
        obtain ⟨_, hY⟩ := hY
        simp at hY
    · cases M with
      | nil =>
        simp only [List.nil_append, List.cons.injEq] at hY
        obtain ⟨rfl, _⟩ := hY
        rw [List.append_nil] at hX
        subst hX
        show phi _ s (cntE s E) ≤ ((cntE s E : Int) + 1) * 6 * 4
        unfold phi
        by_cases e : s = c.soc
        · rw [if_pos e]; omega
        · rw [if_neg e]
          have hd := dis_le (s := s) (soc := c.soc) hk.soc hrr' h.soc hs e
          have hp := h.ok.pas
          show 24 * (cntE s E : Int) + 4 * ((dis c.soc s (addR s t c.rnd) : Nat) : Int) + 4 - min c.pas 3 ≤ _
          have hd' : ((dis c.soc s (addR s t c.rnd) : Nat) : Int) ≤ 4 := by exact_mod_cast hd
          omega
      | cons m M =>
        simp only [List.cons_append, List.cons.injEq] at hY
        obtain ⟨rfl, hY⟩ := hY
        have hl := h.lft X f M hX
        refine Int.le_trans (Int.le_of_eq ?_) hl
        obtain ⟨r, hr, hrs, _⟩ := h.row (e := f) (by rw [hX]; simp)
        unfold phi dis
        show (if f.soc = c.soc then _ else 24 * (cntE f.soc X : Int) + 4 * ((((bef f.soc (addR s t c.rnd)).filter fun x => x != c.soc).length : Nat) : Int) + 4 - min c.pas 3) = _
        rw [bef_add ⟨r, hr, hrs⟩]
/-- Nobody waits twice. -/
theorem take_new (h : OInv c E) (hw : waitsC c t = false) : ∀ e ∈ E, e.tsk ≠ t := fun e he q => by
  obtain ⟨r, hr, _, hm⟩ := h.row he
  unfold waitsC at hw
  rw [List.any_eq_false] at hw
  exact hw r hr (by unfold withR; rw [q] at hm; simpa using hm)
end
end Go.Proofs.Ytdomgipbadimmaa
