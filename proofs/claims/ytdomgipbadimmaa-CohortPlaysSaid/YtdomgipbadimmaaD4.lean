/- What CohortOrder keeps, plainly: Take and Give (layer 14). -/
import Derived.Test.YtdomgipbadimmaaD3
namespace Go.Proofs.Ytdomgipbadimmaa

section
variable {s t : Int} {L A C : List CRow} {r : CRow} {c : Coh} {E : List Ent}
/-- Where a row of that socket is cut or gone, the others' places behind it are as they were. -/
theorem bef_cut_own {soc : Int} (hr : r.1 = soc) (hs : s ≠ soc) : (bef s (A ++ (leftR r ++ C))).filter (fun x => x != soc) = (bef s (A ++ r :: C)).filter fun x => x != soc := by
  induction A with
  | nil =>
    have h1 : ¬ r.1 = s := fun e => hs (e.symm.trans hr)
    simp only [List.nil_append, bef, if_neg h1]
    rw [List.filter_cons, if_neg (by simp [hr])]
    unfold leftR
    split
    · rfl
    · simp only [List.cons_append, List.nil_append, bef, if_neg h1]
      rw [List.filter_cons, if_neg (by simp [hr])]
  | cons a A ih =>
    simp only [List.cons_append, bef]
    split
    · rfl
    · rw [List.filter_cons, List.filter_cons, ih]
/-- Another socket's row, the first of those, has it next: the others behind come one nearer. -/
theorem bef_leave {soc : Int} (hA : ∀ q ∈ A, q.1 = soc) (hr : r.1 ≠ soc) (h1 : s ≠ soc) (h2 : s ≠ r.1) :
    (((bef s (A ++ (leftR r ++ C))).filter fun x => x != soc).filter fun x => x != r.1).length + 1 ≤ ((bef s (A ++ r :: C)).filter fun x => x != soc).length := by
  induction A with
  | nil =>
    have h3 : ¬ r.1 = s := fun e => h2 e.symm
    simp only [List.nil_append, bef, if_neg h3]
    rw [List.filter_cons, if_pos (by simpa using hr), List.length_cons]
    unfold leftR
    split
    · exact Nat.add_le_add_right (List.length_filter_le _ _) 1
    · simp only [List.cons_append, List.nil_append, bef, if_neg h3]
      rw [List.filter_cons, if_pos (by simpa using hr), List.filter_cons, if_neg (by simp)]
      exact Nat.add_le_add_right (List.length_filter_le _ _) 1
  | cons a A ih =>
    have ha := hA a (by simp)
    have h3 : ¬ a.1 = s := fun e => h1 (e.symm.trans ha)
    simp only [List.cons_append, bef, if_neg h3]
    rw [List.filter_cons, if_neg (by simp [ha]), List.filter_cons, if_neg (by simp [ha])]
    exact ih fun q hq => hA q (by simp [hq])
theorem phi_pos (c : Coh) (s : Int) (p : Nat) : 1 ≤ phi c s p := by
  unfold phi; split <;> omega
/-- One step of the bound. -/
structure StepO (c c' : Coh) (z : Int) : Prop where
  other : ∀ s p, s ≠ z → rowT s c.rnd ≠ [] → phi c' s p ≤ phi c s p - 1
  same : ∀ p, phi c' z p ≤ phi c z (p + 1) - 1
/-- The told one's socket, and what the round says behind it. -/
theorem give_step (hok : CohOk c) (hs : 0 ≤ c.soc ∧ c.soc ≤ 5) (hr : ∀ r ∈ c.rnd, 0 ≤ r.1 ∧ r.1 ≤ 5) (hg : goesC c = true) :
    ∃ z xs, rowT z c.rnd = (giveC c).own :: xs ∧ rowT z (giveC c).rnd = xs ∧ (∀ s, s ≠ z → rowT s (giveC c).rnd = rowT s c.rnd) ∧ StepO c (giveC c) z ∧ (giveC c).soc = z ∧ (0 ≤ z ∧ z ≤ 5) ∧ (∀ r ∈ (giveC c).rnd, 0 ≤ r.1 ∧ r.1 ≤ 5) := by
  have hok' := give_ok hok
  unfold giveC at hok' ⊢
  by_cases h1 : 0 ≤ ownI c ∧ (c.pas < 3 ∨ othI c < 0)
  · rw [if_pos h1] at hok' ⊢
    rcases idxR_split (ofR c.soc) c.rnd 0 with ⟨e, _⟩ | ⟨A, r, C, hL, e, hrr, hA⟩
    · unfold ownI at h1; rw [e] at h1; omega
    · have hi : (ownI c).toNat = A.length := by unfold ownI; rw [e]; omega
      rw [hi] at hok' ⊢
      have hrs : r.1 = c.soc := by unfold ofR at hrr; simpa using hrr
      obtain ⟨pA, pC⟩ := nodup_parts (hL ▸ hok.soc)
      have hne : r.2 ≠ [] := hok.one r (by rw [hL]; simp)
      have how : (tellC { c with pas := c.pas + 1 } A.length).own = (r.2[0]?).getD 0 := by show headR c.rnd _ = _; rw [hL]; exact headR_at
      have hrn : (tellC { c with pas := c.pas + 1 } A.length).rnd = A ++ (leftR r ++ C) := by show cutR2 _ c.rnd = _; rw [hL]; exact cutR2_left
      have hcons : r.2 = (r.2[0]?).getD 0 :: r.2.tail := by
        cases q : r.2 with
        | nil => exact absurd q hne
        | cons x l => rfl
      refine ⟨c.soc, r.2.tail, ?_, ?_, ?_, ⟨?_, ?_⟩, rfl, hs, ?_⟩
      · rw [how, hL, ← hrs, rowT_at pA]; exact hcons
      · rw [hrn, ← hrs]; exact rowT_cut_eq pA pC
      · intro s hne'; rw [hrn, hL]; exact rowT_cut_ne (by rw [hrs]; exact hne')
      · intro s p hne' hrow
        obtain ⟨y, hy, hys⟩ := rowT_in hrow
        have hp3 : c.pas < 3 := by
          rcases h1.2 with q | q
          · exact q
          · exfalso
            rcases idxR_split (notR c.soc) c.rnd 0 with ⟨_, hno⟩ | ⟨A', r', C', _, e', _⟩
            · have := hno y hy
              unfold notR at this
              exact hne' (hys.symm.trans (by simpa using this))
            · unfold othI at q; rw [e'] at q; omega
        unfold phi
        have hd : dis (tellC { c with pas := c.pas + 1 } A.length).soc s (tellC { c with pas := c.pas + 1 } A.length).rnd = dis c.soc s c.rnd := by
          unfold dis; rw [hrn, hL]
          exact congrArg List.length (bef_cut_own hrs hne')
        rw [hd, if_neg (show ¬ s = (tellC { c with pas := c.pas + 1 } A.length).soc from hne'), if_neg hne']
        show _ + _ + 4 - min (c.pas + 1) 3 ≤ _
        omega
      · intro p
        unfold phi
        rw [if_pos (show c.soc = (tellC { c with pas := c.pas + 1 } A.length).soc from rfl), if_pos rfl]; omega
      · intro y hy
        rw [hrn] at hy
        simp only [List.mem_append] at hy
        rcases hy with hy | hy | hy
        · exact hr y (by rw [hL]; simp [hy])
        · unfold leftR at hy
          split at hy
          · cases hy
          · simp only [List.mem_singleton] at hy; subst hy; exact hr r (by rw [hL]; simp)
        · exact hr y (by rw [hL]; simp [hy])
  · rw [if_neg h1] at hok' ⊢
    by_cases h2 : 0 ≤ othI c
    · rw [if_pos h2] at hok' ⊢
      rcases idxR_split (notR c.soc) c.rnd 0 with ⟨e, _⟩ | ⟨A, r, C, hL, e, hrr, hA⟩
      · unfold othI at h2; rw [e] at h2; omega
      · have hi : (othI c).toNat = A.length := by unfold othI; rw [e]; omega
        rw [hi] at hok' ⊢
        have hrs : r.1 ≠ c.soc := by unfold notR at hrr; simpa using hrr
        have hAs : ∀ q ∈ A, q.1 = c.soc := fun q hq => by have := hA q hq; unfold notR at this; simpa using this
        obtain ⟨pA, pC⟩ := nodup_parts (hL ▸ hok.soc)
        have hne : r.2 ≠ [] := hok.one r (by rw [hL]; simp)
        have how : (leaveC c A.length).own = (r.2[0]?).getD 0 := by show headR c.rnd _ = _; rw [hL]; exact headR_at
        have hso : (leaveC c A.length).soc = r.1 := by show socR c.rnd _ = _; rw [hL]; exact socR_at
        have hrn : (leaveC c A.length).rnd = lastR c.soc (A ++ (leftR r ++ C)) := by show lastR c.soc (cutR2 _ c.rnd) = _; rw [hL, cutR2_left]
        have hnd : ((A ++ (leftR r ++ C)).map (·.1)).Nodup := by
          rw [← cutR2_left, ← hL]; exact (cutR2_sub _ _).nodup hok.soc
        have hrin : r ∈ c.rnd := by rw [hL]; simp
        have hcons : r.2 = (r.2[0]?).getD 0 :: r.2.tail := by
          cases q : r.2 with
          | nil => exact absurd q hne
          | cons x l => rfl
        have hrng : ∀ y ∈ (leaveC c A.length).rnd, 0 ≤ y.1 ∧ y.1 ≤ 5 := by
          intro y hy
          rw [hrn] at hy
          have hy := (lastR_perm _ _).mem_iff.1 hy
          simp only [List.mem_append] at hy
          rcases hy with hy | hy | hy
          · exact hr y (by rw [hL]; simp [hy])
          · unfold leftR at hy
            split at hy
            · cases hy
            · simp only [List.mem_singleton] at hy; subst hy; exact hr r hrin
          · exact hr y (by rw [hL]; simp [hy])
        have hrow : ∀ s, s ≠ r.1 → rowT s (leaveC c A.length).rnd = rowT s c.rnd := fun s hne' => by
          rw [hrn, rowT_last hnd, hL]; exact rowT_cut_ne hne'
        refine ⟨r.1, r.2.tail, ?_, ?_, hrow, ⟨?_, ?_⟩, hso, hr r hrin, hrng⟩
        · rw [how, hL, rowT_at pA]; exact hcons
        · rw [hrn, rowT_last hnd]; exact rowT_cut_eq pA pC
        · intro s p hne' hrw
          have hp0 := hok.pas
          by_cases hsc : s = c.soc
          · obtain ⟨y, hy, hys⟩ := rowT_in hrw
            have hd := dis_le (s := s) (soc := r.1) hok'.soc hrng (hr r hrin) (hys ▸ hr y hy) hne'
            unfold phi
            rw [if_neg (by rw [hso]; exact hne'), if_pos hsc, hso]
            show _ + 4 * ((dis r.1 s (leaveC c A.length).rnd : Nat) : Int) + 4 - min 0 3 ≤ _
            omega
          · have hin : ∃ y ∈ A ++ (leftR r ++ C), y.1 = s := by
              refine rowT_in ?_
              rw [rowT_cut_ne hne', ← hL]; exact hrw
            have hd : dis r.1 s (leaveC c A.length).rnd + 1 ≤ dis c.soc s c.rnd := by
              unfold dis
              rw [hrn, bef_last hnd hsc hin, hL]
              exact bef_leave hAs hrs hsc hne'
            unfold phi
            rw [if_neg (by rw [hso]; exact hne'), if_neg hsc, hso]
            show _ + 4 * ((dis r.1 s (leaveC c A.length).rnd : Nat) : Int) + 4 - min 0 3 ≤ _
            omega
        · intro p
          unfold phi
          rw [if_pos hso.symm, if_neg hrs]; omega
    · exfalso
      unfold goesC at hg
      simp only [Bool.or_eq_true, decide_eq_true_eq] at hg
      omega
/-- One hand-off less is left for each. -/
def decE (e : Ent) : Ent := ⟨e.tsk, e.soc, e.lft - 1⟩
theorem wof_dec (s : Int) (E : List Ent) : wof s (E.map decE) = wof s E := by
  induction E with
  | nil => rfl
  | cons e l ih => simp only [List.map_cons, wof, ih]; rfl
theorem cntE_dec (s : Int) (E : List Ent) : cntE s (E.map decE) = cntE s E := by
  induction E with
  | nil => rfl
  | cons e l ih => simp only [List.map_cons, cntE, ih]; rfl
theorem give_oinv (h : OInv c E) (hg : goesC c = true) : ∃ E1 e E2, E = E1 ++ e :: E2 ∧ e.tsk = (giveC c).own ∧ (∀ f ∈ E1, f.soc ≠ e.soc) ∧ (∀ f ∈ E, 1 ≤ f.lft) ∧ OInv (giveC c) ((E1 ++ E2).map decE) := by
  have hrr : ∀ r ∈ c.rnd, 0 ≤ r.1 ∧ r.1 ≤ 5 := fun r hr => by
    have h1 : rowT r.1 c.rnd ≠ [] := by
      obtain ⟨A, C, hL⟩ := List.append_of_mem hr
      obtain ⟨pA, _⟩ := nodup_parts (hL ▸ h.ok.soc)
      rw [hL, rowT_at pA]; exact h.ok.one r hr
    rw [h.rows] at h1
    by_cases q : ∃ e ∈ E, e.soc = r.1
    · obtain ⟨e, he, hs⟩ := q
      rw [← hs]; exact h.rng e he
    · exact absurd (wof_no fun f hf e => q ⟨f, hf, e⟩) h1
  obtain ⟨z, xs, q1, q2, q3, q4, q5, q6, q7⟩ := give_step h.ok h.soc hrr hg
  rw [h.rows] at q1
  obtain ⟨E1, e, E2, rfl, a1, a2, a3, a4, a5⟩ := wof_split q1
  refine ⟨E1, e, E2, rfl, a2, fun f hf => by rw [a1]; exact a3 f hf, fun f hf => ?_, give_ok h.ok, fun s => ?_, fun f hf => ?_, by rw [q5]; exact q6, fun X f Y hE => ?_⟩
  · obtain ⟨X, Y, hE⟩ := List.append_of_mem hf
    exact Int.le_trans (phi_pos _ _ _) (h.lft X f Y hE)
  · rw [wof_dec]
    by_cases e' : s = z
    · subst e'; rw [q2, a4]
    · rw [q3 s e', a5 s e', h.rows]
  · obtain ⟨y, hy, rfl⟩ := List.mem_map.1 hf
    exact h.rng y (by simp only [List.mem_append, List.mem_cons] at hy ⊢; rcases hy with hy | hy; exact .inl hy; exact .inr (.inr hy))
  · obtain ⟨X0, Y0', hE0, rfl, hY⟩ := List.map_eq_append_iff.1 hE
    obtain ⟨f0, Y0, rfl, rfl, rfl⟩ := List.map_eq_cons_iff.1 hY
    rw [cntE_dec]
    show phi (giveC c) f0.soc (cntE f0.soc X0) ≤ f0.lft - 1
    have hrow0 : f0.soc ≠ z → rowT f0.soc c.rnd ≠ [] := fun _ => by
      rw [h.rows]
      have hm : f0 ∈ E1 ++ e :: E2 := by
        have : f0 ∈ E1 ++ E2 := by rw [hE0]; simp
        simp only [List.mem_append, List.mem_cons] at this ⊢
        rcases this with q | q
        · exact .inl q
        · exact .inr (.inr q)
      exact List.ne_nil_of_mem (wof_in hm)
    rcases List.append_eq_append_iff.1 hE0 with ⟨M, hX, hE2⟩ | ⟨M, hE1, hM⟩
    · -- behind the told one
      have hl := h.lft (E1 ++ e :: M) f0 Y0 (by rw [hE2]; simp)
      rw [cntE_app] at hl
      rw [hX, cntE_app]
      by_cases e' : f0.soc = z
      · have h1 : cntE f0.soc (e :: M) = cntE f0.soc M + 1 := by
          show (if e.soc = f0.soc then cntE f0.soc M + 1 else _) = _
          rw [if_pos (a1.trans e'.symm)]
        rw [h1] at hl
        have := q4.same (cntE f0.soc E1 + cntE f0.soc M)
        rw [← e'] at this
        rw [← Nat.add_assoc] at hl
        omega
      · have h1 : cntE f0.soc (e :: M) = cntE f0.soc M := by
          show (if e.soc = f0.soc then _ else _) = _
          rw [if_neg (fun q => e' (q.symm.trans a1))]
        rw [h1] at hl
        have := q4.other f0.soc (cntE f0.soc E1 + cntE f0.soc M) e' (hrow0 e')
        omega
    · -- ahead of it
      cases M with
      | nil =>
        simp only [List.nil_append] at hM
        rw [List.append_nil] at hE1
        have hl := h.lft (E1 ++ [e]) f0 Y0 (by rw [← hM]; simp)
        rw [cntE_app] at hl
        rw [← hE1]
        by_cases e' : f0.soc = z
        · have h1 : cntE f0.soc [e] = 1 := by unfold cntE; rw [if_pos (a1.trans e'.symm)]; rfl
          rw [h1] at hl
          have := q4.same (cntE f0.soc E1)
          rw [← e'] at this
          omega
        · have h1 : cntE f0.soc [e] = 0 := by
            show (if e.soc = f0.soc then _ else _) = _
            rw [if_neg (fun q => e' (q.symm.trans a1))]; rfl
          rw [h1] at hl
          have := q4.other f0.soc (cntE f0.soc E1) e' (hrow0 e')
          rw [Nat.add_zero] at hl
          omega
      | cons m M =>
        simp only [List.cons_append, List.cons.injEq] at hM
        obtain ⟨rfl, hM⟩ := hM
        have e' : f0.soc ≠ z := a3 f0 (by rw [hE1]; simp)
        have hl := h.lft X0 f0 (M ++ e :: E2) (by rw [hE1]; simp)
        have := q4.other f0.soc (cntE f0.soc X0) e' (hrow0 e')
        omega
end
end Go.Proofs.Ytdomgipbadimmaa
