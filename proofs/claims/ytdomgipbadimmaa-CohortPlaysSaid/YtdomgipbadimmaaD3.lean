/- What CohortOrder keeps, plainly: the rows are those who wait, each socket's in their order; a bound for each (layer 14). -/
import Derived.Test.YtdomgipbadimmaaCq
namespace Go.Proofs.Ytdomgipbadimmaa

/-- One who waits: the task, its socket, how many hand-offs are left for it. -/
structure Ent where
  tsk : Int
  soc : Int
  lft : Int
def rowT (s : Int) : List CRow → List Int
  | [] => []
  | r :: l => if r.1 = s then r.2 else rowT s l
def bef (s : Int) : List CRow → List Int
  | [] => []
  | r :: l => if r.1 = s then [] else r.1 :: bef s l
def wof (s : Int) : List Ent → List Int
  | [] => []
  | e :: l => if e.soc = s then e.tsk :: wof s l else wof s l
def cntE (s : Int) : List Ent → Nat
  | [] => 0
  | e :: l => if e.soc = s then cntE s l + 1 else cntE s l
def dis (soc s : Int) (L : List CRow) : Nat := ((bef s L).filter fun x => x != soc).length
def phi (c : Coh) (s : Int) (p : Nat) : Int := if s = c.soc then 24 * (p : Int) + 21 else 24 * (p : Int) + 4 * (dis c.soc s c.rnd : Int) + 4 - min c.pas 3
structure OInv (c : Coh) (E : List Ent) : Prop where
  ok : CohOk c
  rows : ∀ s, rowT s c.rnd = wof s E
  rng : ∀ e ∈ E, 0 ≤ e.soc ∧ e.soc ≤ 5
  soc : 0 ≤ c.soc ∧ c.soc ≤ 5
  lft : ∀ X f Y, E = X ++ f :: Y → phi c f.soc (cntE f.soc X) ≤ f.lft
section
variable {s t : Int} {L A C : List CRow} {r : CRow} {c : Coh} {E : List Ent}
theorem wof_app (s : Int) (X Y : List Ent) : wof s (X ++ Y) = wof s X ++ wof s Y := by
  induction X with
  | nil => rfl
  | cons e l ih => simp only [List.cons_append, wof]; split <;> simp [ih]
theorem cntE_app (s : Int) (X Y : List Ent) : cntE s (X ++ Y) = cntE s X + cntE s Y := by
  induction X with
  | nil => simp [cntE]
  | cons e l ih => simp only [List.cons_append, cntE]; split <;> omega
theorem cntE_no {X : List Ent} (h : ∀ f ∈ X, f.soc ≠ s) : cntE s X = 0 := by
  induction X with
  | nil => rfl
  | cons e l ih => unfold cntE; rw [if_neg (h e (by simp))]; exact ih fun f hf => h f (by simp [hf])
theorem wof_no {X : List Ent} (h : ∀ f ∈ X, f.soc ≠ s) : wof s X = [] := by
  induction X with
  | nil => rfl
  | cons e l ih => unfold wof; rw [if_neg (h e (by simp))]; exact ih fun f hf => h f (by simp [hf])
theorem wof_in {e : Ent} (h : e ∈ E) : e.tsk ∈ wof e.soc E := by
  induction E with
  | nil => cases h
  | cons x l ih =>
    unfold wof
    rcases List.mem_cons.1 h with rfl | h
    · simp
    · have := ih h
      split
      · simp [this]
      · exact this
/-- The first one of a socket. -/
theorem wof_split {x : Int} {xs : List Int} (h : wof s E = x :: xs) : ∃ E1 e E2, E = E1 ++ e :: E2 ∧ e.soc = s ∧ e.tsk = x ∧ (∀ f ∈ E1, f.soc ≠ s) ∧ wof s (E1 ++ E2) = xs ∧ ∀ z, z ≠ s → wof z (E1 ++ E2) = wof z E := by
  induction E with
  | nil => simp [wof] at h
  | cons e l ih =>
    unfold wof at h
    by_cases q : e.soc = s
    · rw [if_pos q] at h
      simp only [List.cons.injEq] at h
      refine ⟨[], e, l, rfl, q, h.1, fun f hf => (by cases hf), h.2, fun z hz => ?_⟩
      have : ¬ e.soc = z := fun e' => hz (e'.symm.trans q)
      simp only [List.nil_append, wof]; rw [if_neg this]
    · rw [if_neg q] at h
      obtain ⟨E1, y, E2, rfl, a, b, d, k, m⟩ := ih h
      refine ⟨e :: E1, y, E2, rfl, a, b, fun f hf => ?_, ?_, fun z hz => ?_⟩
      · rcases List.mem_cons.1 hf with rfl | hf
        · exact q
        · exact d f hf
      · simp only [List.cons_append, wof]; rw [if_neg q]; exact k
      · simp only [List.cons_append, wof]
        rw [m z hz]
theorem rowT_no (h : ∀ r ∈ L, r.1 ≠ s) : rowT s L = [] := by
  induction L with
  | nil => rfl
  | cons r l ih => unfold rowT; rw [if_neg (h r (by simp))]; exact ih fun f hf => h f (by simp [hf])
theorem rowT_app_in (h : ∃ r ∈ L, r.1 = s) (M : List CRow) : rowT s (L ++ M) = rowT s L := by
  induction L with
  | nil => obtain ⟨r, h, _⟩ := h; cases h
  | cons q l ih =>
    simp only [List.cons_append, rowT]
    split
    · rfl
    · rename_i hq
      refine ih ?_
      obtain ⟨r, h, e⟩ := h
      rcases List.mem_cons.1 h with rfl | h
      · exact absurd e hq
      · exact ⟨r, h, e⟩
theorem rowT_app_no (h : ∀ r ∈ L, r.1 ≠ s) (M : List CRow) : rowT s (L ++ M) = rowT s M := by
  induction L with
  | nil => rfl
  | cons q l ih => simp only [List.cons_append, rowT]; rw [if_neg (h q (by simp))]; exact ih fun f hf => h f (by simp [hf])
theorem bef_app_in (h : ∃ r ∈ L, r.1 = s) (M : List CRow) : bef s (L ++ M) = bef s L := by
  induction L with
  | nil => obtain ⟨r, h, _⟩ := h; cases h
  | cons q l ih =>
    simp only [List.cons_append, bef]
    split
    · rfl
    · rename_i hq
      rw [ih ?_]
      obtain ⟨r, h, e⟩ := h
      rcases List.mem_cons.1 h with rfl | h
      · exact absurd e hq
      · exact ⟨r, h, e⟩
theorem bef_sub (s : Int) (L : List CRow) : (bef s L).Sublist (L.map (·.1)) := by
  induction L with
  | nil => exact List.Sublist.refl _
  | cons q l ih =>
    simp only [bef, List.map_cons]
    split
    · exact List.nil_sublist _
    · exact ih.cons_cons _
theorem bef_not (s : Int) (L : List CRow) : s ∉ bef s L := by
  induction L with
  | nil => simp [bef]
  | cons q l ih =>
    unfold bef
    split
    · simp
    · rename_i hq
      simp only [List.mem_cons, not_or]
      exact ⟨fun e => hq e.symm, ih⟩
theorem rowT_in (h : rowT s L ≠ []) : ∃ r ∈ L, r.1 = s := by
  induction L with
  | nil => exact absurd rfl h
  | cons q l ih =>
    unfold rowT at h
    by_cases e : q.1 = s
    · exact ⟨q, by simp, e⟩
    · rw [if_neg e] at h
      obtain ⟨r, a, b⟩ := ih h
      exact ⟨r, by simp [a], b⟩
/-- What is left of a row of which the first is told. -/
def leftR (r : CRow) : List CRow := if r.2.length ≤ 1 then [] else [(r.1, r.2.tail)]
theorem cutR2_left {A C : List CRow} {r : CRow} : cutR2 A.length (A ++ r :: C) = A ++ (leftR r ++ C) := by
  rw [cutR2_at]; unfold leftR; split <;> rfl
theorem rowT_cut_ne (hs : s ≠ r.1) : rowT s (A ++ (leftR r ++ C)) = rowT s (A ++ r :: C) := by
  induction A with
  | nil =>
    simp only [List.nil_append, rowT]
    rw [if_neg (fun e => hs e.symm)]
    unfold leftR
    split
    · rfl
    · simp only [List.cons_append, List.nil_append, rowT]; rw [if_neg (fun e => hs e.symm)]
  | cons a A ih => simp only [List.cons_append, rowT]; rw [ih]
theorem rowT_cut_eq (hA : ∀ q ∈ A, q.1 ≠ r.1) (hC : ∀ q ∈ C, q.1 ≠ r.1) : rowT r.1 (A ++ (leftR r ++ C)) = r.2.tail := by
  rw [rowT_app_no hA]
  unfold leftR
  split
  · rename_i h
    rw [List.nil_append, rowT_no hC]
    match r, h with
    | (_, []), _ => rfl
    | (_, [_]), _ => rfl
    | (_, _ :: _ :: _), h => simp at h
  · simp only [List.cons_append, List.nil_append, rowT, if_true]
theorem rowT_at (hA : ∀ q ∈ A, q.1 ≠ r.1) : rowT r.1 (A ++ r :: C) = r.2 := by
  rw [rowT_app_no hA]; simp [rowT]
theorem nodup_parts (h : ((A ++ r :: C).map (·.1)).Nodup) : (∀ q ∈ A, q.1 ≠ r.1) ∧ ∀ q ∈ C, q.1 ≠ r.1 := by
  rw [List.map_append, List.map_cons, List.nodup_append] at h
  obtain ⟨_, h2, h3⟩ := h
  rw [List.nodup_cons] at h2
  exact ⟨fun q hq e => h3 _ (List.mem_map.2 ⟨q, hq, rfl⟩) _ (by simp) e, fun q hq e => h2.1 (e ▸ List.mem_map.2 ⟨q, hq, rfl⟩)⟩
theorem rowT_last (h : (L.map (·.1)).Nodup) (z : Int) : rowT s (lastR z L) = rowT s L := by
  induction L with
  | nil => rfl
  | cons q l ih =>
    rw [List.map_cons, List.nodup_cons] at h
    unfold lastR
    split
    · rename_i hq
      by_cases e : q.1 = s
      · rw [rowT_app_no (fun y hy e' => h.1 (by rw [e, ← e']; exact List.mem_map.2 ⟨y, hy, rfl⟩))]
        simp [rowT, e]
      · simp only [rowT, if_neg e]
        by_cases hin : ∃ y ∈ l, y.1 = s
        · exact rowT_app_in hin _
        · have hno : ∀ y ∈ l, y.1 ≠ s := fun y hy e' => hin ⟨y, hy, e'⟩
          rw [rowT_app_no hno, rowT_no hno]; simp [rowT, e]
    · simp only [rowT]; rw [ih h.2]
theorem bef_last {z : Int} (h : (L.map (·.1)).Nodup) (hs : s ≠ z) (hin : ∃ y ∈ L, y.1 = s) : bef s (lastR z L) = (bef s L).filter fun x => x != z := by
  induction L with
  | nil => rfl
  | cons q l ih =>
    rw [List.map_cons, List.nodup_cons] at h
    unfold lastR
    split
    · rename_i hq
      have e : ¬ q.1 = s := fun e => hs (e.symm.trans hq)
      have hin' : ∃ y ∈ l, y.1 = s := by
        obtain ⟨y, hy, e'⟩ := hin
        rcases List.mem_cons.1 hy with rfl | hy
        · exact absurd e' e
        · exact ⟨y, hy, e'⟩
      rw [bef_app_in hin']
      simp only [bef, if_neg e]
      rw [List.filter_cons, if_neg (by simp [hq])]
      symm
      rw [List.filter_eq_self]
      intro x hx
      have : x ∈ l.map (·.1) := (bef_sub s l).subset hx
      simp only [bne_iff_ne, ne_eq]
      rintro rfl
      exact h.1 (by rw [hq]; exact this)
    · rename_i hq
      simp only [bef]
      split
      · rfl
      · rename_i e
        rw [List.filter_cons, if_pos (by simpa using hq), ih h.2 ?_]
        obtain ⟨y, hy, e'⟩ := hin
        rcases List.mem_cons.1 hy with rfl | hy
        · exact absurd e' e
        · exact ⟨y, hy, e'⟩
theorem pigeon : ∀ (l M : List Int), l.Nodup → (∀ x ∈ l, x ∈ M) → l.length ≤ M.length
  | [], _, _, _ => Nat.zero_le _
  | x :: l, M, h, hm => by
    rw [List.nodup_cons] at h
    have hx := hm x (by simp)
    have := pigeon l (M.erase x) h.2 fun y hy => (List.mem_erase_of_ne (fun e : y = x => h.1 (by rw [← e]; exact hy))).2 (hm y (by simp [hy]))
    rw [List.length_erase_of_mem hx] at this
    have hp := List.length_pos_of_mem hx
    simp only [List.length_cons]; omega
theorem dis_le {soc : Int} (h : (L.map (·.1)).Nodup) (hr : ∀ r ∈ L, 0 ≤ r.1 ∧ r.1 ≤ 5) (h1 : 0 ≤ soc ∧ soc ≤ 5) (h2 : 0 ≤ s ∧ s ≤ 5) (hne : s ≠ soc) : dis soc s L ≤ 4 := by
  have hsub : ∀ x ∈ (bef s L).filter (fun x => x != soc), x ∈ bef s L ∧ x ≠ soc := fun x hx => by
    rw [List.mem_filter] at hx; exact ⟨hx.1, by simpa using hx.2⟩
  have hin : ∀ x, 0 ≤ x ∧ x ≤ 5 → x ∈ ([0, 1, 2, 3, 4, 5] : List Int) := fun x hx => by simp; omega
  have := pigeon (s :: soc :: (bef s L).filter (fun x => x != soc)) [0, 1, 2, 3, 4, 5] ?_ ?_
  · unfold dis; simp only [List.length_cons, List.length_nil] at this; omega
  · rw [List.nodup_cons, List.nodup_cons]
    refine ⟨?_, ?_, ((bef_sub s L).nodup h).filter _⟩
    · simp only [List.mem_cons, not_or]
      exact ⟨hne, fun q => bef_not s L (hsub s q).1⟩
    · exact fun q => (hsub soc q).2 rfl
  · intro x hx
    simp only [List.mem_cons] at hx
    rcases hx with rfl | rfl | hx
    · exact hin _ h2
    · exact hin _ h1
    · obtain ⟨r, hrm, rfl⟩ := List.mem_map.1 ((bef_sub s L).subset (hsub x hx).1)
      exact hin _ (hr r hrm)
end
end Go.Proofs.Ytdomgipbadimmaa
