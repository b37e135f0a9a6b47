/- The document's lock, plainly: out of the code's one and of those who wait, in the order in which they began (layer 14). -/
import Derived.Test.YtdomgipbadimmaaD5
namespace Go.Proofs.Ytdomgipbadimmaa

/-- Who waits, and where: the code's rows and the document's row say the same. -/
structure RelC (c : Coh) (E : List Ent) : Prop where
  ok : CohOk c
  rows : ∀ s, rowT s c.rnd = wof s E
def rndL (c : Coh) : List Int := c.rnd.map (·.1)
def ownD (c : Coh) : Int := if c.own = -1 then 0 else c.own
def heldD (c : Coh) : Bool := !(c.own == -1)
section
variable {s t z : Int} {L A C : List CRow} {r : CRow} {c : Coh} {E : List Ent}
theorem relC_z : RelC zCoh [] := ⟨zCoh_ok, fun _ => rfl⟩
theorem RelC.row (h : RelC c E) {e : Ent} (he : e ∈ E) : ∃ r ∈ c.rnd, r.1 = e.soc ∧ e.tsk ∈ r.2 := by
  have h1 := wof_in he
  rw [← h.rows] at h1
  obtain ⟨r, hr, hs⟩ := rowT_in (List.ne_nil_of_mem h1)
  refine ⟨r, hr, hs, ?_⟩
  obtain ⟨A, C, hL⟩ := List.append_of_mem hr
  obtain ⟨pA, _⟩ := nodup_parts (hL ▸ h.ok.soc)
  rw [← hs, hL, rowT_at pA] at h1
  exact h1
theorem wof_mem {x : Int} (h : x ∈ wof s E) : ∃ e ∈ E, e.tsk = x ∧ e.soc = s := by
  induction E with
  | nil => cases h
  | cons e l ih =>
    unfold wof at h
    split at h
    · rcases List.mem_cons.1 h with rfl | h
      · exact ⟨e, by simp, rfl, by assumption⟩
      · obtain ⟨y, a, b⟩ := ih h; exact ⟨y, by simp [a], b⟩
    · obtain ⟨y, a, b⟩ := ih h; exact ⟨y, by simp [a], b⟩
theorem RelC.ent (h : RelC c E) (hr : r ∈ c.rnd) {x : Int} (hx : x ∈ r.2) : ∃ e ∈ E, e.tsk = x ∧ e.soc = r.1 := by
  obtain ⟨A, C, hL⟩ := List.append_of_mem hr
  obtain ⟨pA, _⟩ := nodup_parts (hL ▸ h.ok.soc)
  refine wof_mem ?_
  rw [← h.rows, hL, rowT_at pA]; exact hx
/-- Nobody waits, where there is no row. -/
theorem RelC.nil (h : RelC c []) : c.rnd = [] := by
  cases hc : c.rnd with
  | nil => rfl
  | cons r l =>
    have hr : r ∈ c.rnd := by rw [hc]; simp
    have hn := h.ok.one r hr
    cases hq : r.2 with
    | nil => exact absurd hq hn
    | cons x xs => obtain ⟨e, he, _⟩ := h.ent hr (x := x) (by rw [hq]; simp); cases he
theorem RelC.empty (h : RelC c E) (hc : c.rnd = []) : E = [] := by
  cases E with
  | nil => rfl
  | cons e l => obtain ⟨r, hr, _⟩ := h.row (e := e) (by simp); rw [hc] at hr; cases hr
/-- Does a task wait? -/
theorem RelC.waits (h : RelC c E) (t : Int) : waitsC c t = E.any fun e => e.tsk == t := by
  rw [Bool.eq_iff_iff]
  unfold waitsC
  rw [List.any_eq_true, List.any_eq_true]
  constructor
  · rintro ⟨r, hr, hw⟩
    unfold withR at hw
    obtain ⟨e, he, a, _⟩ := h.ent hr (x := t) (by simpa using hw)
    exact ⟨e, he, by simpa using a⟩
  · rintro ⟨e, he, hw⟩
    have ht : e.tsk = t := by simpa using hw
    obtain ⟨r, hr, _, hm⟩ := h.row he
    refine ⟨r, hr, ?_⟩
    unfold withR
    rw [ht] at hm; simpa using hm
theorem addR_heads (s t : Int) (L : List CRow) : (addR s t L).map (·.1) = if L.any (fun r => r.1 == s) then L.map (·.1) else L.map (·.1) ++ [s] := by
  induction L with
  | nil => rfl
  | cons r l ih =>
    unfold addR
    by_cases e : r.1 = s
    · rw [if_pos e]; simp [e]
    · rw [if_neg e]
      simp only [List.map_cons, ih, List.any_cons]
      rw [show (r.1 == s) = false by simpa using e, Bool.false_or]
      split <;> rfl
/-- What Take leaves of those who wait. -/
def takeW (c : Coh) (E : List Ent) (t s : Int) : List Ent := if (takeE c t s).2 = 0 ∧ c.own ≠ -1 then E ++ [⟨t, s, 0⟩] else E
theorem RelC.take (h : RelC c E) (t s : Int) : RelC (takeT c t s) (takeW c E t s) := by
  unfold takeT takeW
  by_cases he : (takeE c t s).2 = 0
  · rw [if_pos he]
    have ht : 0 ≤ t := by
      unfold takeE at he
      by_cases q : t < 0 ∨ s < 0
      · rw [if_pos q] at he; simp at he
      · omega
    have hk := take_ok h.ok ht (s := s)
    by_cases q : c.own = -1
    · rw [if_neg (by simp [q])]
      refine ⟨hk, fun z => ?_⟩
      unfold takeC; rw [if_pos q]; exact h.rows z
    · rw [if_pos ⟨he, q⟩]
      refine ⟨hk, fun z => ?_⟩
      unfold takeC; rw [if_neg q]
      show rowT z (addR s t c.rnd) = _
      rw [rowT_add, wof_app, h.rows]
      simp only [wof]
      split <;> simp
  · rw [if_neg he, if_neg (fun q => he q.1)]
    exact h
/-- Those who wait, but for the first of a socket. -/
def dropW (s : Int) : List Ent → List Ent
  | [] => []
  | e :: l => if e.soc = s then l else e :: dropW s l
theorem dropW_no (h : ∀ e ∈ E, e.soc ≠ s) : dropW s E = E := by
  induction E with
  | nil => rfl
  | cons e l ih => unfold dropW; rw [if_neg (h e (by simp)), ih fun f hf => h f (by simp [hf])]
theorem wof_drop (s z : Int) (E : List Ent) : wof z (dropW s E) = if z = s then (wof s E).tail else wof z E := by
  induction E with
  | nil => simp [dropW, wof]
  | cons e l ih =>
    unfold dropW
    by_cases q : e.soc = s
    · rw [if_pos q]
      by_cases hz : z = s
      · rw [if_pos hz, hz]; simp [wof, q]
      · rw [if_neg hz]; simp only [wof]; rw [if_neg (fun x => hz (x.symm.trans q))]
    · rw [if_neg q]
      simp only [wof]
      rw [ih]
      by_cases hz : z = s
      · subst hz; rw [if_pos rfl, if_pos rfl, if_neg q, if_neg q]
      · rw [if_neg hz, if_neg hz]
/-- The heads of the round, one told. -/
theorem heads_cut (hd : (A.map (·.1) ++ r.1 :: C.map (·.1)).Nodup) : (A ++ (leftR r ++ C)).map (·.1) = if r.2.length ≤ 1 then ((A ++ r :: C).map (·.1)).filter (fun x => x != r.1) else (A ++ r :: C).map (·.1) := by
  unfold leftR
  split
  · rw [List.nodup_append] at hd
    obtain ⟨_, h2, h3⟩ := hd
    rw [List.nodup_cons] at h2
    simp only [List.nil_append, List.map_append, List.map_cons]
    rw [List.filter_append, List.filter_cons, if_neg (by simp)]
    congr 1
    · symm; rw [List.filter_eq_self]; intro x hx; simp only [bne_iff_ne, ne_eq]; exact fun e => h3 x hx r.1 (by simp) e
    · symm; rw [List.filter_eq_self]; intro x hx; simp only [bne_iff_ne, ne_eq]; rintro rfl; exact h2.1 hx
  · simp
theorem heads_last (h : (L.map (·.1)).Nodup) (s : Int) : (lastR s L).map (·.1) = if L.any (fun r => r.1 == s) then (L.map (·.1)).filter (fun x => x != s) ++ [s] else L.map (·.1) := by
  induction L with
  | nil => rfl
  | cons q l ih =>
    rw [List.map_cons, List.nodup_cons] at h
    unfold lastR
    by_cases e : q.1 = s
    · rw [if_pos e, if_pos (by simp [e])]
      simp only [List.map_append, List.map_cons, List.map_nil]
      rw [List.filter_cons, if_neg (by simp [e]), e]
      congr 1
      symm; rw [List.filter_eq_self]; intro x hx; simp only [bne_iff_ne, ne_eq]; rintro rfl; exact h.1 (by rw [e]; exact hx)
    · rw [if_neg e, List.map_cons, ih h.2, List.any_cons, show (q.1 == s) = false by simpa using e, Bool.false_or]
      split
      · rw [List.map_cons, List.filter_cons, if_pos (by simpa using e)]; rfl
      · rfl
end
end Go.Proofs.Ytdomgipbadimmaa
