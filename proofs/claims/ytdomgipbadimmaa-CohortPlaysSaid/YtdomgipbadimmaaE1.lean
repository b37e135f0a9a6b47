/- The document's Give, plainly (layer 14). -/
import Derived.Test.YtdomgipbadimmaaE0
import Derived.Test.YtdomgipbadimmaaC8
namespace Go.Proofs.Ytdomgipbadimmaa

section
variable {s t z : Int} {L A C : List CRow} {r : CRow} {c : Coh} {E : List Ent}
/-- The round behind one of a socket told. -/
def toldR (z : Int) (c : Coh) (E : List Ent) : List Int := if (wof z E).length ≤ 1 then (rndL c).filter (fun x => x != z) else rndL c
theorem idxR_pos (p : CRow → Bool) (L : List CRow) : decide (0 ≤ idxR p L 0) = L.any p := by
  rcases idxR_split p L 0 with ⟨e, hn⟩ | ⟨A, r, C, hL, e, hp, _⟩
  · rw [e]; symm
    rw [show decide ((0 : Int) ≤ -1) = false by decide]
    rw [List.any_eq_false]
    exact fun x hx => by rw [hn x hx]; simp
  · rw [e, show decide ((0 : Int) ≤ 0 + (A.length : Int)) = true by simp]; symm
    rw [List.any_eq_true]; exact ⟨r, by rw [hL]; simp, hp⟩
theorem own_has (c : Coh) : decide (0 ≤ ownI c) = (rndL c).any fun x => x == c.soc := by
  unfold ownI rndL; rw [idxR_pos, List.any_map]; rfl
/-- The first row of another socket. -/
theorem oth_at (h : CohOk c) (ho : 0 ≤ othI c) : ∃ A r C, c.rnd = A ++ r :: C ∧ (othI c).toNat = A.length ∧ r.1 ≠ c.soc ∧ ((A = [] ∧ True) ∨ ∃ q, A = [q] ∧ q.1 = c.soc) := by
  rcases idxR_split (notR c.soc) c.rnd 0 with ⟨e, _⟩ | ⟨A, r, C, hL, e, hp, hA⟩
  · unfold othI at ho; rw [e] at ho; omega
  · refine ⟨A, r, C, hL, by unfold othI; rw [e]; omega, by unfold notR at hp; simpa using hp, ?_⟩
    have hs : ∀ q ∈ A, q.1 = c.soc := fun q hq => by have := hA q hq; unfold notR at this; simpa using this
    match A, hs, hL with
    | [], _, _ => exact .inl ⟨rfl, trivial⟩
    | [q], hs, _ => exact .inr ⟨q, rfl, hs q (by simp)⟩
    | q :: q' :: A, hs, hL =>
      exfalso
      have hd := h.soc
      rw [hL] at hd
      simp only [List.cons_append, List.map_cons, List.nodup_cons, List.mem_cons, not_or] at hd
      exact hd.1.1 ((hs q (by simp)).trans (hs q' (by simp)).symm)
theorem oth_none (h : CohOk c) (ho : 0 ≤ ownI c) : othI c < 0 ↔ (rndL c).length = 1 := by
  unfold rndL; rw [List.length_map]
  rcases idxR_split (ofR c.soc) c.rnd 0 with ⟨e, _⟩ | ⟨A, r, C, hL, e, hp, hA⟩
  · unfold ownI at ho; rw [e] at ho; omega
  · have hr : r.1 = c.soc := by unfold ofR at hp; simpa using hp
    constructor
    · intro hn
      rcases idxR_split (notR c.soc) c.rnd 0 with ⟨_, hno⟩ | ⟨A', r', C', _, e', _⟩
      · have hall : ∀ q ∈ c.rnd, q.1 = c.soc := fun q hq => by have := hno q hq; unfold notR at this; simpa using this
        have hd := h.soc
        cases hc : c.rnd with
        | nil => rw [hc] at hL; simp at hL
        | cons q l =>
          cases l with
          | nil => rfl
          | cons q' l =>
            rw [hc] at hd hall
            simp only [List.map_cons, List.nodup_cons, List.mem_cons, not_or] at hd
            exact absurd ((hall q (by simp)).trans (hall q' (by simp)).symm) hd.1.1
      · unfold othI at hn; rw [e'] at hn; omega
    · intro hl
      rcases idxR_split (notR c.soc) c.rnd 0 with ⟨e', _⟩ | ⟨A', r', C', hL', e', hp', _⟩
      · unfold othI; rw [e']; omega
      · exfalso
        match hc : c.rnd, hl with
        | [q], _ =>
          rw [hc] at hL hL'
          have h1 : r = q := by
            have : r ∈ [q] := by rw [hL]; simp
            simpa using this
          have h2 : r' = q := by
            have : r' ∈ [q] := by rw [hL']; simp
            simpa using this
          unfold notR at hp'
          rw [h2, ← h1, hr] at hp'
          simp at hp'
/-- One of a row told. -/
theorem RelC.told (h : RelC c E) (hL : c.rnd = A ++ r :: C) : ∃ x xs, r.2 = x :: xs ∧ wof r.1 E = x :: xs ∧ (cutR2 A.length c.rnd).map (·.1) = toldR r.1 c E ∧ ((cutR2 A.length c.rnd).map (·.1)).Nodup ∧ ∀ s, rowT s (cutR2 A.length c.rnd) = wof s (dropW r.1 E) := by
  obtain ⟨pA, pC⟩ := nodup_parts (hL ▸ h.ok.soc)
  have hw : wof r.1 E = r.2 := by rw [← h.rows, hL, rowT_at pA]
  have hne := h.ok.one r (by rw [hL]; simp)
  have hnd : ((cutR2 A.length c.rnd).map (·.1)).Nodup := (cutR2_sub _ _).nodup h.ok.soc
  cases q : r.2 with
  | nil => exact absurd q hne
  | cons x xs =>
    refine ⟨x, xs, rfl, hw.trans q, ?_, hnd, fun s => ?_⟩
    · rw [hL, cutR2_left, heads_cut (by have := h.ok.soc; rw [hL] at this; simpa using this)]
      unfold toldR rndL
      rw [hw, hL]
    · rw [hL, cutR2_left, wof_drop]
      by_cases hs : s = r.1
      · rw [if_pos hs, hs, rowT_cut_eq pA pC, hw]
      · rw [if_neg hs, rowT_cut_ne hs, ← hL, h.rows]
/-- Behind Give, where somebody of the same socket has it next. -/
theorem RelC.stay (h : RelC c E) (h1 : 0 ≤ ownI c) (h2 : c.pas < 3 ∨ othI c < 0) : ∃ x xs, wof c.soc E = x :: xs ∧ RelC (giveC c) (dropW c.soc E) ∧ (giveC c).own = x ∧ (giveC c).soc = c.soc ∧ (giveC c).pas = c.pas + 1 ∧ rndL (giveC c) = toldR c.soc c E := by
  have hok := give_ok h.ok
  unfold giveC at hok ⊢
  rw [if_pos ⟨h1, h2⟩] at hok ⊢
  rcases idxR_split (ofR c.soc) c.rnd 0 with ⟨e, _⟩ | ⟨A, r, C, hL, e, hrr, hA⟩
  · unfold ownI at h1; rw [e] at h1; omega
  · have hi : (ownI c).toNat = A.length := by unfold ownI; rw [e]; omega
    rw [hi] at hok ⊢
    have hrs : r.1 = c.soc := by unfold ofR at hrr; simpa using hrr
    obtain ⟨x, xs, q1, q2, q3, _, q5⟩ := h.told hL
    rw [hrs] at q2 q3 q5
    refine ⟨x, xs, q2, ⟨hok, q5⟩, ?_, rfl, rfl, q3⟩
    show headR c.rnd A.length = x
    rw [hL, headR_at, q1]; rfl
/-- Behind Give, where it goes to another socket. -/
theorem RelC.leave (h : RelC c E) (h1 : ¬ (0 ≤ ownI c ∧ (c.pas < 3 ∨ othI c < 0))) (h2 : 0 ≤ othI c) : ∃ zt x xs, zt ≠ c.soc ∧ ((rndL c)[0]? = some zt ∨ (rndL c)[0]? = some c.soc ∧ (rndL c)[1]? = some zt) ∧ wof zt E = x :: xs ∧ RelC (giveC c) (dropW zt E) ∧ (giveC c).own = x ∧ (giveC c).soc = zt ∧ (giveC c).pas = 0 ∧
    rndL (giveC c) = if decide (0 ≤ ownI c) = true then (toldR zt c E).filter (fun x => x != c.soc) ++ [c.soc] else toldR zt c E := by
  have hok := give_ok h.ok
  unfold giveC at hok ⊢
  rw [if_neg h1, if_pos h2] at hok ⊢
  obtain ⟨A, r, C, hL, hi, hrs, hA⟩ := oth_at h.ok h2
  rw [hi] at hok ⊢
  obtain ⟨x, xs, q1, q2, q3, q4, q5⟩ := h.told hL
  have hany : (cutR2 A.length c.rnd).any (fun r => r.1 == c.soc) = decide (0 ≤ ownI c) := by
    rw [own_has]
    have e1 : (cutR2 A.length c.rnd).any (fun r => r.1 == c.soc) = ((cutR2 A.length c.rnd).map (·.1)).any (fun x => x == c.soc) := by rw [List.any_map]; rfl
    rw [e1, q3]
    unfold toldR
    split
    · rw [Bool.eq_iff_iff, List.any_eq_true, List.any_eq_true]
      constructor
      · rintro ⟨y, hy, e⟩; exact ⟨y, (List.mem_filter.1 hy).1, e⟩
      · rintro ⟨y, hy, e⟩
        refine ⟨y, List.mem_filter.2 ⟨hy, ?_⟩, e⟩
        have : y = c.soc := by simpa using e
        rw [this]; simpa using fun q => hrs q.symm
    · rfl
  refine ⟨r.1, x, xs, hrs, ?_, q2, ⟨hok, fun s => ?_⟩, ?_, ?_, rfl, ?_⟩
  · rcases hA with ⟨rfl, _⟩ | ⟨q, rfl, hq⟩
    · left; unfold rndL; rw [hL]; rfl
    · right; unfold rndL; rw [hL]; simp [hq]
  · show rowT s (lastR c.soc (cutR2 A.length c.rnd)) = _
    rw [rowT_last q4, q5]
  · show headR c.rnd A.length = x
    rw [hL, headR_at, q1]; rfl
  · show socR c.rnd A.length = r.1
    rw [hL, socR_at]
  · show (lastR c.soc (cutR2 A.length c.rnd)).map (·.1) = _
    rw [heads_last q4, hany, q3]
/-- Nobody has it next. -/
theorem RelC.none (h : RelC c E) : goesC c = !(E.length == 0) := by
  cases hE : E with
  | nil =>
    subst hE
    unfold goesC ownI othI
    rw [h.nil]; rfl
  | cons e l =>
    rw [show (!((e :: l).length == 0)) = true by simp]
    obtain ⟨r, hr, _⟩ := h.row (e := e) (by rw [hE]; simp)
    unfold goesC
    rw [Bool.or_eq_true]
    by_cases q : r.1 = c.soc
    · left; unfold ownI; rw [idxR_pos, List.any_eq_true]; exact ⟨r, hr, by unfold ofR; simpa using q⟩
    · right; unfold othI; rw [idxR_pos, List.any_eq_true]; exact ⟨r, hr, by unfold notR; simpa using q⟩
/-- What Waiting tells, by the document. -/
theorem rowT_heads (L : List CRow) : ∀ M : List CRow, (L.map (·.1)).Nodup → (∀ r ∈ M, ∃ A C, L = A ++ r :: C) → (M.map (·.1)).flatMap (fun s => rowT s L) = allR M
  | [], _, _ => rfl
  | r :: M, hd, hm => by
    obtain ⟨A, C, hL⟩ := hm r (by simp)
    obtain ⟨pA, _⟩ := nodup_parts (hL ▸ hd)
    rw [List.map_cons, List.flatMap_cons, rowT_heads L M hd fun q hq => hm q (by simp [hq]), hL, rowT_at pA]
    rfl
theorem RelC.all (h : RelC c E) : (rndL c).flatMap (fun s => wof s E) = allR c.rnd := by
  have : (fun s => wof s E) = fun s => rowT s c.rnd := by funext s; rw [h.rows]
  rw [this]
  exact rowT_heads _ _ h.ok.soc fun r hr => List.append_of_mem hr
end
end Go.Proofs.Ytdomgipbadimmaa
