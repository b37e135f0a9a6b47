/- layer 27 (stuck): who waits for whom, plain: chains, rounds, never ending. -/
namespace Go.Proofs.Ytogplndhciaoeaa
/-- for whom t waits. -/
def nxt (l : List (Int × Int)) (t : Int) : Option Int := (l.find? fun y => y.1 == t).map (·.2)
/-- k waits on from t. -/
def itr (l : List (Int × Int)) : Nat → Int → Option Int
  | 0, t => some t
  | k + 1, t => (nxt l t).bind (itr l k)
theorem nxt_mem {l : List (Int × Int)} {t u : Int} (h : nxt l t = some u) : t ∈ l.map (·.1) := by
  unfold nxt at h
  match hf : l.find? fun y => y.1 == t with
  | none => rw [hf] at h; cases h
  | some y =>
    have h1 := List.find?_some hf
    have h2 := List.mem_of_find?_eq_some hf
    simp only [beq_iff_eq] at h1
    exact List.mem_map.2 ⟨y, h2, h1⟩
theorem itr_add (l : List (Int × Int)) (a b : Nat) : ∀ t, itr l (a + b) t = (itr l a t).bind (itr l b) := by
  induction a with
  | zero => intro t; rw [Nat.zero_add]; rfl
  | succ a ih =>
    intro t
    rw [Nat.succ_add]
    show (nxt l t).bind (itr l (a + b)) = ((nxt l t).bind (itr l a)).bind (itr l b)
    cases nxt l t with
    | none => rfl
    | some u => exact ih u
theorem itr_one (l : List (Int × Int)) (t : Int) : itr l 1 t = nxt l t := by
  show (nxt l t).bind (itr l 0) = _
  cases nxt l t <;> rfl
theorem itr_none {l : List (Int × Int)} {a b : Nat} {t : Int} (h : itr l a t = none) (hab : a ≤ b) : itr l b t = none := by
  obtain ⟨c, rfl⟩ := Nat.exists_eq_add_of_le hab
  rw [itr_add, h]; rfl
/-- a row without twins, all of whose things are in another one, is no longer. -/
theorem len_sub {a : List Int} : ∀ {b : List Int}, a.Nodup → (∀ x ∈ a, x ∈ b) → a.length ≤ b.length := by
  induction a with
  | nil => intro b _ _; exact Nat.zero_le _
  | cons x a ih =>
    intro b hn hs
    have hx := hs x List.mem_cons_self
    obtain ⟨hxa, hna⟩ := List.nodup_cons.1 hn
    have h1 := ih (b := b.erase x) hna fun y hy => (List.mem_erase_of_ne fun e => hxa (by rw [← e]; exact hy)).2 (hs y (List.mem_cons_of_mem _ hy))
    have h2 := List.length_erase_of_mem hx
    have h3 := List.length_pos_of_mem hx
    rw [List.length_cons]; omega
/-- a chain that goes on so long comes to a task twice. -/
theorem pigeon {l : List (Int × Int)} {t : Int} (h : itr l (l.length + 1) t ≠ none) : ∃ i j, i < j ∧ j ≤ l.length ∧ itr l i t = itr l j t := by
  apply Classical.byContradiction
  intro hc
  have hne : ∀ i j, i < j → j ≤ l.length → itr l i t ≠ itr l j t := fun i j h1 h2 e => hc ⟨i, j, h1, h2, e⟩
  have hget : ∀ k, k ≤ l.length → ∃ u, itr l k t = some u ∧ u ∈ l.map (·.1) := fun k hk => by
    match hu : itr l k t with
    | none => exact absurd (itr_none hu (by omega)) h
    | some u =>
      refine ⟨u, rfl, ?_⟩
      match hv : nxt l u with
      | none =>
        have h1 : itr l (k + 1) t = none := by rw [itr_add, hu]; show itr l 1 u = none; rw [itr_one, hv]
        exact absurd (itr_none h1 (by omega)) h
      | some v => exact nxt_mem hv
  have hrow : ∀ k, k ≤ l.length + 1 → ∃ a : List Int, a.length = k ∧ (∀ x ∈ a, x ∈ l.map (·.1)) ∧ a.Nodup ∧ ∀ x ∈ a, ∃ i, i < k ∧ itr l i t = some x := by
    intro k
    induction k with
    | zero => intro _; exact ⟨[], rfl, (fun x hx => by cases hx), List.nodup_nil, (fun x hx => by cases hx)⟩
    | succ k ih =>
      intro hk
      obtain ⟨a, h1, h2, h3, h4⟩ := ih (by omega)
      obtain ⟨u, hu, hm⟩ := hget k (by omega)
      refine ⟨u :: a, by simp [h1], fun x hx => ?_, List.nodup_cons.2 ⟨fun hua => ?_, h3⟩, fun x hx => ?_⟩
      · rcases List.mem_cons.1 hx with rfl | hx
        · exact hm
        · exact h2 x hx
      · obtain ⟨i, hi, he⟩ := h4 u hua
        exact hne i k hi (by omega) (he.trans hu.symm)
      · rcases List.mem_cons.1 hx with rfl | hx
        · exact ⟨k, by omega, hu⟩
        · obtain ⟨i, hi, he⟩ := h4 x hx; exact ⟨i, by omega, he⟩
  obtain ⟨a, h1, h2, h3, -⟩ := hrow (l.length + 1) (Nat.le_refl _)
  have := len_sub h3 h2
  rw [List.length_map] at this
  omega
/-- its chain comes back to it. -/
def Rnd (l : List (Int × Int)) (t : Int) : Prop := ∃ i, 1 ≤ i ∧ itr l i t = some t
/-- its chain never ends. -/
def Endless (l : List (Int × Int)) (t : Int) : Prop := ∀ k, itr l k t ≠ none
/-- as the document looks: so many waits are looked at. -/
def Comes (l : List (Int × Int)) (a b : Int) : Prop := ∃ i, 1 ≤ i ∧ i ≤ l.length + 1 ∧ itr l i a = some b
theorem itr_mul {l : List (Int × Int)} {t : Int} {p : Nat} (h : itr l p t = some t) : ∀ k, itr l (p * k) t = some t := by
  intro k
  induction k with
  | zero => rfl
  | succ k ih => rw [Nat.mul_succ, itr_add, ih]; exact h
theorem Rnd.endless {l : List (Int × Int)} {t : Int} (h : Rnd l t) : Endless l t := by
  obtain ⟨p, hp, h⟩ := h
  intro k e
  have h1 := itr_mul h k
  have h2 : k ≤ p * k := by
    have := Nat.mul_le_mul_right k hp; omega
  rw [itr_none e h2] at h1; cases h1
theorem Endless.of {l : List (Int × Int)} {t u : Int} {k : Nat} (h : itr l k t = some u) (hu : Endless l u) : Endless l t := by
  intro m e
  have h1 : itr l (k + m) t = none := itr_none e (by omega)
  rw [itr_add, h] at h1
  exact hu m h1
theorem Endless.on {l : List (Int × Int)} {t u : Int} {k : Nat} (ht : Endless l t) (h : itr l k t = some u) : Endless l u := by
  intro m e
  exact ht (k + m) (by rw [itr_add, h]; exact e)
theorem rnd_near {l : List (Int × Int)} {t : Int} (h : Rnd l t) : ∃ i, 1 ≤ i ∧ i ≤ l.length ∧ itr l i t = some t := by
  obtain ⟨i, j, hij, hj, he⟩ := pigeon (h.endless (l.length + 1))
  obtain ⟨p, hp, hr⟩ := h
  have hm := itr_mul hr i
  have hle : i ≤ p * i := by
    have := Nat.mul_le_mul_right i hp; omega
  obtain ⟨m, hm'⟩ := Nat.exists_eq_add_of_le hle
  rw [hm'] at hm
  refine ⟨j - i, by omega, by omega, ?_⟩
  have h1 : itr l (j + m) t = some t := by rw [itr_add, ← he, ← itr_add]; exact hm
  have h2 : itr l (i + m + (j - i)) t = some t := by rw [show i + m + (j - i) = j + m by omega]; exact h1
  rw [itr_add, hm] at h2
  exact h2
theorem rnd_iff {l : List (Int × Int)} {t : Int} : Rnd l t ↔ Comes l t t :=
  ⟨fun h => by obtain ⟨i, h1, h2, h3⟩ := rnd_near h; exact ⟨i, h1, by omega, h3⟩, fun ⟨i, h1, _, h3⟩ => ⟨i, h1, h3⟩⟩
theorem rnd_waits {l : List (Int × Int)} {t : Int} (h : Rnd l t) : t ∈ l.map (·.1) := by
  match hv : nxt l t with
  | none => exact absurd (by rw [itr_one, hv]) (h.endless 1)
  | some v => exact nxt_mem hv
/-- what the document calls stuck is what never ends. -/
theorem endless_iff {l : List (Int × Int)} {t : Int} : Endless l t ↔ (Comes l t t ∨ ∃ r ∈ l.map (·.1), Comes l r r ∧ Comes l t r) := by
  constructor
  · intro h
    obtain ⟨i, j, hij, hj, he⟩ := pigeon (h (l.length + 1))
    match hr : itr l i t with
    | none => exact absurd hr (h i)
    | some r =>
      have hrr : Rnd l r := ⟨j - i, by omega, by
        have h1 : itr l (i + (j - i)) t = some r := by rw [show i + (j - i) = j by omega, ← he]; exact hr
        rw [itr_add, hr] at h1; exact h1⟩
      rcases Nat.eq_zero_or_pos i with rfl | hi
      · injection hr with hr
        subst hr
        exact .inl (rnd_iff.1 hrr)
      · exact .inr ⟨r, rnd_waits hrr, rnd_iff.1 hrr, i, hi, by omega, hr⟩
  · rintro (h | ⟨r, _, h1, i, _, _, h2⟩)
    · exact (rnd_iff.2 h).endless
    · exact Endless.of h2 (rnd_iff.2 h1).endless
end Go.Proofs.Ytogplndhciaoeaa
