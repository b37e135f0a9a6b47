/- Plain facts on rows of links that go round: a node is put behind all; a node goes. -/
import Derived.WalkKit
namespace Go.Proofs.Ytdlncbndhljhfaa

def updI (f : Nat → Int) (i : Nat) (x : Int) : Nat → Int := fun j => if j = i then x else f j
theorem updI_same (f : Nat → Int) (i : Nat) (x : Int) : updI f i x i = x := if_pos rfl
theorem updI_other (f : Nat → Int) {i j : Nat} (x : Int) (h : j ≠ i) : updI f i x j = f j := if_neg h
/-- Each one's link tells the next one, and the next one's tells it. -/
def Pth (Ah Be : Nat → Int) : List Nat → Prop
  | [] => True
  | [_] => True
  | u :: v :: t => (Be u = v ∧ Ah v = u) ∧ Pth Ah Be (v :: t)
theorem pth_append {Ah Be : Nat → Int} : ∀ {A B : List Nat}, Pth Ah Be (A ++ B) ↔ Pth Ah Be A ∧ Pth Ah Be B ∧ ∀ a b, A.getLast? = some a → B.head? = some b → Be a = b ∧ Ah b = a
  | [], B => by simp [Pth]
  | [u], [] => by simp [Pth]
  | [u], v :: t => by
    simp only [List.cons_append, List.nil_append, Pth, true_and, List.getLast?_singleton, Option.some.injEq, List.head?_cons]
    constructor
    · rintro ⟨h, k⟩; exact ⟨k, fun a b e f => by subst e; subst f; exact h⟩
    · rintro ⟨k, h⟩; exact ⟨h u v rfl rfl, k⟩
  | u :: v :: t, B => by
    have ih := pth_append (Ah := Ah) (Be := Be) (A := v :: t) (B := B)
    simp only [List.cons_append, Pth, List.getLast?_cons_cons] at ih ⊢
    rw [ih]; simp only [and_assoc]
theorem pth_congr {Ah Be Ah' Be' : Nat → Int} : ∀ {c : List Nat}, Pth Ah Be c → (∀ u ∈ c.dropLast, Be' u = Be u) → (∀ v ∈ c.tail, Ah' v = Ah v) → Pth Ah' Be' c
  | [], _, _, _ => trivial
  | [_], _, _, _ => trivial
  | u :: v :: t, ⟨⟨h1, h2⟩, h3⟩, hb, ha => by
    refine ⟨⟨?_, ?_⟩, pth_congr h3 (fun y hy => hb y ?_) (fun y hy => ha y ?_)⟩
    · rw [hb u (by simp)]; exact h1
    · rw [ha v (by simp)]; exact h2
    · simp only [List.dropLast_cons_cons]; exact List.mem_cons_of_mem _ hy
    · exact List.mem_cons_of_mem _ hy
theorem not_mem_dropLast {l : List Nat} {a : Nat} (hn : l.Nodup) (ha : l.getLast? = some a) : a ∉ l.dropLast := by
  have hl : l = l.dropLast ++ [a] := by
    rcases List.eq_nil_or_concat l with h | ⟨m, b, h⟩
    · subst h; simp at ha
    · subst h; simp at ha ⊢; exact ha
  intro h
  rw [hl] at hn
  have := (List.nodup_append.1 hn).2.2 a h a (by simp)
  exact this rfl
theorem not_mem_tail {l : List Nat} {a : Nat} (hn : l.Nodup) (ha : l.head? = some a) : a ∉ l.tail := by
  cases l with
  | nil => simp at ha
  | cons b t =>
    simp at ha; subst ha
    exact (List.nodup_cons.1 hn).1
/-- A row is gone round, from its own link. -/
def Row (Ah Be : Nat → Int) (o : Nat) (xs : List Nat) : Prop := Pth Ah Be (o :: xs ++ [o])
theorem getLast_cons_some (o : Nat) (xs : List Nat) : ∃ a, (o :: xs).getLast? = some a := by
  cases h : (o :: xs).getLast? with
  | none => simp at h
  | some a => exact ⟨a, rfl⟩
theorem head_snoc_some (o : Nat) (xs : List Nat) : ∃ a, (xs ++ [o]).head? = some a := by cases xs <;> simp
theorem Row.last {Ah Be : Nat → Int} {o : Nat} {xs : List Nat} (h : Row Ah Be o xs) {a : Nat} (ha : (o :: xs).getLast? = some a) : Ah o = a ∧ Be a = o := by
  have := (pth_append.1 h).2.2 a o ha rfl
  exact ⟨this.2, this.1⟩
theorem Row.push {Ah Be : Nat → Int} {o x a : Nat} {xs : List Nat} (h : Row Ah Be o xs) (hn : (o :: xs).Nodup) (hx : x ∉ o :: xs) (ha : (o :: xs).getLast? = some a) :
    Row (updI (updI Ah x a) o x) (updI (updI Be x o) a x) o (xs ++ [x]) := by
  have hxo : x ≠ o := fun e => hx (by simp [e])
  have hal : a ∈ o :: xs := List.mem_of_getLast? ha
  have hxa : x ≠ a := fun e => hx (by rw [e]; exact hal)
  obtain ⟨h1, _, _⟩ := pth_append.1 h
  have key : Pth (updI (updI Ah x a) o x) (updI (updI Be x o) a x) ((o :: xs) ++ [x, o]) := by
    refine pth_append.2 ⟨pth_congr h1 ?_ ?_, ?_, ?_⟩
    · intro u hu
      have hu' := List.dropLast_subset _ hu
      rw [updI_other _ _ (fun e => not_mem_dropLast hn ha (by rw [← e]; exact hu)), updI_other _ _ (fun e => hx (by rw [← e]; exact hu'))]
    · intro v hv
      have hv' : v ∈ xs := hv
      rw [updI_other _ _ (fun e => (List.nodup_cons.1 hn).1 (by rw [← e]; exact hv')), updI_other _ _ (fun e => hx (by rw [← e]; exact List.mem_cons_of_mem _ hv'))]
    · refine ⟨⟨?_, ?_⟩, trivial⟩
      · rw [updI_other _ _ hxa, updI_same]
      · rw [updI_same]
    · intro p q hp hq
      rw [ha] at hp; cases hp
      simp at hq; subst hq
      exact ⟨updI_same _ _ _, by rw [updI_other _ _ hxo, updI_same]⟩
  simpa [Row] using key
theorem Row.remove {Ah Be : Nat → Int} {o x a c : Nat} {ys ws : List Nat} (h : Row Ah Be o (ys ++ x :: ws)) (hn : (o :: (ys ++ x :: ws)).Nodup) (ha : (o :: ys).getLast? = some a) (hc : (ws ++ [o]).head? = some c) (v1 v2 : Int) :
    Ah x = a ∧ Be x = c ∧ Row (updI (updI Ah c a) x v1) (updI (updI Be a c) x v2) o (ys ++ ws) := by
  have h' : Pth Ah Be ((o :: ys) ++ ([x] ++ (ws ++ [o]))) := by simpa [Row] using h
  obtain ⟨h1, h2, h3⟩ := pth_append.1 h'
  obtain ⟨_, h4, h5⟩ := pth_append.1 h2
  have e1 := h3 a x ha rfl
  have e2 := h5 x c rfl hc
  have hn' : ((o :: ys) ++ (x :: ws)).Nodup := by simpa using hn
  obtain ⟨n1, n2, n3⟩ := List.nodup_append.1 hn'
  obtain ⟨n4, n5⟩ := List.nodup_cons.1 n2
  have hao : a ∈ o :: ys := List.mem_of_getLast? ha
  have hxy : x ∉ o :: ys := fun q => n3 x q x (by simp) rfl
  have how : o ∉ ws := fun q => n3 o (by simp) o (by simp [q]) rfl
  have hxo : x ≠ o := fun e => hxy (by simp [e])
  have hcm : c ∈ ws ++ [o] := List.mem_of_mem_head? (by rw [hc]; rfl)
  have hxw : x ∉ ws ++ [o] := by simp [n4, hxo]
  have hwo : (ws ++ [o]).Nodup := List.nodup_append.2 ⟨n5, by simp, fun p hp q hq => by simp at hq; subst hq; exact fun e => how (by rw [← e]; exact hp)⟩
  have hxa : x ≠ a := fun e => hxy (by rw [e]; exact hao)
  have hxc : x ≠ c := fun e => hxw (by rw [e]; exact hcm)
  refine ⟨e1.2, e2.1, ?_⟩
  have key : Pth (updI (updI Ah c a) x v1) (updI (updI Be a c) x v2) ((o :: ys) ++ (ws ++ [o])) := by
    refine pth_append.2 ⟨pth_congr h1 ?_ ?_, pth_congr h4 ?_ ?_, ?_⟩
    · intro u hu
      have hu' := List.dropLast_subset _ hu
      rw [updI_other _ _ (fun e => hxy (by rw [← e]; exact hu')), updI_other _ _ (fun e => not_mem_dropLast n1 ha (by rw [← e]; exact hu))]
    · intro v hv
      have hv' : v ∈ ys := hv
      rw [updI_other _ _ (fun e => hxy (by rw [← e]; exact List.mem_cons_of_mem _ hv')), updI_other _ _ (fun e => ?_)]
      subst e
      rcases List.mem_append.1 hcm with q | q
      · exact n3 v (List.mem_cons_of_mem _ hv') v (by simp [q]) rfl
      · simp at q; exact (List.nodup_cons.1 n1).1 (by rw [← q]; exact hv')
    · intro u hu
      have hu' : u ∈ ws := by simpa using hu
      rw [updI_other _ _ (fun e => n4 (by rw [← e]; exact hu')), updI_other _ _ (fun e => n3 a hao a (by rw [← e]; simp [hu']) rfl)]
    · intro v hv
      have hv' := List.mem_of_mem_tail hv
      rw [updI_other _ _ (fun e => hxw (by rw [← e]; exact hv')), updI_other _ _ (fun e => not_mem_tail hwo hc (by rw [← e]; exact hv))]
    · intro p q hp hq
      rw [ha] at hp; cases hp
      rw [hc] at hq; cases hq
      exact ⟨by rw [updI_other _ _ (Ne.symm hxa), updI_same], by rw [updI_other _ _ (Ne.symm hxc), updI_same]⟩
  simpa [Row] using key
theorem Row.congr {Ah Be Ah' Be' : Nat → Int} {o : Nat} {xs : List Nat} (h : Row Ah Be o xs) (hb : ∀ u ∈ o :: xs, Be' u = Be u) (ha : ∀ v ∈ o :: xs, Ah' v = Ah v) : Row Ah' Be' o xs := by
  refine pth_congr h (fun u hu => hb u ?_) (fun v hv => ha v ?_)
  · rw [show o :: xs ++ [o] = (o :: xs) ++ [o] from rfl, List.dropLast_concat] at hu; exact hu
  · have hv' : v ∈ xs ++ [o] := hv
    simp at hv' ⊢; exact hv'.symm
theorem Row.fst {Ah Be : Nat → Int} {o : Nat} {xs : List Nat} (h : Row Ah Be o xs) : Be o = (xs.head?.getD o : Nat) := by
  cases xs with
  | nil => exact h.1.1
  | cons x t => exact h.1.1
/-- The links tell these rows. -/
structure ChI (n m : Nat) (R Ah Be L : Nat → Int) (ls : Nat → List Nat) : Prop where
  row : ∀ k, k < m → Row Ah Be (n + k) (ls k)
  mem : ∀ k, k < m → ∀ x ∈ ls k, x < n ∧ R x = k
  free : ∀ x, x < n → (R x = -1 ∧ ∀ k, k < m → x ∉ ls k) ∨ ∃ k, k < m ∧ R x = k ∧ x ∈ ls k
  nodup : ∀ k, k < m → (ls k).Nodup
  lens : ∀ k, k < m → L k = (ls k).length
def updL (ls : Nat → List Nat) (k : Nat) (l : List Nat) : Nat → List Nat := fun j => if j = k then l else ls j
theorem updL_same (ls : Nat → List Nat) (k : Nat) (l : List Nat) : updL ls k l k = l := if_pos rfl
theorem updL_other (ls : Nat → List Nat) {k j : Nat} (l : List Nat) (h : j ≠ k) : updL ls k l j = ls j := if_neg h
section
variable {n m : Nat} {R Ah Be L : Nat → Int} {ls : Nat → List Nat}
theorem ChI.onodup (h : ChI n m R Ah Be L ls) {k : Nat} (hk : k < m) : ((n + k) :: ls k).Nodup :=
  List.nodup_cons.2 ⟨fun q => by have := (h.mem k hk _ q).1; omega, h.nodup k hk⟩
theorem ChI.push (h : ChI n m R Ah Be L ls) {k x a : Nat} (hk : k < m) (hx : x < n) (hR : R x = -1) (ha : ((n + k) :: ls k).getLast? = some a) :
    ChI n m (updI R x k) (updI (updI Ah x a) (n + k) x) (updI (updI Be x (n + k : Nat)) a x) (updI L k (L k + 1)) (updL ls k (ls k ++ [x])) := by
  have hfr : ∀ j, j < m → x ∉ ls j := fun j hj q => by have := (h.mem j hj x q).2; omega
  have hal : a ∈ (n + k) :: ls k := List.mem_of_getLast? ha
  have hax : x ∉ (n + k) :: ls k := by
    intro q
    rcases List.mem_cons.1 q with e | e
    · omega
    · exact hfr k hk e
  refine ⟨fun j hj => ?_, fun j hj y hy => ?_, fun y hy => ?_, fun j hj => ?_, fun j hj => ?_⟩
  · by_cases e : j = k
    · subst e; rw [updL_same]; exact (h.row j hj).push (h.onodup hk) hax ha
    · rw [updL_other _ _ e]
      have far : ∀ u ∈ (n + j) :: ls j, u ≠ x ∧ u ≠ a ∧ u ≠ n + k := by
        intro u hu
        rcases List.mem_cons.1 hu with q | q
        · subst q
          refine ⟨by omega, fun q => ?_, by omega⟩
          rcases List.mem_cons.1 hal with r | r
          · omega
          · have := (h.mem k hk a r).1; omega
        · refine ⟨fun q2 => hfr j hj (by rw [← q2]; exact q), fun q2 => ?_, by have := (h.mem j hj u q).1; omega⟩
          rcases List.mem_cons.1 hal with r | r
          · have := (h.mem j hj u q).1; omega
          · have h1 := (h.mem k hk a r).2; have h2 := (h.mem j hj u q).2; rw [q2] at h2; omega
      refine (h.row j hj).congr (fun u hu => ?_) (fun u hu => ?_)
      · obtain ⟨f1, f2, _⟩ := far u hu; rw [updI_other _ _ f2, updI_other _ _ f1]
      · obtain ⟨f1, _, f3⟩ := far u hu; rw [updI_other _ _ f3, updI_other _ _ f1]
  · by_cases e : j = k
    · subst e; rw [updL_same] at hy
      rcases List.mem_append.1 hy with q | q
      · refine ⟨(h.mem j hj y q).1, ?_⟩
        rw [updI_other _ _ (fun e => hfr j hj (by rw [← e]; exact q))]; exact (h.mem j hj y q).2
      · simp at q; subst q; exact ⟨hx, updI_same _ _ _⟩
    · rw [updL_other _ _ e] at hy
      refine ⟨(h.mem j hj y hy).1, ?_⟩
      rw [updI_other _ _ (fun e => hfr j hj (by rw [← e]; exact hy))]; exact (h.mem j hj y hy).2
  · by_cases e : y = x
    · subst e; exact .inr ⟨k, hk, updI_same _ _ _, by rw [updL_same]; simp⟩
    · rw [updI_other _ _ e]
      rcases h.free y hy with ⟨q1, q2⟩ | ⟨j, hj, q1, q2⟩
      · refine .inl ⟨q1, fun j hj q => ?_⟩
        by_cases e2 : j = k
        · subst e2; rw [updL_same] at q; rcases List.mem_append.1 q with r | r
          · exact q2 j hj r
          · simp at r; exact e r
        · rw [updL_other _ _ e2] at q; exact q2 j hj q
      · refine .inr ⟨j, hj, q1, ?_⟩
        by_cases e2 : j = k
        · subst e2; rw [updL_same]; exact List.mem_append_left _ q2
        · rw [updL_other _ _ e2]; exact q2
  · by_cases e : j = k
    · subst e; rw [updL_same]
      exact List.nodup_append.2 ⟨h.nodup j hj, by simp, fun p hp q hq => by simp at hq; subst hq; exact fun e => hfr j hj (by rw [← e]; exact hp)⟩
    · rw [updL_other _ _ e]; exact h.nodup j hj
  · by_cases e : j = k
    · subst e; rw [updL_same, updI_same, h.lens j hj]; simp
    · rw [updL_other _ _ e, updI_other _ _ e]; exact h.lens j hj
theorem ChI.remove (h : ChI n m R Ah Be L ls) {k x a c : Nat} {ys ws : List Nat} (hk : k < m) (hl : ls k = ys ++ x :: ws) (ha : ((n + k) :: ys).getLast? = some a) (hc : (ws ++ [n + k]).head? = some c) :
    Ah x = a ∧ Be x = c ∧ ChI n m (updI R x (-1)) (updI (updI Ah c a) x 0) (updI (updI Be a c) x 0) (updI L k (L k - 1)) (updL ls k (ys ++ ws)) := by
  have hxm : x ∈ ls k := by rw [hl]; simp
  have hx := (h.mem k hk x hxm)
  have hrow := h.row k hk
  rw [hl] at hrow
  have hn := h.onodup hk
  rw [hl] at hn
  obtain ⟨e1, e2, e3⟩ := hrow.remove hn ha hc 0 0
  have hal : a ∈ (n + k) :: ls k := by
    have := List.mem_of_getLast? ha
    rcases List.mem_cons.1 this with r | r
    · rw [r]; simp
    · rw [hl]; simp [r]
  have hcl : c ∈ (n + k) :: ls k := by
    have : c ∈ ws ++ [n + k] := List.mem_of_mem_head? (by rw [hc]; rfl)
    rcases List.mem_append.1 this with r | r
    · rw [hl]; simp [r]
    · simp at r; rw [r]; simp
  have hnd := h.nodup k hk
  rw [hl] at hnd
  have hxy : x ∉ ys ++ ws := by
    obtain ⟨n1, n2, n3⟩ := List.nodup_append.1 hnd
    intro q
    rcases List.mem_append.1 q with r | r
    · exact n3 x r x (by simp) rfl
    · exact (List.nodup_cons.1 n2).1 r
  refine ⟨e1, e2, fun j hj => ?_, fun j hj y hy => ?_, fun y hy => ?_, fun j hj => ?_, fun j hj => ?_⟩
  · by_cases e : j = k
    · subst e; rw [updL_same]; exact e3
    · rw [updL_other _ _ e]
      have other : ∀ p, p ∈ (n + k) :: ls k → ∀ u ∈ (n + j) :: ls j, u ≠ p := by
        intro p hp u hu q
        rcases List.mem_cons.1 hp with r | r <;> rcases List.mem_cons.1 hu with t | t
        · omega
        · have := (h.mem j hj u t).1; omega
        · have := (h.mem k hk p r).1; omega
        · have h1 := (h.mem k hk p r).2; have h2 := (h.mem j hj u t).2; rw [q] at h2; omega
      refine (h.row j hj).congr (fun u hu => ?_) (fun u hu => ?_)
      · rw [updI_other _ _ (other x (by simp [hxm]) u hu), updI_other _ _ (other a hal u hu)]
      · rw [updI_other _ _ (other x (by simp [hxm]) u hu), updI_other _ _ (other c hcl u hu)]
  · by_cases e : j = k
    · subst e; rw [updL_same] at hy
      have hyl : y ∈ ls j := by rw [hl]; rcases List.mem_append.1 hy with r | r <;> simp [r]
      refine ⟨(h.mem j hj y hyl).1, ?_⟩
      rw [updI_other _ _ (fun e => hxy (by rw [← e]; exact hy))]; exact (h.mem j hj y hyl).2
    · rw [updL_other _ _ e] at hy
      refine ⟨(h.mem j hj y hy).1, ?_⟩
      rw [updI_other _ _ (fun q => ?_)]; exact (h.mem j hj y hy).2
      subst q
      have := (h.mem j hj y hy).2; omega
  · by_cases e : y = x
    · subst e
      refine .inl ⟨updI_same _ _ _, fun j hj q => ?_⟩
      by_cases e2 : j = k
      · subst e2; rw [updL_same] at q; exact hxy q
      · rw [updL_other _ _ e2] at q; have := (h.mem j hj y q).2; omega
    · rw [updI_other _ _ e]
      rcases h.free y hy with ⟨q1, q2⟩ | ⟨j, hj, q1, q2⟩
      · refine .inl ⟨q1, fun j hj q => ?_⟩
        by_cases e2 : j = k
        · subst e2; rw [updL_same] at q; refine q2 j hj ?_; rw [hl]; rcases List.mem_append.1 q with r | r <;> simp [r]
        · rw [updL_other _ _ e2] at q; exact q2 j hj q
      · refine .inr ⟨j, hj, q1, ?_⟩
        by_cases e2 : j = k
        · subst e2; rw [updL_same]; rw [hl] at q2
          rcases List.mem_append.1 q2 with r | r
          · exact List.mem_append_left _ r
          · rcases List.mem_cons.1 r with t | t
            · exact absurd t e
            · exact List.mem_append_right _ t
        · rw [updL_other _ _ e2]; exact q2
  · by_cases e : j = k
    · subst e; rw [updL_same]
      obtain ⟨n1, n2, n3⟩ := List.nodup_append.1 hnd
      exact List.nodup_append.2 ⟨n1, (List.nodup_cons.1 n2).2, fun p hp q hq => n3 p hp q (by simp [hq])⟩
    · rw [updL_other _ _ e]; exact h.nodup j hj
  · by_cases e : j = k
    · subst e; rw [updL_same, updI_same, h.lens j hj, hl]; simp; omega
    · rw [updL_other _ _ e, updI_other _ _ e]; exact h.lens j hj
end
end Go.Proofs.Ytdlncbndhljhfaa
