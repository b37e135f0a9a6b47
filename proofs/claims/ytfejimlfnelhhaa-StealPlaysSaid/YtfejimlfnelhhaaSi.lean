/- A shared row, told plainly: what was put in is taken once at most. -/
import Derived.Test.YtfejimlfnelhhaaSq
namespace Go.Proofs.Ytfejimlfnelhhaa

/-- The things that are there, and what became of each that was put in (0: it is there, or in hand). -/
structure Core (top lim : Int) (sl : Nat → Int) (room : Nat) (mx : Int) (nxt : Nat) (T : Nat → Int) (H : Int → Prop) : Prop where
  n1 : 1 ≤ nxt
  r1 : 1 ≤ room
  t0 : 0 ≤ top
  tl : top ≤ lim
  lr : lim ≤ top + room
  lo : ∀ i, top ≤ i → i < lim → 1 ≤ sl (slotN room i)
  hi : ∀ i, top ≤ i → i < lim → sl (slotN room i) < mx
  up : ∀ i j, top ≤ i → i < j → j < lim → sl (slotN room i) < sl (slotN room j)
  mn : mx ≤ nxt
  st : ∀ v : Nat, 1 ≤ v → v < nxt → (T v = 0 ↔ (∃ i, top ≤ i ∧ i < lim ∧ sl (slotN room i) = v) ∨ H v)
section
variable {top lim : Int} {sl : Nat → Int} {room : Nat} {mx : Int} {nxt : Nat} {T : Nat → Int} {H : Int → Prop}
theorem Core.inj (h : Core top lim sl room mx nxt T H) {i j : Int} (hi : top ≤ i) (hi2 : i < lim) (hj : top ≤ j) (hj2 : j < lim) (e : sl (slotN room i) = sl (slotN room j)) : i = j := by
  rcases Int.lt_trichotomy i j with q | q | q
  · have := h.up i j hi q hj2; omega
  · exact q
  · have := h.up j i hj q hi2; omega
theorem Core.val (h : Core top lim sl room mx nxt T H) {i : Int} (h1 : top ≤ i) (h2 : i < lim) : ∃ v : Nat, sl (slotN room i) = v ∧ 1 ≤ v ∧ v < nxt ∧ (v : Int) < mx ∧ T v = 0 := by
  have a := h.lo i h1 h2; have b := h.hi i h1 h2; have c := h.mn
  obtain ⟨v, hv⟩ : ∃ v : Nat, sl (slotN room i) = v := ⟨(sl (slotN room i)).toNat, by omega⟩
  exact ⟨v, hv, by omega, by omega, by omega, (h.st v (by omega) (by omega)).2 (.inl ⟨i, h1, h2, hv⟩)⟩
theorem Core.drop_last (h : Core top (lim + 1) sl room mx nxt T H) (hH : ∀ v, H v → mx ≤ v) (hl : top ≤ lim) : ∃ v : Nat, sl (slotN room lim) = v ∧ 1 ≤ v ∧ v < nxt ∧ T v = 0 ∧ Core top lim sl room mx nxt (updS T v 1) H := by
  obtain ⟨v, hv, h1, h2, h3, h4⟩ := h.val (i := lim) hl (by omega)
  refine ⟨v, hv, h1, h2, h4, h.n1, h.r1, h.t0, hl, by have := h.lr; omega, fun i a b => h.lo i a (by omega), fun i a b => h.hi i a (by omega), fun i j a b c => h.up i j a b (by omega), h.mn, fun u u1 u2 => ?_⟩
  by_cases e : u = v
  · subst e
    rw [updS_same]
    refine ⟨fun q => by omega, fun q => ?_⟩
    rcases q with ⟨i, a, b, c⟩ | q
    · have := h.inj a (by omega) hl (by omega) (c.trans hv.symm); omega
    · have := hH _ q; omega
  · rw [updS_other _ _ e, h.st u u1 u2]
    refine ⟨fun q => ?_, fun q => ?_⟩
    · rcases q with ⟨i, a, b, c⟩ | q
      · refine .inl ⟨i, a, ?_, c⟩
        by_cases q : i = lim
        · subst q; exact absurd (by omega) e
        · omega
      · exact .inr q
    · rcases q with ⟨i, a, b, c⟩ | q
      · exact .inl ⟨i, a, by omega, c⟩
      · exact .inr q
theorem Core.drop_first (h : Core top lim sl room mx nxt T H) (hH : ∀ v, H v → mx ≤ v) (hl : top < lim) : ∃ v : Nat, sl (slotN room top) = v ∧ 1 ≤ v ∧ v < nxt ∧ T v = 0 ∧ Core (top + 1) lim sl room mx nxt (updS T v 1) H := by
  obtain ⟨v, hv, h1, h2, h3, h4⟩ := h.val (i := top) (Int.le_refl _) hl
  refine ⟨v, hv, h1, h2, h4, h.n1, h.r1, by have := h.t0; omega, by omega, by have := h.lr; omega, fun i a b => h.lo i (by omega) b, fun i a b => h.hi i (by omega) b, fun i j a b c => h.up i j (by omega) b c, h.mn, fun u u1 u2 => ?_⟩
  by_cases e : u = v
  · subst e
    rw [updS_same]
    refine ⟨fun q => by omega, fun q => ?_⟩
    rcases q with ⟨i, a, b, c⟩ | q
    · have := h.inj (by omega) b (Int.le_refl top) hl (c.trans hv.symm); omega
    · have := hH _ q; omega
  · rw [updS_other _ _ e, h.st u u1 u2]
    refine ⟨fun q => ?_, fun q => ?_⟩
    · rcases q with ⟨i, a, b, c⟩ | q
      · refine .inl ⟨i, ?_, b, c⟩
        by_cases q : i = top
        · subst q; exact absurd (by omega) e
        · omega
      · exact .inr q
    · rcases q with ⟨i, a, b, c⟩ | q
      · exact .inl ⟨i, by omega, b, c⟩
      · exact .inr q
theorem Core.congr {H' : Int → Prop} (h : Core top lim sl room mx nxt T H) (hH : ∀ v, H v ↔ H' v) : Core top lim sl room mx nxt T H' :=
  ⟨h.n1, h.r1, h.t0, h.tl, h.lr, h.lo, h.hi, h.up, h.mn, fun v a b => (h.st v a b).trans (by rw [hH])⟩
theorem Core.write (h : Core top lim sl room mx nxt T H) (hb : lim < top + room) (x : Int) : Core top lim (updS sl (slotN room lim) x) room mx nxt T H := by
  have ht := h.t0
  have e : ∀ i, top ≤ i → i < lim → updS sl (slotN room lim) x (slotN room i) = sl (slotN room i) := fun i a b => updS_other _ _ (slotN_ne (by omega) b (by omega))
  refine ⟨h.n1, h.r1, h.t0, h.tl, h.lr, fun i a b => by rw [e i a b]; exact h.lo i a b, fun i a b => by rw [e i a b]; exact h.hi i a b, fun i j a b c => by rw [e i a (by omega), e j (by omega) c]; exact h.up i j a b c, h.mn, fun v a b => (h.st v a b).trans ?_⟩
  refine ⟨fun q => ?_, fun q => ?_⟩
  · rcases q with ⟨i, a, b, c⟩ | q
    · exact .inl ⟨i, a, b, by rw [e i a b]; exact c⟩
    · exact .inr q
  · rcases q with ⟨i, a, b, c⟩ | q
    · exact .inl ⟨i, a, b, by rw [← e i a b]; exact c⟩
    · exact .inr q
theorem Core.add_last {x : Int} (h : Core top lim sl room x nxt T (fun v => v = x)) (hx : x = (nxt : Int) - 1) (h2 : 2 ≤ nxt) (hb : lim < top + room) (hs : sl (slotN room lim) = x) : Core top (lim + 1) sl room nxt nxt T (fun _ => False) := by
  have tl := h.tl
  refine ⟨h.n1, h.r1, h.t0, by omega, by omega, fun i a b => ?_, fun i a b => ?_, fun i j a b c => ?_, Int.le_refl _, fun v a b => (h.st v a b).trans ?_⟩
  · by_cases q : i = lim
    · subst q; omega
    · exact h.lo i a (by omega)
  · by_cases q : i = lim
    · subst q; omega
    · have := h.hi i a (by omega); omega
  · by_cases q : j = lim
    · subst q; have := h.hi i a b; omega
    · exact h.up i j a b (by omega)
  · refine ⟨fun q => ?_, fun q => ?_⟩
    · rcases q with ⟨i, a, b, c⟩ | q
      · exact .inl ⟨i, a, by omega, c⟩
      · exact .inl ⟨lim, tl, by omega, by rw [hs]; exact q.symm⟩
    · rcases q with ⟨i, a, b, c⟩ | q
      · by_cases q : i = lim
        · subst q; exact .inr (by show (v : Int) = x; omega)
        · exact .inl ⟨i, a, by omega, c⟩
      · exact q.elim
theorem Core.give_up {x : Int} (h : Core top lim sl room x nxt T (fun v => v = x)) (hx : x = (nxt : Int) - 1) (h2 : 2 ≤ nxt) : Core top lim sl room nxt nxt (updS T (nxt - 1) (-1)) (fun _ => False) := by
  refine ⟨h.n1, h.r1, h.t0, h.tl, h.lr, h.lo, fun i a b => by have := h.hi i a b; omega, h.up, Int.le_refl _, fun v a b => ?_⟩
  by_cases e : v = nxt - 1
  · subst e
    rw [updS_same]
    refine ⟨fun q => by omega, fun q => ?_⟩
    rcases q with ⟨i, a, b, c⟩ | q
    · have := h.hi i a b; omega
    · exact q.elim
  · rw [updS_other _ _ e, h.st v a b]
    refine ⟨fun q => ?_, fun q => ?_⟩
    · rcases q with q | q
      · exact .inl q
      · exact absurd (show v = nxt - 1 by have : (v : Int) = x := q; omega) e
    · rcases q with q | q
      · exact .inl q
      · exact q.elim
theorem Core.begin (h : Core top lim sl room nxt nxt T (fun _ => False)) : Core top lim sl room nxt (nxt + 1) (updS T nxt 0) (fun v => v = (nxt : Int)) := by
  refine ⟨by omega, h.r1, h.t0, h.tl, h.lr, h.lo, h.hi, h.up, by omega, fun v a b => ?_⟩
  by_cases e : v = nxt
  · subst e; rw [updS_same]; exact ⟨fun _ => .inr rfl, fun _ => rfl⟩
  · rw [updS_other _ _ e, h.st v a (by omega)]
    refine ⟨fun q => ?_, fun q => ?_⟩
    · rcases q with q | q
      · exact .inl q
      · exact q.elim
    · rcases q with q | q
      · exact .inl q
      · exact absurd (show v = nxt by have : (v : Int) = nxt := q; omega) e
theorem Core.take (h : Core top (top + 1) sl room nxt nxt T (fun _ => False)) : Core (top + 1) (top + 1) sl room nxt nxt T (fun v => true = true ∧ v = sl (slotN room top)) := by
  refine ⟨h.n1, h.r1, by have := h.t0; omega, Int.le_refl _, by omega, fun i a b => absurd b (by omega), fun i a b => absurd b (by omega), fun i j a b c => absurd c (by omega), Int.le_refl _, fun v a b => (h.st v a b).trans ?_⟩
  refine ⟨fun q => ?_, fun q => ?_⟩
  · rcases q with ⟨i, a, b, c⟩ | q
    · obtain rfl : i = top := by omega
      exact .inr ⟨rfl, c.symm⟩
    · exact q.elim
  · rcases q with ⟨i, a, b, c⟩ | q
    · omega
    · exact .inl ⟨top, Int.le_refl _, by omega, q.2.symm⟩
theorem Core.let_go {x : Int} (h : Core top top sl room nxt nxt T (fun v => true = true ∧ v = x)) (h1 : 1 ≤ x) (h2 : x < nxt) : ∃ v : Nat, x = v ∧ 1 ≤ v ∧ v < nxt ∧ T v = 0 ∧ Core top top sl room nxt nxt (updS T v 1) (fun _ => False) := by
  obtain ⟨v, rfl⟩ : ∃ v : Nat, x = v := ⟨x.toNat, by omega⟩
  refine ⟨v, rfl, by omega, by omega, (h.st v (by omega) (by omega)).2 (.inr ⟨rfl, rfl⟩), h.n1, h.r1, h.t0, h.tl, h.lr, h.lo, h.hi, h.up, h.mn, fun u u1 u2 => ?_⟩
  by_cases e : u = v
  · subst e; rw [updS_same]
    refine ⟨fun q => by omega, fun q => ?_⟩
    rcases q with ⟨i, a, b, c⟩ | q
    · omega
    · exact q.elim
  · rw [updS_other _ _ e, h.st u u1 u2]
    refine ⟨fun q => ?_, fun q => ?_⟩
    · rcases q with q | q
      · exact .inl q
      · exact absurd (show u = v by have : (u : Int) = v := q.2; omega) e
    · rcases q with q | q
      · exact .inl q
      · exact q.elim
end
/-- What holds while the worker is where it is in its call. -/
def InvW (top bot : Int) (sl : Nat → Int) (room : Nat) (c : Cl) (nxt : Nat) (T : Nat → Int) : Prop :=
  match c.nx with
  | 0 => Core top bot sl room nxt nxt T (fun _ => False)
  | 1 => Core top bot sl room c.x nxt T (fun v => v = c.x) ∧ c.x = (nxt : Int) - 1 ∧ 2 ≤ nxt
  | 2 => Core top bot sl room c.x nxt T (fun v => v = c.x) ∧ c.x = (nxt : Int) - 1 ∧ 2 ≤ nxt ∧ c.b = bot
  | 3 => Core top bot sl room c.x nxt T (fun v => v = c.x) ∧ c.x = (nxt : Int) - 1 ∧ 2 ≤ nxt ∧ c.b = bot ∧ bot < top + room
  | 4 => Core top bot sl room c.x nxt T (fun v => v = c.x) ∧ c.x = (nxt : Int) - 1 ∧ 2 ≤ nxt ∧ c.b = bot ∧ bot < top + room ∧ sl (slotN room bot) = c.x
  | 5 => Core top bot sl room nxt nxt T (fun _ => False) ∧ c.won = false
  | 6 => Core top (bot + 1) sl room nxt nxt T (fun _ => False) ∧ c.won = false ∧ c.b = bot
  | 7 => Core top (bot + 1) sl room nxt nxt T (fun _ => False) ∧ c.won = false ∧ c.b = bot ∧ c.t ≤ top ∧ c.t ≤ bot ∧ (c.t < bot → top ≤ bot)
  | 8 => Core top (bot + 1) sl room nxt nxt T (fun _ => False) ∧ c.b = bot ∧ c.t = bot ∧ bot ≤ top ∧ c.x = sl (slotN room bot)
  | 9 => Core top (bot + 1) sl room nxt nxt T (fun v => c.won = true ∧ v = c.x) ∧ c.b = bot ∧ top = bot + 1 ∧ (c.won = true → 1 ≤ c.x ∧ c.x < nxt)
  | _ => False
/-- How far a thief may have read. -/
def bndP (bot : Int) (c : Cl) : Int :=
  match c.nx with
  | 6 => bot + 1
  | 7 => if c.t < bot then bot else bot + 1
  | 8 => bot + 1
  | 9 => bot + 1
  | _ => bot
/-- What holds while a thief is where it is in its call. -/
structure InvT (top bnd : Int) (sl : Nat → Int) (room : Nat) (c : Cl) : Prop where
  t11 : 11 ≤ c.nx → c.t ≤ top
  t12 : 12 ≤ c.nx → c.t = top → c.t < bnd
  t13 : 13 ≤ c.nx → c.t = top → c.x = sl (slotN room c.t)
theorem InvT.same {top bnd bnd' : Int} {sl sl' : Nat → Int} {room : Nat} {c : Cl} (h : InvT top bnd sl room c) (hb : top < bnd → top < bnd' ∧ sl' (slotN room top) = sl (slotN room top)) : InvT top bnd' sl' room c :=
  ⟨h.t11, fun a e => by have := h.t12 a e; rw [e] at this ⊢; exact (hb this).1, fun a e => by have := h.t12 (by omega) e; rw [e] at this; rw [h.t13 a e, e, (hb this).2]⟩
theorem InvT.on {top top' bnd bnd' : Int} {sl sl' : Nat → Int} {room : Nat} {c : Cl} (h : InvT top bnd sl room c) (hb : top < top') : InvT top' bnd' sl' room c :=
  ⟨fun a => by have := h.t11 a; omega, fun a e => by have := h.t11 (by omega); omega, fun a e => by have := h.t11 (by omega); omega⟩
theorem InvT.out {top bnd : Int} {sl : Nat → Int} {room : Nat} : InvT top bnd sl room Cl.out := ⟨fun a => absurd a (by simp [Cl.out]), fun a => absurd a (by simp [Cl.out]), fun a => absurd a (by simp [Cl.out])⟩
structure Inv (D : Dq) (nxt : Nat) (T : Nat → Int) : Prop where
  w : InvW D.top D.bot D.sl D.room (D.cl 0) nxt T
  t : ∀ k, 1 ≤ k → InvT D.top (bndP D.bot (D.cl 0)) D.sl D.room (D.cl k)
theorem Inv.new {r t : Nat} (hr : 1 ≤ r) : Inv (newD r t) 1 (fun _ => 0) :=
  ⟨⟨Nat.le_refl _, hr, Int.le_refl _, Int.le_refl _, by show (0 : Int) ≤ 0 + r; omega, fun i a b => absurd (show i < 0 from b) (by have : (0 : Int) ≤ i := a; omega), fun i a b => absurd (show i < 0 from b) (by have : (0 : Int) ≤ i := a; omega), fun i j a b c => absurd (show j < 0 from c) (by have : (0 : Int) ≤ i := a; omega), Int.le_refl _, fun v a b => by omega⟩, fun _ _ => InvT.out⟩
/-- What became of things behind a step. -/
def afterT (how : Nat) (x : Int) (nxt : Nat) (T : Nat → Int) : Nat → Int := if how = 1 then updS T x.toNat 1 else if how = 4 then updS T (nxt - 1) (-1) else T
/-- A step of the worker. -/
theorem Inv.worker {D : Dq} {nxt : Nat} {T : Nat → Int} (h : Inv D nxt T) (hk : (D.cl 0).nx ≠ 0) :
    (howD D 0 = 1 → ∃ v : Nat, gotD D 0 = v ∧ 1 ≤ v ∧ v < nxt ∧ T v = 0) ∧ (howD D 0 = 4 → 2 ≤ nxt) ∧ Inv (stepD D 0) nxt (afterT (howD D 0) (gotD D 0) nxt T) := by
  have hw := h.w
  obtain ⟨c, hc⟩ : ∃ c, c = D.cl 0 := ⟨_, rfl⟩
  have ht : ∀ k, 1 ≤ k → InvT D.top (bndP D.bot c) D.sl D.room (D.cl k) := by rw [hc]; exact h.t
  have hh : howD D 0 = (stepW D c).1 := by rw [hc]; rfl
  have hg : gotD D 0 = if (stepW D c).1 = 1 then (stepW D c).2.2.x else 0 := by rw [hc]; rfl
  have hs : stepD D 0 = { (stepW D c).2.1 with cl := updC D.cl 0 (if (stepW D c).1 = 0 then (stepW D c).2.2 else Cl.out) } := by rw [hc]; rfl
  rw [hh, hg, hs]
  rw [← hc] at hw hk
  clear hh hg hs hc h
  have fin : ∀ (top' bot' : Int) (sl' : Nat → Int) (c' : Cl) (T' : Nat → Int), InvW top' bot' sl' D.room c' nxt T' → (∀ k, 1 ≤ k → InvT top' (bndP bot' c') sl' D.room (D.cl k)) → Inv { D with top := top', bot := bot', sl := sl', cl := updC D.cl 0 c' } nxt T' := fun top' bot' sl' c' T' a b =>
    ⟨by show InvW top' bot' sl' D.room (updC D.cl 0 c' 0) nxt T'; rw [updC_same]; exact a, fun k hk => by
      show InvT top' (bndP bot' (updC D.cl 0 c' 0)) sl' D.room (updC D.cl 0 c' k)
      rw [updC_same, updC_other _ _ (by omega)]; exact b k hk⟩
  obtain ⟨nx, b, t, x, won⟩ := c
  match nx, hk, hw, ht with
  | 1, _, hw, ht =>
    obtain ⟨a1, a2, a3⟩ := hw
    exact ⟨fun q => by simp [stepW] at q, fun q => by simp [stepW] at q, fin _ _ _ ⟨2, D.bot, t, x, won⟩ _ ⟨a1, a2, a3, rfl⟩ fun k hk => (ht k hk).same fun q => ⟨q, rfl⟩⟩
  | 2, _, hw, ht =>
    obtain ⟨a1, a2, a3, a4⟩ := hw
    dsimp only at a1 a2 a4
    by_cases q : (D.room : Int) ≤ b - D.top
    · simp only [stepW, q, if_true]
      exact ⟨fun q => by simp at q, fun _ => a3, fin _ _ _ Cl.out _ (by rw [afterT, if_neg (by omega), if_pos rfl]; exact a1.give_up a2 a3) fun k hk => (ht k hk).same fun q => ⟨q, rfl⟩⟩
    · simp only [stepW, q, if_false]
      exact ⟨fun q => by simp at q, fun q => by simp at q, fin _ _ _ ⟨3, b, D.top, x, won⟩ _ ⟨a1, a2, a3, a4, by omega⟩ fun k hk => (ht k hk).same fun q => ⟨q, rfl⟩⟩
  | 3, _, hw, ht =>
    obtain ⟨a1, a2, a3, a4, a5⟩ := hw
    dsimp only at a1 a2 a4
    subst a4
    refine ⟨fun q => by simp [stepW] at q, fun q => by simp [stepW] at q, fin _ _ _ ⟨4, D.bot, t, x, won⟩ _ ⟨a1.write a5 x, a2, a3, rfl, a5, updS_same _ _ _⟩ fun k hk => (ht k hk).same fun q => ⟨q, ?_⟩⟩
    have t0 := a1.t0
    exact updS_other _ _ (slotN_ne t0 q a5)
  | 4, _, hw, ht =>
    obtain ⟨a1, a2, a3, a4, a5, a6⟩ := hw
    dsimp only at a1 a2 a4 a6
    subst a4
    exact ⟨fun q => by simp [stepW] at q, fun q => by simp [stepW] at q, fin _ _ _ Cl.out _ (a1.add_last a2 a3 a5 a6) fun k hk => (ht k hk).same fun q => ⟨by have : D.top < D.bot := q; show D.top < D.bot + 1; omega, rfl⟩⟩
  | 5, _, hw, ht =>
    obtain ⟨a1, a2⟩ := hw
    exact ⟨fun q => by simp [stepW] at q, fun q => by simp [stepW] at q, fin _ _ _ ⟨6, D.bot - 1, t, x, won⟩ _ ⟨by show Core D.top (D.bot - 1 + 1) D.sl D.room nxt nxt T _; rw [show D.bot - 1 + 1 = D.bot by omega]; exact a1, a2, rfl⟩ fun k hk => (ht k hk).same fun q => ⟨by have : D.top < D.bot := q; show D.top < D.bot - 1 + 1; omega, rfl⟩⟩
  | 6, _, hw, ht =>
    obtain ⟨a1, a2, a3⟩ := hw
    dsimp only at a1 a2 a3
    subst a3 a2
    have tl := a1.tl
    by_cases q : D.bot < D.top
    · simp only [stepW, q, if_true]
      have hm : D.top = D.bot + 1 := by omega
      refine ⟨fun q => by simp at q, fun q => by simp at q, fin _ _ _ ⟨9, D.bot, D.top, x, false⟩ _ ⟨?_, rfl, hm, fun q => by cases q⟩ fun k hk => (ht k hk).same fun q => ⟨q, rfl⟩⟩
      exact a1.congr fun v => ⟨fun q => q.elim, fun q => by cases q.1⟩
    · simp only [stepW, q, if_false]
      refine ⟨fun q => by simp at q, fun q => by simp at q, fin _ _ _ ⟨7, D.bot, D.top, x, false⟩ _ ⟨a1, rfl, rfl, Int.le_refl _, by show D.top ≤ D.bot; omega, fun q => by have : D.top < D.bot := q; omega⟩ fun k hk => (ht k hk).same fun q => ⟨?_, rfl⟩⟩
      show D.top < if D.top < D.bot then D.bot else D.bot + 1
      split <;> omega
  | 7, _, hw, ht =>
    obtain ⟨a1, a2, a3, a4, a5, a6⟩ := hw
    dsimp only at a1 a2 a3 a4 a5 a6
    subst a3 a2
    by_cases q : t < D.bot
    · obtain ⟨v, hv, v1, v2, v3, hC⟩ := a1.drop_last (fun _ q => q.elim) (a6 q)
      simp only [stepW, q, if_true]
      refine ⟨fun _ => ⟨v, hv, v1, v2, v3⟩, fun q => by simp at q, fin _ _ _ Cl.out _ (by rw [afterT, if_pos rfl, hv, Int.toNat_natCast]; exact hC) fun k hk => (ht k hk).same fun r => ⟨?_, rfl⟩⟩
      have r' : D.top < if t < D.bot then D.bot else D.bot + 1 := r
      rw [if_pos q] at r'
      exact r'
    · simp only [stepW, q, if_false]
      refine ⟨fun q => by simp at q, fun q => by simp at q, fin _ _ _ ⟨8, D.bot, t, D.sl (slotN D.room D.bot), false⟩ _ ⟨a1, rfl, by show t = D.bot; omega, by omega, rfl⟩ fun k hk => (ht k hk).same fun r => ⟨?_, rfl⟩⟩
      have r' : D.top < if t < D.bot then D.bot else D.bot + 1 := r
      rw [if_neg q] at r'
      exact r'
  | 8, _, hw, ht =>
    obtain ⟨a1, a2, a3, a4, a5⟩ := hw
    dsimp only at a1 a2 a3 a4 a5
    subst a2 a3 a5
    have tl := a1.tl
    by_cases q : D.top = D.bot
    · simp only [stepW, q, if_true, decide_true]
      rw [q] at a1
      obtain ⟨v, hv, v1, v2, v3, v4⟩ := a1.val (i := D.bot) (Int.le_refl _) (by omega)
      refine ⟨fun q => by simp at q, fun q => by simp at q, fin (D.bot + 1) _ _ ⟨9, D.bot, D.bot, D.sl (slotN D.room D.bot), true⟩ _ ⟨a1.take, rfl, rfl, fun _ => ⟨by show 1 ≤ D.sl (slotN D.room D.bot); omega, by show D.sl (slotN D.room D.bot) < nxt; omega⟩⟩ fun k hk => (ht k hk).on (by omega)⟩
    · simp only [stepW, q, if_false, decide_false]
      have hm : D.top = D.bot + 1 := by omega
      refine ⟨fun q => by simp at q, fun q => by simp at q, fin _ _ _ ⟨9, D.bot, D.bot, D.sl (slotN D.room D.bot), false⟩ _ ⟨a1.congr fun v => ⟨fun q => q.elim, fun q => by cases q.1⟩, rfl, hm, fun q => by cases q⟩ fun k hk => (ht k hk).same fun q => ⟨q, rfl⟩⟩
  | 9, _, hw, ht =>
    obtain ⟨a1, a2, a3, a4⟩ := hw
    dsimp only at a1 a2 a3 a4
    subst a2
    rw [a3] at a1
    cases won with
    | true =>
      obtain ⟨h1, h2⟩ := a4 rfl
      obtain ⟨v, hv, v1, v2, v3, hC⟩ := a1.let_go h1 h2
      subst hv
      refine ⟨fun _ => ⟨v, rfl, v1, v2, v3⟩, fun q => by simp [stepW] at q, fin _ _ _ Cl.out _ (by show Core D.top (D.bot + 1) D.sl D.room nxt nxt (updS T v 1) (fun _ => False); rw [a3]; exact hC) fun k hk => (ht k hk).same fun q => ⟨q, rfl⟩⟩
    | false =>
      refine ⟨fun q => by simp [stepW] at q, fun q => by simp [stepW] at q, fin _ _ _ Cl.out _ (by show Core D.top (D.bot + 1) D.sl D.room nxt nxt T (fun _ => False); rw [a3]; exact a1.congr fun v => ⟨fun q => (by cases q.1), fun q => q.elim⟩) fun k hk => (ht k hk).same fun q => ⟨q, rfl⟩⟩
  | 0, hk, _, _ => exact absurd rfl hk
  | n + 10, _, hw, _ => exact hw.elim
theorem InvW.core {top bot : Int} {sl : Nat → Int} {room : Nat} {c : Cl} {nxt : Nat} {T : Nat → Int} (h : InvW top bot sl room c nxt T) (hb : top < bndP bot c) :
    ∃ v : Nat, sl (slotN room top) = v ∧ 1 ≤ v ∧ v < nxt ∧ T v = 0 ∧ InvW (top + 1) bot sl room c nxt (updS T v 1) := by
  obtain ⟨nx, b, t, x, won⟩ := c
  match nx, h, hb with
  | 0, h, hb =>
    obtain ⟨v, h1, h2, h3, h4, h5⟩ := Core.drop_first h (fun _ q => q.elim) hb
    exact ⟨v, h1, h2, h3, h4, h5⟩
  | 1, ⟨a1, a2, a3⟩, hb =>
    obtain ⟨v, h1, h2, h3, h4, h5⟩ := a1.drop_first (fun _ q => by omega) hb
    exact ⟨v, h1, h2, h3, h4, h5, a2, a3⟩
  | 2, ⟨a1, a2, a3, a4⟩, hb =>
    obtain ⟨v, h1, h2, h3, h4, h5⟩ := a1.drop_first (fun _ q => by omega) hb
    exact ⟨v, h1, h2, h3, h4, h5, a2, a3, a4⟩
  | 3, ⟨a1, a2, a3, a4, a5⟩, hb =>
    obtain ⟨v, h1, h2, h3, h4, h5⟩ := a1.drop_first (fun _ q => by omega) hb
    exact ⟨v, h1, h2, h3, h4, h5, a2, a3, a4, by omega⟩
  | 4, ⟨a1, a2, a3, a4, a5, a6⟩, hb =>
    obtain ⟨v, h1, h2, h3, h4, h5⟩ := a1.drop_first (fun _ q => by omega) hb
    exact ⟨v, h1, h2, h3, h4, h5, a2, a3, a4, by omega, a6⟩
  | 5, ⟨a1, a2⟩, hb =>
    obtain ⟨v, h1, h2, h3, h4, h5⟩ := a1.drop_first (fun _ q => q.elim) hb
    exact ⟨v, h1, h2, h3, h4, h5, a2⟩
  | 6, ⟨a1, a2, a3⟩, hb =>
    obtain ⟨v, h1, h2, h3, h4, h5⟩ := a1.drop_first (fun _ q => q.elim) hb
    exact ⟨v, h1, h2, h3, h4, h5, a2, a3⟩
  | 7, ⟨a1, a2, a3, a4, a5, a6⟩, hb =>
    have hb' : top < if t < bot then bot else bot + 1 := hb
    obtain ⟨v, h1, h2, h3, h4, h5⟩ := a1.drop_first (fun _ q => q.elim) (by split at hb' <;> omega)
    refine ⟨v, h1, h2, h3, h4, h5, a2, a3, by dsimp only at a4 ⊢; omega, a5, fun q => ?_⟩
    have q' : t < bot := q
    rw [if_pos q'] at hb'
    omega
  | 8, ⟨a1, a2, a3, a4, a5⟩, hb =>
    obtain ⟨v, h1, h2, h3, h4, h5⟩ := a1.drop_first (fun _ q => q.elim) hb
    exact ⟨v, h1, h2, h3, h4, h5, a2, a3, by omega, a5⟩
  | 9, ⟨a1, a2, a3, a4⟩, hb =>
    have hb' : top < bot + 1 := hb
    omega
  | n + 10, h, _ => exact h.elim
/-- A step of a thief. -/
theorem Inv.thief {D : Dq} {nxt : Nat} {T : Nat → Int} (h : Inv D nxt T) {k : Nat} (k1 : 1 ≤ k) (hk : 10 ≤ (D.cl k).nx) (hk2 : (D.cl k).nx ≤ 13) :
    (howD D k = 1 → ∃ v : Nat, gotD D k = v ∧ 1 ≤ v ∧ v < nxt ∧ T v = 0) ∧ howD D k ≠ 4 ∧ Inv (stepD D k) nxt (afterT (howD D k) (gotD D k) nxt T) := by
  have hw := h.w; have ht := h.t
  have htk := ht k k1
  obtain ⟨c, hc⟩ : ∃ c, c = D.cl k := ⟨_, rfl⟩
  have hh : howD D k = (stepW D c).1 := by rw [hc]; rfl
  have hg : gotD D k = if (stepW D c).1 = 1 then (stepW D c).2.2.x else 0 := by rw [hc]; rfl
  have hs : stepD D k = { (stepW D c).2.1 with cl := updC D.cl k (if (stepW D c).1 = 0 then (stepW D c).2.2 else Cl.out) } := by rw [hc]; rfl
  rw [hh, hg, hs]
  rw [← hc] at hk hk2 htk
  clear hh hg hs hc h
  have fin : ∀ (top' : Int) (c' : Cl) (T' : Nat → Int), InvW top' D.bot D.sl D.room (D.cl 0) nxt T' → InvT top' (bndP D.bot (D.cl 0)) D.sl D.room c' → D.top ≤ top' → Inv { D with top := top', cl := updC D.cl k c' } nxt T' := fun top' c' T' a b hle =>
    ⟨by show InvW top' D.bot D.sl D.room (updC D.cl k c' 0) nxt T'; rw [updC_other _ _ (by omega)]; exact a, fun j hj => by
      show InvT top' (bndP D.bot (updC D.cl k c' 0)) D.sl D.room (updC D.cl k c' j)
      rw [updC_other _ _ (show 0 ≠ k by omega)]
      by_cases q : j = k
      · rw [q, updC_same]; exact b
      · rw [updC_other _ _ q]
        rcases Int.lt_or_eq_of_le hle with r | r
        · exact (ht j hj).on r
        · rw [← r]; exact ht j hj⟩
  obtain ⟨nx, b, t, x, won⟩ := c
  have hbb : D.bot ≤ bndP D.bot (D.cl 0) := by
    unfold bndP
    split
    · omega
    · split <;> omega
    · omega
    · omega
    · omega
  dsimp only at hk hk2
  have hn : nx = 10 ∨ nx = 11 ∨ nx = 12 ∨ nx = 13 := by omega
  rcases hn with rfl | rfl | rfl | rfl
  · exact ⟨fun q => by simp [stepW] at q, by simp [stepW], fin _ ⟨11, b, D.top, x, won⟩ _ hw ⟨fun _ => Int.le_refl _, fun q => absurd q (by simp), fun q => absurd q (by simp)⟩ (Int.le_refl _)⟩
  · have h1 := htk.t11 (by simp)
    dsimp only at h1
    by_cases q : D.bot ≤ t
    · simp only [stepW, q, if_true]
      exact ⟨fun q => by simp at q, by simp, fin _ Cl.out _ hw InvT.out (Int.le_refl _)⟩
    · simp only [stepW, q, if_false]
      exact ⟨fun q => by simp at q, by simp, fin _ ⟨12, D.bot, t, x, won⟩ _ hw ⟨fun _ => h1, fun _ _ => by show t < _; omega, fun q => absurd q (by simp)⟩ (Int.le_refl _)⟩
  · have h1 := htk.t11 (by simp); have h2 := htk.t12 (by simp)
    exact ⟨fun q => by simp [stepW] at q, by simp [stepW], fin _ ⟨13, b, t, D.sl (slotN D.room t), won⟩ _ hw ⟨fun _ => h1, fun _ e => h2 e, fun _ _ => rfl⟩ (Int.le_refl _)⟩
  · have h2 := htk.t12 (by simp); have h3 := htk.t13 (by simp)
    dsimp only at h2 h3
    by_cases q : D.top = t
    · obtain ⟨v, hv, v1, v2, v3, hC⟩ := hw.core (by have := h2 q.symm; omega)
      have hx := h3 q.symm
      rw [← q, hv] at hx
      subst hx
      simp only [stepW, q, if_true]
      refine ⟨fun _ => ⟨v, rfl, v1, v2, v3⟩, by simp, ?_⟩
      rw [q] at hC
      exact fin (t + 1) Cl.out _ hC InvT.out (by omega)
    · simp only [stepW, q, if_false]
      exact ⟨fun q => by simp at q, by simp, fin _ Cl.out _ hw InvT.out (Int.le_refl _)⟩
theorem Inv.step {D : Dq} {n nxt : Nat} {T : Nat → Int} (h : Inv D nxt T) (hN : Nice D n) (k : Nat) (hk : (D.cl k).nx ≠ 0) :
    (howD D k = 1 → ∃ v : Nat, gotD D k = v ∧ 1 ≤ v ∧ v < nxt ∧ T v = 0) ∧ (howD D k = 4 → 2 ≤ nxt) ∧ Inv (stepD D k) nxt (afterT (howD D k) (gotD D k) nxt T) := by
  by_cases k0 : k = 0
  · subst k0; exact h.worker hk
  · have := hN.tk k (by omega)
    obtain ⟨a, b, c⟩ := h.thief (k := k) (by omega) (by omega) (by omega)
    exact ⟨a, fun q => absurd q b, c⟩
end Go.Proofs.Ytfejimlfnelhhaa
