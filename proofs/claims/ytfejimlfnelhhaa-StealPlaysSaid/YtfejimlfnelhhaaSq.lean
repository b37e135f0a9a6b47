/- A shared row that nobody is in a call on: Push, Pop and Steal from their beginning to their end. -/
import Derived.Test.YtfejimlfnelhhaaSl
namespace Go.Proofs.Ytfejimlfnelhhaa

theorem stR_eq {D : Dq} {k : Nat} {c c' : Cl} {how : Nat} {E : Dq} (hk : k ≤ D.th) (hc : D.cl k = c) (hn : c.nx ≠ 0) (hs : stepW D c = (how, E, c')) :
    stR D k = { E with cl := updC D.cl k (if how = 0 then c' else Cl.out) } ∧ stH D k = how ∧ stX D k = (if how = 1 then c'.x else 0) := by
  have hi : inS (k : Int) (D.th + 1) = true := inS_yes (by omega)
  have hq : (D.cl k).nx ≠ 0 := by rw [hc]; exact hn
  refine ⟨?_, ?_, ?_⟩
  · unfold stR; rw [if_pos hi, Int.toNat_natCast, if_neg hq]; unfold stepD; rw [hc, hs]
  · unfold stH; rw [if_pos hi, Int.toNat_natCast, if_neg hq]; unfold howD; rw [hc, hs]
  · unfold stX; rw [if_pos hi, Int.toNat_natCast, if_neg hq]; unfold gotD; rw [hc, hs]
theorem stR_upd {D : Dq} {f : Nat → Cl} {k : Nat} {c c' : Cl} {how : Nat} {E : Dq} (hD : D.cl = updC f k c) (hk : k ≤ D.th) (hn : c.nx ≠ 0) (hs : stepW D c = (how, E, c')) :
    stR D k = { E with cl := updC f k (if how = 0 then c' else Cl.out) } ∧ stH D k = how ∧ stX D k = (if how = 1 then c'.x else 0) := by
  have := stR_eq hk (c := c) (by rw [hD, updC_same]) hn hs
  rw [hD, updC_twice] at this
  exact this
/-- Nobody is in a call, and these things are there. -/
structure Qui (D : Dq) (L : List Int) : Prop where
  idle : ∀ k, k ≤ D.th → (D.cl k).nx = 0
  r1 : 1 ≤ D.room
  t0 : 0 ≤ D.top
  len : D.bot = D.top + L.length
  room : L.length ≤ D.room
  at_ : ∀ i : Nat, i < L.length → D.sl (slotN D.room (D.top + i)) = L[i]?.getD 0
theorem slotN_ne {room : Nat} {a c : Int} (ha : 0 ≤ a) (h1 : a < c) (h2 : c < a + room) : slotN room a ≠ slotN room c := by
  unfold slotN
  obtain ⟨m, rfl⟩ : ∃ m : Nat, a = m := ⟨a.toNat, by omega⟩
  obtain ⟨n, rfl⟩ : ∃ n : Nat, c = n := ⟨c.toNat, by omega⟩
  rw [Int.toNat_natCast, Int.toNat_natCast]
  intro e
  have e1 := Nat.div_add_mod m room
  have e2 := Nat.div_add_mod n room
  rw [e] at e1
  have hmn : m < n := by omega
  have hq : m / room < n / room := by
    rcases Nat.lt_or_ge (m / room) (n / room) with h | h
    · exact h
    · have := Nat.mul_le_mul_left room h; omega
  have := Nat.mul_le_mul_left room (show m / room + 1 ≤ n / room from hq)
  rw [Nat.mul_add] at this
  omega
theorem Qui.new {r t : Nat} (hr : 1 ≤ r) : Qui (newD r t) [] := ⟨fun _ _ => rfl, hr, Int.le_refl _, rfl, Nat.zero_le _, fun _ hi => absurd hi (Nat.not_lt_zero _)⟩
theorem Qui.begin {D : Dq} {L : List Int} (h : Qui D L) {k : Nat} (hk : k ≤ D.th) (n : Nat) (x : Int) : beginE D k = 0 ∧ beginR D k n x = { D with cl := updC D.cl k ⟨n, 0, 0, x, false⟩ } := by
  have hi : inS (k : Int) (D.th + 1) = true := inS_yes (by omega)
  have hq : (D.cl k).nx = 0 := h.idle k hk
  exact ⟨by unfold beginE; rw [if_pos hi, Int.toNat_natCast, if_pos hq], by unfold beginR; rw [if_pos hi, Int.toNat_natCast, if_pos hq]; rfl⟩
theorem Qui.push {D : Dq} {L : List Int} (h : Qui D L) (x : Int) (hl : L.length < D.room) : beginE D 0 = 0 ∧ Qui (itS (beginR D 0 1 x) 0 4) (L ++ [x]) ∧ (itS (beginR D 0 1 x) 0 4).room = D.room ∧ (itS (beginR D 0 1 x) 0 4).th = D.th := by
  have hb := h.begin (k := 0) (Nat.zero_le _) 1 x
  refine ⟨hb.1, ?_⟩
  have hb2 := hb.2
  rw [show ((0 : Nat) : Int) = 0 from rfl] at hb2
  rw [hb2]
  simp only [itS]
  have e1 := (stR_upd (D := { D with cl := updC D.cl 0 ⟨1, 0, 0, x, false⟩ }) (k := 0) rfl (Nat.zero_le _) (by simp) rfl).1
  have e2 := (stR_upd (D := { D with cl := updC D.cl 0 ⟨2, D.bot, 0, x, false⟩ }) (k := 0) (how := 0) (E := { D with cl := updC D.cl 0 ⟨2, D.bot, 0, x, false⟩ }) (c' := ⟨3, D.bot, D.top, x, false⟩) rfl (Nat.zero_le _) (by simp) (by
    have := h.len
    simp only [stepW]
    rw [if_neg (by omega)])).1
  have e3 := (stR_upd (D := { D with cl := updC D.cl 0 ⟨3, D.bot, D.top, x, false⟩ }) (k := 0) rfl (Nat.zero_le _) (by simp) rfl).1
  have e4 := (stR_upd (D := { D with sl := updS D.sl (slotN D.room D.bot) x, cl := updC D.cl 0 ⟨4, D.bot, D.top, x, false⟩ }) (k := 0) rfl (Nat.zero_le _) (by simp) rfl).1
  simp only [if_true] at e1 e2 e3
  rw [show ((0 : Nat) : Int) = 0 from rfl] at e1 e2 e3 e4
  rw [e1, e2, e3, e4]
  have hlen := h.len
  refine ⟨⟨fun k hk => ?_, h.r1, h.t0, ?_, ?_, fun i hi => ?_⟩, rfl, rfl⟩
  · show (updC D.cl 0 _ k).nx = _
    by_cases q : k = 0
    · subst q; simp [updC, Cl.out]
    · rw [updC_other _ _ q]; exact h.idle k hk
  · show D.bot + 1 = D.top + ((L ++ [x]).length : Nat)
    rw [List.length_append]; simp; omega
  · show (L ++ [x]).length ≤ D.room
    rw [List.length_append]; exact hl
  · show updS D.sl (slotN D.room D.bot) x (slotN D.room (D.top + i)) = _
    rw [List.length_append] at hi
    by_cases q : i = L.length
    · subst q
      rw [← hlen, updS_same]; simp
    · have hi' : i < L.length := by simp at hi; omega
      have ht := h.t0
      rw [updS_other _ _ (slotN_ne (by omega) (by omega) (by omega)), h.at_ i hi', List.getElem?_append_left hi']
/-- A call goes on for m steps, and ends with the next one: how, with what, and with which row behind it. -/
structure EndsC (D : Dq) (k : Int) (m : Nat) (how : Nat) (x : Int) (D' : Dq) : Prop where
  le : m ≤ 5
  on : ∀ i, i < m → stH (itS D k i) k = 0
  hw : stH (itS D k m) k = how
  h0 : how ≠ 0
  gt : stX (itS D k m) k = x
  nx : itS D k (m + 1) = D'
theorem lt_cons {m : Nat} {P : Nat → Prop} (h0 : P 0) (h : ∀ i, i < m → P (i + 1)) : ∀ i, i < m + 1 → P i
  | 0, _ => h0
  | i + 1, hi => h i (by omega)
theorem itS_cons (D : Dq) (k : Int) : ∀ i, itS D k (i + 1) = itS (stR D k) k i
  | 0 => rfl
  | i + 1 => by show stR (itS D k (i + 1)) k = _; rw [itS_cons D k i]; rfl
theorem EndsC.cons {D : Dq} {k : Int} {m how : Nat} {x : Int} {D' : Dq} (h0 : stH D k = 0) (h : EndsC (stR D k) k m how x D') (hm : m + 1 ≤ 5) : EndsC D k (m + 1) how x D' :=
  ⟨hm, lt_cons h0 fun i hi => by rw [itS_cons]; exact h.on i hi, by rw [itS_cons]; exact h.hw, h.h0, by rw [itS_cons]; exact h.gt, by rw [itS_cons]; exact h.nx⟩
theorem EndsC.last {D : Dq} {k : Int} (h : stH D k ≠ 0) : EndsC D k 0 (stH D k) (stX D k) (stR D k) := ⟨by omega, fun i hi => absurd hi (Nat.not_lt_zero _), rfl, h, rfl, rfl⟩
theorem EndsC.step {D : Dq} {f : Nat → Cl} {k : Nat} {c : Cl} {m how : Nat} {x : Int} {D' : Dq} (E : Dq) (c' : Cl) (hD : D.cl = updC f k c) (hk : k ≤ D.th) (hn : c.nx ≠ 0) (hs : stepW D c = (0, E, c')) (h : EndsC { E with cl := updC f k c' } k m how x D') (hm : m + 1 ≤ 5) : EndsC D k (m + 1) how x D' := by
  obtain ⟨e1, e2, _⟩ := stR_upd hD hk hn hs
  rw [if_pos rfl] at e1
  exact EndsC.cons e2 (by rw [e1]; exact h) hm
theorem EndsC.stop {D : Dq} {f : Nat → Cl} {k : Nat} {c : Cl} {how : Nat} {x : Int} (E : Dq) (c' : Cl) (hD : D.cl = updC f k c) (hk : k ≤ D.th) (hn : c.nx ≠ 0) (hs : stepW D c = (how, E, c')) (h0 : how ≠ 0) (hx : (if how = 1 then c'.x else 0) = x) : EndsC D k 0 how x { E with cl := updC f k Cl.out } := by
  obtain ⟨e1, e2, e3⟩ := stR_upd hD hk hn hs
  rw [if_neg h0] at e1
  have := EndsC.last (D := D) (k := k) (by rw [e2]; exact h0)
  rw [e1, e2, e3, hx] at this
  exact this
theorem Qui.out {D D' : Dq} {L L' : List Int} (h : Qui D L) {k : Nat} (he : D'.cl = updC D.cl k Cl.out) (ht : D'.th = D.th) (hr : D'.room = D.room) (t0 : 0 ≤ D'.top) (len : D'.bot = D'.top + L'.length) (room : L'.length ≤ D.room)
    (at_ : ∀ i : Nat, i < L'.length → D'.sl (slotN D.room (D'.top + i)) = L'[i]?.getD 0) : Qui D' L' :=
  ⟨fun j hj => by
    rw [he]
    by_cases q : j = k
    · rw [q, updC_same]; rfl
    · rw [updC_other _ _ q]; exact h.idle j (by rw [← ht]; exact hj), by rw [hr]; exact h.r1, t0, len, by rw [hr]; exact room, by rw [hr]; exact at_⟩
theorem Qui.pop_more {D : Dq} {L : List Int} {y : Int} (h : Qui D (L ++ [y])) (hL : L ≠ []) : ∃ D', EndsC (beginR D 0 5 0) 0 2 1 y D' ∧ Qui D' L ∧ D'.room = D.room ∧ D'.th = D.th := by
  have hb2 : beginR D 0 5 0 = _ := (h.begin (k := 0) (Nat.zero_le _) 5 0).2
  rw [hb2]
  have hlen := h.len
  rw [List.length_append] at hlen
  simp only [List.length_cons, List.length_nil, Nat.zero_add] at hlen
  have hp : 1 ≤ L.length := by cases L with | nil => exact absurd rfl hL | cons a t => simp
  have hy := h.at_ L.length (by simp)
  rw [List.getElem?_append_right (Nat.le_refl _)] at hy
  simp only [Nat.sub_self, List.getElem?_cons_zero, Option.getD_some] at hy
  have hyb : D.sl (slotN D.room (D.bot - 1)) = y := by rw [show D.bot - 1 = D.top + L.length by omega]; exact hy
  refine ⟨{ D with bot := D.bot - 1, cl := updC D.cl 0 Cl.out }, ?_, h.out rfl rfl rfl h.t0 ?_ ?_ ?_, rfl, rfl⟩
  · refine EndsC.step (k := 0) { D with bot := D.bot - 1, cl := updC D.cl 0 ⟨5, 0, 0, 0, false⟩ } ⟨6, D.bot - 1, 0, 0, false⟩ rfl (Nat.zero_le _) (by simp) (rfl) ?_ (by omega)
    refine EndsC.step (k := 0) { D with bot := D.bot - 1, cl := updC D.cl 0 ⟨6, D.bot - 1, 0, 0, false⟩ } ⟨7, D.bot - 1, D.top, 0, false⟩ rfl (Nat.zero_le _) (by simp) (by simp only [stepW]; rw [if_neg (by omega)]) ?_ (by omega)
    exact EndsC.stop (k := 0) { D with bot := D.bot - 1, cl := updC D.cl 0 ⟨7, D.bot - 1, D.top, 0, false⟩ } ⟨8, D.bot - 1, D.top, y, false⟩ rfl (Nat.zero_le _) (by simp) (by simp only [stepW]; rw [if_pos (by omega), hyb]) (by simp) (rfl)
  · show D.bot - 1 = D.top + L.length; omega
  · have := h.room; rw [List.length_append] at this; simp at this; omega
  · intro i hi
    have := h.at_ i (by simp; omega)
    rw [List.getElem?_append_left hi] at this
    exact this
theorem Qui.pop_one {D : Dq} {y : Int} (h : Qui D [y]) : ∃ D', EndsC (beginR D 0 5 0) 0 4 1 y D' ∧ Qui D' [] ∧ D'.room = D.room ∧ D'.th = D.th := by
  have hb2 : beginR D 0 5 0 = _ := (h.begin (k := 0) (Nat.zero_le _) 5 0).2
  rw [hb2]
  have hlen := h.len
  simp only [List.length_cons, List.length_nil, Nat.zero_add] at hlen
  have hy := h.at_ 0 (by simp)
  simp only [List.getElem?_cons_zero, Option.getD_some] at hy
  have hyb : D.sl (slotN D.room (D.bot - 1)) = y := by rw [show D.bot - 1 = D.top + ((0 : Nat) : Int) by omega]; exact hy
  have hbt : D.bot - 1 = D.top := by omega
  refine ⟨{ D with top := D.top + 1, bot := D.bot - 1 + 1, cl := updC D.cl 0 Cl.out }, ?_, h.out rfl rfl rfl (by have := h.t0; show 0 ≤ D.top + 1; omega) ?_ (Nat.zero_le _) (fun i hi => absurd hi (Nat.not_lt_zero _)), rfl, rfl⟩
  · refine EndsC.step (k := 0) { D with bot := D.bot - 1, cl := updC D.cl 0 ⟨5, 0, 0, 0, false⟩ } ⟨6, D.bot - 1, 0, 0, false⟩ rfl (Nat.zero_le _) (by simp) (rfl) ?_ (by omega)
    refine EndsC.step (k := 0) { D with bot := D.bot - 1, cl := updC D.cl 0 ⟨6, D.bot - 1, 0, 0, false⟩ } ⟨7, D.bot - 1, D.top, 0, false⟩ rfl (Nat.zero_le _) (by simp) (by simp only [stepW]; rw [if_neg (by omega)]) ?_ (by omega)
    refine EndsC.step (k := 0) { D with bot := D.bot - 1, cl := updC D.cl 0 ⟨7, D.bot - 1, D.top, 0, false⟩ } ⟨8, D.bot - 1, D.top, y, false⟩ rfl (Nat.zero_le _) (by simp) (by simp only [stepW]; rw [if_neg (by omega), hyb]) ?_ (by omega)
    refine EndsC.step (k := 0) { D with top := D.top + 1, bot := D.bot - 1, cl := updC D.cl 0 ⟨8, D.bot - 1, D.top, y, false⟩ } ⟨9, D.bot - 1, D.top, y, true⟩ rfl (Nat.zero_le _) (by simp) (by simp [stepW]) ?_ (by omega)
    exact EndsC.stop (k := 0) { D with top := D.top + 1, bot := D.bot - 1 + 1, cl := updC D.cl 0 ⟨9, D.bot - 1, D.top, y, true⟩ } ⟨10, D.bot - 1, D.top, y, true⟩ rfl (Nat.zero_le _) (by simp) (rfl) (by simp) (rfl)
  · show D.bot - 1 + 1 = D.top + 1 + (([] : List Int).length : Nat); simp; omega
theorem Qui.pop_none {D : Dq} (h : Qui D []) : ∃ D', EndsC (beginR D 0 5 0) 0 2 3 0 D' ∧ Qui D' [] ∧ D'.room = D.room ∧ D'.th = D.th := by
  have hb2 : beginR D 0 5 0 = _ := (h.begin (k := 0) (Nat.zero_le _) 5 0).2
  rw [hb2]
  have hlen := h.len
  simp only [List.length_nil] at hlen
  refine ⟨{ D with bot := D.bot - 1 + 1, cl := updC D.cl 0 Cl.out }, ?_, h.out rfl rfl rfl h.t0 ?_ (Nat.zero_le _) (fun i hi => absurd hi (Nat.not_lt_zero _)), rfl, rfl⟩
  · refine EndsC.step (k := 0) { D with bot := D.bot - 1, cl := updC D.cl 0 ⟨5, 0, 0, 0, false⟩ } ⟨6, D.bot - 1, 0, 0, false⟩ rfl (Nat.zero_le _) (by simp) (rfl) ?_ (by omega)
    refine EndsC.step (k := 0) { D with bot := D.bot - 1, cl := updC D.cl 0 ⟨6, D.bot - 1, 0, 0, false⟩ } ⟨9, D.bot - 1, D.top, 0, false⟩ rfl (Nat.zero_le _) (by simp) (by simp only [stepW]; rw [if_pos (by omega)]) ?_ (by omega)
    exact EndsC.stop (k := 0) { D with bot := D.bot - 1 + 1, cl := updC D.cl 0 ⟨9, D.bot - 1, D.top, 0, false⟩ } ⟨10, D.bot - 1, D.top, 0, false⟩ rfl (Nat.zero_le _) (by simp) (rfl) (by simp) (rfl)
  · show D.bot - 1 + 1 = D.top + (([] : List Int).length : Nat); simp; omega
theorem Qui.steal_more {D : Dq} {L : List Int} {y : Int} {k : Nat} (h : Qui D (y :: L)) (hk : k ≤ D.th) : ∃ D', EndsC (beginR D k 10 0) k 3 1 y D' ∧ Qui D' L ∧ D'.room = D.room ∧ D'.th = D.th := by
  have hb2 : beginR D k 10 0 = _ := (h.begin hk 10 0).2
  rw [hb2]
  have hlen := h.len
  simp only [List.length_cons] at hlen
  have hy := h.at_ 0 (by simp)
  simp only [List.getElem?_cons_zero, Option.getD_some] at hy
  have hyb : D.sl (slotN D.room D.top) = y := by rw [show D.top = D.top + ((0 : Nat) : Int) by omega]; exact hy
  have ht := h.t0
  refine ⟨{ D with top := D.top + 1, cl := updC D.cl k Cl.out }, ?_, h.out rfl rfl rfl (by show 0 ≤ D.top + 1; omega) ?_ ?_ ?_, rfl, rfl⟩
  · refine EndsC.step (k := k) { D with cl := updC D.cl k ⟨10, 0, 0, 0, false⟩ } ⟨11, 0, D.top, 0, false⟩ rfl hk (by simp) (rfl) ?_ (by omega)
    refine EndsC.step (k := k) { D with cl := updC D.cl k ⟨11, 0, D.top, 0, false⟩ } ⟨12, D.bot, D.top, 0, false⟩ rfl hk (by simp) (by simp only [stepW]; rw [if_neg (by omega)]) ?_ (by omega)
    refine EndsC.step (k := k) { D with cl := updC D.cl k ⟨12, D.bot, D.top, 0, false⟩ } ⟨13, D.bot, D.top, y, false⟩ rfl hk (by simp) (by simp only [stepW]; rw [hyb]) ?_ (by omega)
    exact EndsC.stop (k := k) { D with top := D.top + 1, cl := updC D.cl k ⟨13, D.bot, D.top, y, false⟩ } ⟨14, D.bot, D.top, y, false⟩ rfl hk (by simp) (by simp [stepW]) (by simp) (rfl)
  · show D.bot = D.top + 1 + L.length; omega
  · have := h.room; simp at this; omega
  · intro i hi
    have := h.at_ (i + 1) (by simp; omega)
    rw [List.getElem?_cons_succ, show D.top + ((i + 1 : Nat) : Int) = D.top + 1 + i by omega] at this
    exact this
theorem Qui.steal_none {D : Dq} {k : Nat} (h : Qui D []) (hk : k ≤ D.th) : ∃ D', EndsC (beginR D k 10 0) k 1 3 0 D' ∧ Qui D' [] ∧ D'.room = D.room ∧ D'.th = D.th := by
  have hb2 : beginR D k 10 0 = _ := (h.begin hk 10 0).2
  rw [hb2]
  have hlen := h.len
  simp only [List.length_nil] at hlen
  refine ⟨{ D with cl := updC D.cl k Cl.out }, ?_, h.out rfl rfl rfl h.t0 hlen (Nat.zero_le _) (fun i hi => absurd hi (Nat.not_lt_zero _)), rfl, rfl⟩
  refine EndsC.step (k := k) { D with cl := updC D.cl k ⟨10, 0, 0, 0, false⟩ } ⟨11, 0, D.top, 0, false⟩ rfl hk (by simp) (rfl) ?_ (by omega)
  exact EndsC.stop (k := k) { D with cl := updC D.cl k ⟨11, 0, D.top, 0, false⟩ } ⟨12, D.bot, D.top, 0, false⟩ rfl hk (by simp) (by simp only [stepW]; rw [if_pos (by omega)]) (by simp) (rfl)
theorem Qui.pop_any {D : Dq} {L : List Int} {y : Int} (h : Qui D (L ++ [y])) : ∃ m D', EndsC (beginR D 0 5 0) 0 m 1 y D' ∧ Qui D' L ∧ D'.room = D.room ∧ D'.th = D.th := by
  cases L with
  | nil => obtain ⟨D', h1⟩ := h.pop_one; exact ⟨_, D', h1⟩
  | cons a t => obtain ⟨D', h1⟩ := h.pop_more (by simp); exact ⟨_, D', h1⟩
end Go.Proofs.Ytfejimlfnelhhaa
