/- The document's Step of a shared row: it does what the plain one does. -/
import Derived.Test.YtfejimlfnelhhaaTt
import Derived.Test.YtfejimlfnelhhaaTu
import Derived.Test.YtfejimlfnelhhaaTw
import Derived.Test.YtfejimlfnelhhaaTx
import Derived.Test.YtfejimlfnelhhaaTy
namespace Go.Proofs.Ytfejimlfnelhhaa
open Go.RowKit

/-- The document's row is this one. -/
structure RfD (rb gs gp : Nat) (D : Dq) (w : World) : Prop where
  v : ∃ P : Nat → Pt, RfV rb gs gp D.top D.bot D.sl D.room D.th P w ∧ ∀ j, j ≤ D.th → PartyOf (D.cl j) (P j)
theorem RfD.but {rb gs gp : Nat} {D : Dq} {w w' : World} {X : Nat → Prop} (h : RfD rb gs gp D w) (hb : But X w w') (hX : ∀ k, OwnR rb gs gp k → ¬ X k) : RfD rb gs gp D w' := let ⟨P, a, b⟩ := h.v; ⟨P, a.but hb hX, b⟩
theorem RfD.lt {rb gs gp : Nat} {D : Dq} {w : World} (h : RfD rb gs gp D w) {k : Nat} (hk : OwnR rb gs gp k) : k < w.heap.size := let ⟨_, a, _⟩ := h.v; a.lt hk
def RefQ (rb gs gp : Nat) (D : Dq) (k : Nat) (w : World) (e : Ending) (w' : World) : Prop :=
  e = .returned (.tuple #[.int .i64 (howD D k), .int .i64 (gotD D k), .int .i64 0]) ∧ RfD rb gs gp (stepD D k) w' ∧ But (OwnR rb gs gp) w w'
theorem RefQ.mk {rb gs gp : Nat} {D : Dq} {k : Nat} {P : Nat → Pt} {w : World} {c c' : Cl} {how : Nat} {x : Int} {E : Dq} {p : Pt} (hc : D.cl k = c) (hs : stepW D c = (how, E, c')) (hrel : ∀ j, j ≤ D.th → PartyOf (D.cl j) (P j)) (hth : E.th = D.th)
    (hx : x = if how = 1 then c'.x else 0) (hp : PartyOf (if how = 0 then c' else Cl.out) p) {e : Ending} {w' : World} (h : RefP rb gs gp k E.room E.th P w how x E.top E.bot E.sl p e w') : RefQ rb gs gp D k w e w' := by
  obtain ⟨he, hr, hg⟩ := h
  have h1 : howD D k = how := by unfold howD; rw [hc, hs]
  have h2 : gotD D k = x := by unfold gotD; rw [hc, hs]; exact hx.symm
  have h3 : stepD D k = { E with cl := updC D.cl k (if how = 0 then c' else Cl.out) } := by unfold stepD; rw [hc, hs]
  refine ⟨by rw [h1, h2]; exact he, ⟨_, by rw [h3]; exact hr, fun j hj => ?_⟩, hg⟩
  rw [h3] at hj ⊢
  show PartyOf (updC D.cl k _ j) _
  by_cases q : j = k
  · subst q; rw [updC_same, updP_same]; exact hp
  · rw [updC_other _ _ q, updP_other _ _ q]; exact hrel j (by rw [← hth]; exact hj)
theorem party_out : PartyOf Cl.out Pt.out := ⟨rfl, rfl, rfl, fun a => absurd a (by simp [Cl.out]), fun a => absurd a (by simp [Cl.out])⟩
theorem refstep_any {rb gs gp : Nat} {D : Dq} {w : World} {n : Nat} (k : Nat) (h : RfD rb gs gp D w) (hN : Nice D n) (hn : n ≤ 900000) (hk : k ≤ D.th) (hb : (D.cl k).nx ≠ 0) :
    Calls Try.prog 39 #[.pointer (some ⟨rb, 0, none⟩), .int .i64 k] w (RefQ rb gs gp D k w) := by
  obtain ⟨P, hv, hrel⟩ := h.v
  have t0 := hN.t0; have t1 := hN.t1; have b1 := hN.b1; have b0 := hN.bot
  have hpk := hrel k hk
  obtain ⟨c, hc⟩ : ∃ c, D.cl k = c := ⟨_, rfl⟩
  obtain ⟨p, hP⟩ : ∃ p, P k = p := ⟨_, rfl⟩
  rw [hc, hP] at hpk
  rw [hc] at hb
  obtain ⟨nx, u, t, x, q⟩ := c
  obtain ⟨ca, st, pb, pT, px, pq⟩ := p
  obtain ⟨pc, pX, pw, pB, pTT⟩ := hpk
  dsimp only at pc pX pw pB pTT hb
  subst pX pw
  have nx13 : nx ≤ 13 := by
    by_cases k0 : k = 0
    · subst k0; have := hN.wk; rw [hc] at this; dsimp only at this; omega
    · have := hN.tk k (by omega); rw [hc] at this; dsimp only at this; omega
  have w2 : 2 ≤ nx → nx ≤ 4 → 0 ≤ u ∧ u ≤ n := fun a b => by
    have k0 : k = 0 := by
      by_cases e : k = 0
      · exact e
      · have := hN.tk k (by omega); rw [hc] at this; dsimp only at this; omega
    subst k0; have := hN.w2; rw [hc] at this; exact this a b
  have w0 : nx = 5 → 0 ≤ D.bot := fun a => by
    have k0 : k = 0 := by
      by_cases e : k = 0
      · exact e
      · have := hN.tk k (by omega); rw [hc] at this; dsimp only at this; omega
    subst k0; have := hN.w0; rw [hc] at this; exact this (by dsimp only; omega)
  have w6 : 6 ≤ nx → nx ≤ 9 → D.bot = u ∧ -1 ≤ u ∧ u ≤ n ∧ (7 ≤ nx → nx ≤ 8 → 0 ≤ t ∧ t ≤ u) := fun a b => by
    have k0 : k = 0 := by
      by_cases e : k = 0
      · exact e
      · have := hN.tk k (by omega); rw [hc] at this; dsimp only at this; omega
    subst k0
    have h6 := hN.w6; have h7 := hN.w7
    rw [hc] at h6 h7
    dsimp only at h6 h7
    obtain ⟨x1, x2, x3⟩ := h6 (by omega)
    exact ⟨x1, x2, x3, h7⟩
  have t11 : 11 ≤ nx → 0 ≤ t ∧ t ≤ n := fun a => by
    have k0 : 1 ≤ k := by
      by_cases e : k = 0
      · subst e; have := hN.wk; rw [hc] at this; dsimp only at this; omega
      · omega
    have := hN.t11 k k0; rw [hc] at this; exact this a
  match nx, hb, nx13 with
  | 1, _, _ =>
    cases pc
    exact (ref_1 k pb pT px pq hv hk hP).mono fun e w' h => RefQ.mk hc rfl hrel rfl rfl ⟨rfl, rfl, rfl, fun _ _ => rfl, fun a => absurd a (by simp)⟩ h
  | 2, _, _ =>
    cases pc
    have := w2 (by omega) (by omega)
    obtain rfl := pB (by simp) (by simp)
    by_cases q : (D.room : Int) ≤ pb - D.top
    · exact (ref_2y k pb pT px pq hv hk hP (by omega) (by omega) q).mono fun e w' h => RefQ.mk (how := 4) (E := D) (c' := ⟨3, pb, D.top, px, pq⟩) hc (by simp only [stepW]; rw [if_pos q]) hrel rfl rfl party_out h
    · exact (ref_2n k pb pT px pq hv hk hP (by omega) (by omega) q).mono fun e w' h => RefQ.mk hc (by simp only [stepW]; rw [if_neg q]) hrel rfl rfl ⟨rfl, rfl, rfl, fun _ _ => rfl, fun a => absurd a (by simp)⟩ h
  | 3, _, _ =>
    cases pc
    have := w2 (by omega) (by omega)
    obtain rfl := pB (by simp) (by simp)
    exact (ref_3 k pb pT px pq hv hk hP (by omega)).mono fun e w' h => RefQ.mk hc rfl hrel rfl rfl ⟨rfl, rfl, rfl, fun _ _ => rfl, fun a => absurd a (by simp)⟩ h
  | 4, _, _ =>
    cases pc
    have := w2 (by omega) (by omega)
    obtain rfl := pB (by simp) (by simp)
    exact (ref_4 k pb pT px pq hv hk hP (by omega)).mono fun e w' h => RefQ.mk hc rfl hrel rfl rfl party_out h
  | 5, _, _ =>
    cases pc
    have := w0 rfl
    obtain rfl := pTT (by simp)
    exact (ref_5 k pb pT px pq hv hk hP (by omega)).mono fun e w' h => RefQ.mk hc rfl hrel rfl rfl ⟨rfl, rfl, rfl, fun _ _ => rfl, fun _ => rfl⟩ h
  | 6, _, _ =>
    cases pc
    obtain rfl := pB (by simp) (by simp)
    by_cases q : pb < D.top
    · exact (ref_6y k pb pT px pq hv hk hP q).mono fun e w' h => RefQ.mk hc (by simp only [stepW]; rw [if_pos q]) hrel rfl rfl ⟨rfl, rfl, rfl, fun _ _ => rfl, fun _ => rfl⟩ h
    · exact (ref_6n k pb pT px pq hv hk hP q).mono fun e w' h => RefQ.mk hc (by simp only [stepW]; rw [if_neg q]) hrel rfl rfl ⟨rfl, rfl, rfl, fun _ _ => rfl, fun _ => rfl⟩ h
  | 7, _, _ =>
    cases pc
    have h6 := w6 (by omega) (by omega)
    have h7 := h6.2.2.2 (by omega) (by omega)
    obtain rfl := pB (by simp) (by simp)
    obtain rfl := pTT (by simp)
    by_cases q : pT < pb
    · exact (ref_7y k pb pT px pq hv hk hP (by omega) q).mono fun e w' h => RefQ.mk (how := 1) (E := D) (c' := ⟨8, pb, pT, D.sl (slotN D.room pb), pq⟩) hc (by simp only [stepW]; rw [if_pos q]) hrel rfl rfl party_out h
    · exact (ref_7n k pb pT px pq hv hk hP (by omega) q).mono fun e w' h => RefQ.mk hc (by simp only [stepW]; rw [if_neg q]) hrel rfl rfl ⟨rfl, rfl, rfl, fun _ _ => rfl, fun _ => rfl⟩ h
  | 8, _, _ =>
    cases pc
    have h6 := w6 (by omega) (by omega)
    have h7 := h6.2.2.2 (by omega) (by omega)
    obtain rfl := pB (by simp) (by simp)
    obtain rfl := pTT (by simp)
    by_cases q : D.top = pT
    · exact (ref_8y k pb pT px pq hv hk hP (by omega) q).mono fun e w' h => RefQ.mk (E := { D with top := pT + 1 }) (c' := ⟨9, pb, pT, px, true⟩) hc (by simp [stepW, q]) hrel rfl rfl ⟨rfl, rfl, rfl, fun _ _ => rfl, fun _ => rfl⟩ h
    · exact (ref_8n k pb pT px pq hv hk hP q).mono fun e w' h => RefQ.mk (E := D) (c' := ⟨9, pb, pT, px, false⟩) hc (by simp [stepW, q]) hrel rfl rfl ⟨rfl, rfl, rfl, fun _ _ => rfl, fun _ => rfl⟩ h
  | 9, _, _ =>
    cases pc
    have h6 := w6 (by omega) (by omega)
    obtain rfl := pB (by simp) (by simp)
    cases pq with
    | true => exact (ref_9t k pb pT px hv hk hP (by omega)).mono fun e w' h => RefQ.mk hc rfl hrel rfl rfl party_out h
    | false => exact (ref_9f k pb pT px hv hk hP (by omega)).mono fun e w' h => RefQ.mk hc rfl hrel rfl rfl party_out h
  | 10, _, _ =>
    cases pc
    exact (ref_10 k pb pT px pq hv hk hP).mono fun e w' h => RefQ.mk hc rfl hrel rfl rfl ⟨rfl, rfl, rfl, fun _ a => absurd a (by simp), fun _ => rfl⟩ h
  | 11, _, _ =>
    cases pc
    obtain rfl := pTT (by simp)
    by_cases q : D.bot ≤ pT
    · exact (ref_11y k pb pT px pq hv hk hP q).mono fun e w' h => RefQ.mk (how := 3) (E := D) (c' := ⟨12, D.bot, pT, px, pq⟩) hc (by simp only [stepW]; rw [if_pos q]) hrel rfl rfl party_out h
    · exact (ref_11n k pb pT px pq hv hk hP q).mono fun e w' h => RefQ.mk hc (by simp only [stepW]; rw [if_neg q]) hrel rfl rfl ⟨rfl, rfl, rfl, fun _ a => absurd a (by simp), fun _ => rfl⟩ h
  | 12, _, _ =>
    cases pc
    have := t11 (by omega)
    obtain rfl := pTT (by simp)
    exact (ref_12 k pb pT px pq hv hk hP (by omega)).mono fun e w' h => RefQ.mk hc rfl hrel rfl rfl ⟨rfl, rfl, rfl, fun _ a => absurd a (by simp), fun _ => rfl⟩ h
  | 13, _, _ =>
    cases pc
    have := t11 (by omega)
    obtain rfl := pTT (by simp)
    by_cases q : D.top = pT
    · exact (ref_13y k pb pT px pq hv hk hP (by omega) q).mono fun e w' h => RefQ.mk (how := 1) (E := { D with top := pT + 1 }) (c' := ⟨14, u, pT, px, pq⟩) hc (by simp [stepW, q]) hrel rfl rfl party_out h
    · exact (ref_13n k pb pT px pq hv hk hP q).mono fun e w' h => RefQ.mk (how := 5) (E := D) (c' := ⟨14, u, pT, px, pq⟩) hc (by simp [stepW, q]) hrel rfl rfl party_out h
  | 0, hb, _ => exact absurd rfl hb
  | m + 14, _, h => exact absurd h (by omega)
section
variable {rb gs gp : Nat} {D : Dq} {w : World}
set_option maxRecDepth 100000 in
set_option maxHeartbeats 4000000 in
theorem refstep_out (k : Int) (h : RfD rb gs gp D w) (hk : inS k (D.th + 1) = false) :
    Calls Try.prog 39 #[.pointer (some ⟨rb, 0, none⟩), .int .i64 k] w fun e w' => e = .returned (.tuple #[.int .i64 0, .int .i64 0, .int .i64 1]) ∧ w = w' := by
  obtain ⟨P, hv, hrel⟩ := h.v
  obtain ⟨o0, o1, o2, o3, o4⟩ := hv.cells
  clear hv hrel h
  by_cases k0 : k < 0
  · go_enter Try.func39, Try.ntmps39
    go_wp2_with fail
    go_ret3
    exact ⟨rfl, rfl⟩
  · have k1 : (D.th : Int) + 1 ≤ k := by simp [inS] at hk; omega
    have k2 : ¬ k < 0 := k0
    clear hk
    go_enter Try.func39, Try.ntmps39
    go_wp2_with fail
    go_ret3
    exact ⟨rfl, rfl⟩
set_option maxRecDepth 100000 in
set_option maxHeartbeats 4000000 in
theorem refstep_idle (k : Nat) (h : RfD rb gs gp D w) (hk : k ≤ D.th) (hq : (D.cl k).nx = 0) :
    Calls Try.prog 39 #[.pointer (some ⟨rb, 0, none⟩), .int .i64 k] w fun e w' => e = .returned (.tuple #[.int .i64 0, .int .i64 0, .int .i64 5]) ∧ But Nob w w' := by
  obtain ⟨P, hv, hrel⟩ := h.v
  obtain ⟨o0, o1, o2, o3, o4⟩ := hv.cells
  obtain ⟨c0, c1, c2, c3, c4, c5⟩ := hv.party hk
  have hcode := (hrel k hk).code
  rw [hq] at hcode
  have e0 : (P k).ca = 0 := congrArg Prod.fst hcode
  have e1 : (P k).st = 0 := congrArg Prod.snd hcode
  rw [e0] at c0; rw [e1] at c1
  have c0 : w.cell? ⟨gp, k * 6, none⟩ = some (.int .i64 0) := c0
  have c1 : w.cell? ⟨gp, k * 6 + 1, none⟩ = some (.int .i64 0) := c1
  have k0 : (0 : Int) ≤ (k : Int) := by omega
  have k1 : (k : Int) < (D.th : Int) + 1 := by omega
  have k2 : decide (D.th + 1 ≤ k) = false := by simp; omega
  have k4 : ¬ (D.th : Int) + 1 ≤ (k : Int) := by omega
  clear hv hrel h hq hcode e0 e1
  go_enter Try.func39, Try.ntmps39
  go_wp2_with fail
  go_ret3
  exact ⟨rfl, (But.refl _ _).alloc _⟩
end
end Go.Proofs.Ytfejimlfnelhhaa
