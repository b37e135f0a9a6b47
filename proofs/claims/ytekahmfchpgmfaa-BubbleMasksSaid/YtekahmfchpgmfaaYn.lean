/- Burst, then Regen where it was, plainly (layer 13). -/
import Derived.Test.YtekahmfchpgmfaaYf
namespace Go.Proofs.Ytekahmfchpgmfaa

theorem wayK_ups {bs cs : List Bub} (hl : cs.length = bs.length) (hu : ∀ b : Int, inB bs b = true → (atB cs b).up = (atB bs b).up) : ∀ (k : Nat) (b : Int), wayK cs k b = wayK bs k b
  | 0, _ => rfl
  | k + 1, b => by
    unfold wayK
    have hi : inB cs b = inB bs b := by unfold inB; rw [hl]
    rw [hi]
    cases hb : inB bs b with
    | false => rfl
    | true => simp only [if_true]; rw [hu b hb, wayK_ups hl hu k]
theorem inside_ups {bs cs : List Bub} (hl : cs.length = bs.length) (hu : ∀ (j : Nat) (z : Bub), bs[j]? = some z → ∃ y, cs[j]? = some y ∧ y.up = z.up) (i b : Int) : insideP cs i b = insideP bs i b := by
  unfold insideP way
  rw [wayK_ups hl fun b hb => ?_]
  obtain ⟨j, z, rfl, hz⟩ := inB_nat hb
  obtain ⟨y, hy, e⟩ := hu j z hz
  rw [atB_of hz, atB_of hy, e]
section
variable {bs : List Bub} {b : Nat} {x : Bub}
theorem burst_ent (hI : InvB bs) (hx : bs[b]? = some x) (hs : x.state = 3) (j : Nat) : (burstT bs (b : Int))[j]? = if j = b then some { x with state := 4 } else if j < bs.length ∧ ownAsk bs (b : Int) j = true then (bs[j]?).map (fun y => { y with state := 3, home := x.home }) else bs[j]? := by
  rw [burst_same hI hx hs]
  exact burst_at hx _ _ (own_not hI hx) _ (Nat.le_refl _) j
theorem burst_len (hI : InvB bs) (hx : bs[b]? = some x) (hs : x.state = 3) : (burstT bs (b : Int)).length = bs.length := by
  rw [burst_same hI hx hs, putOwn_len, List.length_set]
theorem burst_okI (hI : InvB bs) (hx : bs[b]? = some x) (hs : x.state = 3) : InvB (burstT bs (b : Int)) := by
  rw [burst_same hI hx hs]; exact burst_inv hI hx x.home
/-- What Burst, then Regen where it was, leave of each. -/
theorem again_ent (hI : InvB bs) (hx : bs[b]? = some x) (hs : x.state = 3) :
    burstE bs (b : Int) = 0 ∧ regenE (burstT bs (b : Int)) (b : Int) = 0 ∧ (regenT (burstT bs (b : Int)) (b : Int) x.home).length = bs.length ∧
    ∀ (j : Nat) (z : Bub), bs[j]? = some z → ∃ y, (regenT (burstT bs (b : Int)) (b : Int) x.home)[j]? = some y ∧ y.up = z.up ∧ y.mask = z.mask ∧ (y.state = z.state ∨ (y.state = 2 ∧ insideP (regenT (burstT bs (b : Int)) (b : Int) x.home) (j : Int) (b : Int) = true)) ∧ (j = b → y = x) := by
  have he : burstE bs (b : Int) = 0 := by unfold burstE checkE; rw [inB_of hx, atB_of hx, hs]; rfl
  have hl1 := burst_len hI hx hs
  have hI1 := burst_okI hI hx hs
  have hE := burst_ent hI hx hs
  have hx1 : (burstT bs (b : Int))[b]? = some { x with state := 4 } := by rw [hE, if_pos rfl]
  obtain ⟨B1, hB1⟩ : ∃ B1, burstT bs (b : Int) = B1 := ⟨_, rfl⟩
  rw [hB1] at hl1 hI1 hx1 ⊢
  simp only [hB1] at hE
  have hr : regenE B1 (b : Int) = 0 := by unfold regenE checkE; rw [inB_of hx1, atB_of hx1]; rfl
  have hR : ∀ j, (regenT B1 (b : Int) x.home)[j]? = if j = b then some { x with state := 3, home := x.home } else if j < B1.length ∧ inAsk B1 (b : Int) j = true then (B1[j]?).map (fun y => { y with state := 2 }) else B1[j]? := fun j => by
    rw [regen_same hx1 rfl x.home]
    exact regen_at hx1 _ _ (Nat.le_refl _) j
  have hl2 : (regenT B1 (b : Int) x.home).length = bs.length := by
    rw [regen_same hx1 rfl x.home, sealOwn_len, List.length_set, hl1]
  have hxx : ({ x with state := 3, home := x.home } : Bub) = x := by cases x; simp at hs; simp [hs]
  have ups1 : ∀ (j : Nat) (z : Bub), bs[j]? = some z → ∃ y, B1[j]? = some y ∧ y.up = z.up ∧ y.mask = z.mask := fun j z hz => by
    rw [hE]
    by_cases e : j = b
    · subst e; rw [hx] at hz; cases hz; exact ⟨_, if_pos rfl, rfl, rfl⟩
    · rw [if_neg e, hz]
      split
      · exact ⟨_, rfl, rfl, rfl⟩
      · exact ⟨_, rfl, rfl, rfl⟩
  have ups2 : ∀ (j : Nat) (z : Bub), B1[j]? = some z → ∃ y, (regenT B1 (b : Int) x.home)[j]? = some y ∧ y.up = z.up := fun j z hz => by
    rw [hR]
    by_cases e : j = b
    · subst e; rw [hx1] at hz; cases hz; exact ⟨_, if_pos rfl, rfl⟩
    · rw [if_neg e, hz]
      split
      · exact ⟨_, rfl, rfl⟩
      · exact ⟨_, rfl, rfl⟩
  have hin2 : ∀ i : Int, insideP (regenT B1 (b : Int) x.home) i (b : Int) = insideP B1 i (b : Int) := fun i => inside_ups (by rw [hl2, hl1]) ups2 i _
  refine ⟨he, hr, hl2, fun j z hz => ?_⟩
  have hjl := (List.getElem?_eq_some_iff.1 hz).1
  rw [hR, hin2]
  by_cases e : j = b
  · subst e
    rw [hx] at hz; cases hz
    rw [if_pos rfl, hxx]
    exact ⟨x, rfl, rfl, rfl, .inl rfl, fun _ => rfl⟩
  · rw [if_neg e]
    have hj1 := hE j
    rw [if_neg e, hz] at hj1
    cases ha : ownAsk bs (b : Int) j with
    | true =>
      rw [if_pos ⟨hjl, ha⟩] at hj1
      have hy1 : B1[j]? = some { z with state := 3, home := x.home } := hj1
      unfold ownAsk at ha
      rw [atB_of hz, Bool.and_eq_true] at ha
      obtain ⟨h1, h2⟩ := ha
      have hup : z.up = (b : Int) := by simpa using h1
      have hst : z.state = 2 := by simpa using h2
      have hins : insideP B1 (j : Int) (b : Int) = true := by
        unfold insideP
        rw [way_yes hI1 hy1]
        show ((j : Int) :: way B1 z.up).contains (b : Int) = true
        rw [hup, way_yes hI1 hx1]
        simp
      have hask : inAsk B1 (b : Int) j = true := by unfold inAsk; rw [hins, atB_of hy1]; rfl
      rw [if_pos ⟨by rw [hl1]; exact hjl, hask⟩, hy1]
      exact ⟨_, rfl, rfl, rfl, .inl hst.symm, fun q => absurd q e⟩
    | false =>
      rw [if_neg (by rw [ha]; simp)] at hj1
      rw [hj1]
      by_cases hc : j < B1.length ∧ inAsk B1 (b : Int) j = true
      · rw [if_pos hc]
        have hins : insideP B1 (j : Int) (b : Int) = true := by
          have := hc.2
          unfold inAsk at this
          rw [Bool.and_eq_true] at this
          exact this.1
        exact ⟨_, rfl, rfl, rfl, .inr ⟨rfl, hins⟩, fun q => absurd q e⟩
      · rw [if_neg hc]
        exact ⟨z, rfl, rfl, rfl, .inl rfl, fun q => absurd q e⟩
end
end Go.Proofs.Ytekahmfchpgmfaa
