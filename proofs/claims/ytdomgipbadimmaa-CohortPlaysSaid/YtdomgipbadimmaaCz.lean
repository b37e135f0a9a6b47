/- A drawn region, by what holds whatever has come up: the operations' values, and the world (layer 14). -/
import Derived.Test.YtdomgipbadimmaaYv
import Derived.Test.YtdomgipbadimmaaBu
import Derived.RegionTactic
namespace Go.Proofs.Ytdomgipbadimmaa
open Go.RowKit
set_option maxRecDepth 100000

section
variable {P : Program} {ops : Array Oper} {md : Region.Mode}
/-- An operation has come up. -/
def OnL (L : Array Bool) (k : Nat) : Prop := L[k]? = some true
theorem onL_set {L : Array Bool} {i k : Nat} (h : OnL (L.setIfInBounds i true) k) : k = i ∨ OnL L k := by
  unfold OnL at *
  rw [Array.getElem?_setIfInBounds] at h
  by_cases e : i = k
  · exact .inl e.symm
  · rw [if_neg e] at h; exact .inr h
theorem onL_mono {L : Array Bool} {i k : Nat} (h : OnL L k) : OnL (L.setIfInBounds i true) k := by
  unfold OnL at *
  rw [Array.getElem?_setIfInBounds]
  by_cases e : i = k
  · subst e
    rw [if_pos rfl, if_pos (Array.getElem?_eq_some_iff.1 h).1]
  · rw [if_neg e]; exact h
theorem ready_not {L : Array Bool} {i : Nat} (h : i ∈ Region.ready md ops L) : ¬ OnL L i := fun q => by
  have := (mem_ready.1 h).1
  unfold OnL at q
  rw [Array.getD_eq_getD_getElem?, q] at this; cases this
theorem ready_lt {L : Array Bool} {i : Nat} (h : i ∈ Region.ready md ops L) : i < ops.size := by
  obtain ⟨_, o, ho, _⟩ := mem_ready.1 h
  exact (Array.getElem?_eq_some_iff.1 ho).1
/-- What must have come up ahead of it. -/
theorem ready_dep {L : Array Bool} {i : Nat} (h : i ∈ Region.ready md ops L) (k : Nat) (hd : (ops[i]?.map fun o => o.after.toList.any fun e => e.on == k && Region.binds md e) = some true) : OnL L k := by
  obtain ⟨_, o, ho, ha⟩ := mem_ready.1 h
  rw [ho] at hd
  simp only [Option.map_some, Option.some.injEq, List.any_eq_true, Bool.and_eq_true, beq_iff_eq] at hd
  obtain ⟨e, he, rfl, hb⟩ := hd
  have := ha e (by simpa using he) hb
  unfold OnL
  rw [Array.getD_eq_getD_getElem?] at this
  cases hq : L[e.on]? with
  | none => rw [hq] at this; cases this
  | some b => rw [hq] at this; exact congrArg some this
theorem ready_all {L : Array Bool} (hs : L.size = ops.size) (hr : Region.ready md ops L = [])
    (hd : ((List.range ops.size).all fun k => (ops[k]?.map fun o => o.after.all fun e => !(Region.binds md e) || decide (e.on < k)).getD false) = true) : ∀ k, k < ops.size → OnL L k := by
  intro k
  induction k using Nat.strongRecOn with
  | _ k ih =>
    intro hk
    have h1 := List.all_eq_true.1 hd k (List.mem_range.2 hk)
    obtain ⟨o, ho⟩ : ∃ o, ops[k]? = some o := ⟨_, Array.getElem?_eq_getElem hk⟩
    rw [ho] at h1
    simp only [Option.map_some, Option.getD_some, Array.all_eq_true_iff_forall_mem] at h1
    by_cases hon : OnL L k
    · exact hon
    · exfalso
      have hm : k ∈ Region.ready md ops L := by
        refine mem_ready.2 ⟨?_, o, ho, fun e he hb => ?_⟩
        · have hkl : k < L.size := by omega
          rw [Array.getD_eq_getD_getElem?, Array.getElem?_eq_getElem hkl]
          unfold OnL at hon
          rw [Array.getElem?_eq_getElem hkl] at hon
          cases hb : L[k] with
          | false => rfl
          | true => rw [hb] at hon; exact absurd rfl hon
        · have := h1 e he
          rw [hb] at this
          have hlt : e.on < k := by simpa using this
          have := ih e.on hlt (by omega)
          unfold OnL at this
          rw [Array.getD_eq_getD_getElem?, this]; rfl
      rw [hr] at hm; cases hm
theorem wp_region_steps {id : Nat} {a : Act} {w : World} {Q : Exit → Act → World → Prop} {J : Array Bool → Act → World → Prop} (hm : P.follows .mixedOrders = true)
    (h0 : J (Array.replicate ops.size false) a { w with drawn := w.drawn + 1 })
    (hs : ∀ L a w, J L a w → ∀ i o, ops[i]? = some o → i ∈ Region.ready .any ops L → ∀ K' : Act → World → Prop, (∀ a' w', J (L.setIfInBounds i true) a' w' → K' a' w') → if Region.wanted o (yielded ops a.tmps) = true then Oper.wp P o a w K' Q else K' (a.put o.dst undef) w)
    (hd : ∀ L a w, J L a w → (∀ k, k < ops.size → OnL L k) → Q .normal a w) (hz : ∀ L a w, J L a w → L.size = ops.size)
    (ht : ((List.range ops.size).all fun k => (ops[k]?.map fun o => o.after.all fun e => !(Region.binds .any e) || decide (e.on < k)).getD false) = true) : (Code.region id ops true).wp P Q a w :=
  wp_region_inv hm h0 (fun L a w hj i hi => by
    obtain ⟨_, o, ho, _⟩ := mem_ready.1 hi
    exact wpOp_step ho fun K' hK => hs L a w hj i o ho hi K' hK) (fun L a w hj hr => hd L a w hj (ready_all (hz L a w hj) hr ht))
end
/-- A slot turned. -/
def updV (v : Nat → Value) (s : Nat) (x : Value) : Nat → Value := fun k => if k = s then x else v k
theorem updV_same (v : Nat → Value) (s : Nat) (x : Value) : updV v s x s = x := by unfold updV; rw [if_pos rfl]
theorem updV_other (v : Nat → Value) {s k : Nat} (x : Value) (h : k ≠ s) : updV v s x k = v k := by unfold updV; rw [if_neg h]
/-- All that must have come up ahead of it. -/
theorem ready_deps {ops : Array Oper} {md : Region.Mode} {L : Array Bool} {i : Nat} (h : i ∈ Region.ready md ops L) (ks : List Nat) (hd : (ops[i]?.map fun o => ks.all fun k => o.after.toList.any fun e => e.on == k && Region.binds md e) = some true) : ∀ k, k ∈ ks → OnL L k := fun k hk => by
  obtain ⟨_, o, ho, _⟩ := mem_ready.1 h
  refine ready_dep h k ?_
  rw [ho] at hd ⊢
  simp only [Option.map_some, Option.some.injEq] at hd ⊢
  exact List.all_eq_true.1 hd k hk
/-- What is listed has all listed that it stands behind. -/
def ClL (md : Region.Mode) (ops : Array Oper) (L : Array Bool) : Prop := ∀ k o, ops[k]? = some o → OnL L k → ∀ e ∈ o.after, Region.binds md e = true → OnL L e.on
theorem clL_set {md : Region.Mode} {ops : Array Oper} {L : Array Bool} {i : Nat} (h : ClL md ops L) (hi : i ∈ Region.ready md ops L) : ClL md ops (L.setIfInBounds i true) := fun k o ho hk e he hb => by
  rcases onL_set hk with q | q
  · subst q
    obtain ⟨_, o', ho', ha⟩ := mem_ready.1 hi
    have hoo : o' = o := by rw [ho] at ho'; exact (Option.some.inj ho').symm
    subst hoo
    have := ha e he hb
    refine onL_mono ?_
    unfold OnL
    rw [Array.getD_eq_getD_getElem?] at this
    cases hq : L[e.on]? with
    | none => rw [hq] at this; cases this
    | some b => rw [hq] at this; exact congrArg some this
  · exact onL_mono (h k o ho q e he hb)
theorem clL_dep {md : Region.Mode} {ops : Array Oper} {L : Array Bool} (h : ClL md ops L) (k j : Nat) (hd : (ops[k]?.map fun o => o.after.toList.any fun e => e.on == j && Region.binds md e) = some true) (hk : OnL L k) : OnL L j := by
  cases ho : ops[k]? with
  | none => rw [ho] at hd; cases hd
  | some o =>
    rw [ho] at hd
    simp only [Option.map_some, Option.some.injEq, List.any_eq_true, Bool.and_eq_true, beq_iff_eq] at hd
    obtain ⟨e, he, rfl, hb⟩ := hd
    exact h k o ho hk e (by simpa using he) hb
theorem wp_region_steps2 {P : Program} {ops : Array Oper} {id : Nat} {a : Act} {w : World} {Q : Exit → Act → World → Prop} {J : Array Bool → Act → World → Prop} (hm : P.follows .mixedOrders = true)
    (h0 : J (Array.replicate ops.size false) a { w with drawn := w.drawn + 1 })
    (hs : ∀ L a w, J L a w → ClL .any ops L → ∀ i o, ops[i]? = some o → i ∈ Region.ready .any ops L → ∀ K' : Act → World → Prop, (∀ a' w', J (L.setIfInBounds i true) a' w' → K' a' w') → if Region.wanted o (yielded ops a.tmps) = true then Oper.wp P o a w K' Q else K' (a.put o.dst undef) w)
    (hd : ∀ L a w, J L a w → (∀ k, k < ops.size → OnL L k) → Q .normal a w) (hz : ∀ L a w, J L a w → L.size = ops.size)
    (ht : ((List.range ops.size).all fun k => (ops[k]?.map fun o => o.after.all fun e => !(Region.binds .any e) || decide (e.on < k)).getD false) = true) : (Code.region id ops true).wp P Q a w :=
  wp_region_steps (J := fun L a w => J L a w ∧ ClL .any ops L) hm ⟨h0, fun k o _ hk => by
      unfold OnL at hk
      rw [Array.getElem?_replicate] at hk
      split at hk <;> cases hk⟩
    (fun L a w hj i o ho hi K' hK => hs L a w hj.1 hj.2 i o ho hi K' fun a' w' h => hK a' w' ⟨h, clL_set hj.2 hi⟩) (fun L a w hj ha => hd L a w hj.1 ha) (fun L a w hj => hz L a w hj.1) ht
/-- What holds whatever has come up: each operation's slot has its value; of the world what WI says. -/
structure DJ (N : Nat) (slot : Nat → Nat) (val : Nat → Value) (WI : Array Bool → World → Prop) (L : Array Bool) (v : Nat → Value) (w : World) : Prop where
  sz : L.size = N
  pv : ∀ o, o < N → OnL L o → v (slot o) = val o
  wi : WI L w
theorem DJ.step {N : Nat} {slot : Nat → Nat} {val : Nat → Value} {WI : Array Bool → World → Prop} {L : Array Bool} {v : Nat → Value} {w w' : World} (h : DJ N slot val WI L v w) (hinj : ∀ o, o < N → ∀ p, p < N → slot o = slot p → o = p) {o : Nat} (ho : o < N) (hw : WI (L.setIfInBounds o true) w') :
    DJ N slot val WI (L.setIfInBounds o true) (updV v (slot o) (val o)) w' :=
  ⟨by simpa using h.sz, fun k hk hon => by
    by_cases e : k = o
    · subst e; exact updV_same _ _ _
    · rw [updV_other _ _ fun q => e (hinj k hk o ho q)]
      rcases onL_set hon with q | q
      · exact absurd q e
      · exact h.pv k hk q, hw⟩
theorem onL_here {L : Array Bool} {i : Nat} (h : i < L.size) : OnL (L.setIfInBounds i true) i := by
  unfold OnL; rw [Array.getElem?_setIfInBounds, if_pos rfl, if_pos h]
theorem onL_none (N k : Nat) : ¬ OnL (Array.replicate N false) k := fun h => by
  unfold OnL at h
  rw [Array.getElem?_replicate] at h
  split at h <;> cases h
/-- Three operations turn the world, one behind the other; the last one behind all. -/
structure WI3 (N e1 e2 e3 : Nat) (W0 W1 W2 W3 : World) (L : Array Bool) (w : World) : Prop where
  cl : OnL L e3 → ∀ k, k < N → OnL L k
  c2 : OnL L e2 → OnL L e1
  w0 : ¬ OnL L e1 → w = W0
  w1 : OnL L e1 → ¬ OnL L e2 → w = W1
  w2 : OnL L e2 → ¬ OnL L e3 → w = W2
  w3 : OnL L e3 → w = W3
section
variable {N e1 e2 e3 : Nat} {W0 W1 W2 W3 w : World} {L : Array Bool}
theorem WI3.start : WI3 N e1 e2 e3 W0 W1 W2 W3 (Array.replicate N false) W0 :=
  ⟨fun h => absurd h (onL_none _ _), fun h => absurd h (onL_none _ _), fun _ => rfl, fun h => absurd h (onL_none _ _), fun h => absurd h (onL_none _ _), fun h => absurd h (onL_none _ _)⟩
/-- Of the worlds ahead of the last one something holds: then of this. -/
theorem WI3.here (h : WI3 N e1 e2 e3 W0 W1 W2 W3 L w) {o : Nat} (ho : o < N) (hn : ¬ OnL L o) {S : World → Prop} (s0 : S W0) (s1 : S W1) (s2 : S W2) : S w := by
  have n3 : ¬ OnL L e3 := fun q => hn (h.cl q o ho)
  by_cases q1 : OnL L e1
  · by_cases q2 : OnL L e2
    · rw [h.w2 q2 n3]; exact s2
    · rw [h.w1 q1 q2]; exact s1
  · rw [h.w0 q1]; exact s0
theorem WI3.pure (h : WI3 N e1 e2 e3 W0 W1 W2 W3 L w) {o : Nat} (ho : o < N) (hn : ¬ OnL L o) (n1 : o ≠ e1) (n2 : o ≠ e2) (n3 : o ≠ e3) : WI3 N e1 e2 e3 W0 W1 W2 W3 (L.setIfInBounds o true) w := by
  have back : ∀ k, k ≠ o → OnL (L.setIfInBounds o true) k → OnL L k := fun k hk q => (onL_set q).resolve_left hk
  have b1 := back e1 (fun e => n1 e.symm); have b2 := back e2 (fun e => n2 e.symm); have b3 := back e3 (fun e => n3 e.symm)
  exact ⟨fun q => absurd (h.cl (b3 q) o ho) hn, fun q => onL_mono (h.c2 (b2 q)), fun q => h.w0 fun r => q (onL_mono r), fun q r => h.w1 (b1 q) fun s => r (onL_mono s), fun q r => h.w2 (b2 q) fun s => r (onL_mono s), fun q => h.w3 (b3 q)⟩
theorem WI3.one (h : WI3 N e1 e2 e3 W0 W1 W2 W3 L w) (hs : e1 < L.size) (h1 : e1 < N) (hn : ¬ OnL L e1) (n2 : e1 ≠ e2) (n3 : e1 ≠ e3) : w = W0 ∧ WI3 N e1 e2 e3 W0 W1 W2 W3 (L.setIfInBounds e1 true) W1 := by
  have m2 : ¬ OnL (L.setIfInBounds e1 true) e2 := fun q => hn (h.c2 ((onL_set q).resolve_left fun e => n2 e.symm))
  have m3 : ¬ OnL (L.setIfInBounds e1 true) e3 := fun q => hn (h.cl ((onL_set q).resolve_left fun e => n3 e.symm) e1 h1)
  exact ⟨h.w0 hn, fun q => absurd q m3, fun q => absurd q m2, fun q => absurd (onL_here hs) q, fun _ _ => rfl, fun q => absurd q m2, fun q => absurd q m3⟩
theorem WI3.two (h : WI3 N e1 e2 e3 W0 W1 W2 W3 L w) (hs : e2 < L.size) (h2 : e2 < N) (hn : ¬ OnL L e2) (ho : OnL L e1) (n3 : e2 ≠ e3) : w = W1 ∧ WI3 N e1 e2 e3 W0 W1 W2 W3 (L.setIfInBounds e2 true) W2 := by
  have m3 : ¬ OnL (L.setIfInBounds e2 true) e3 := fun q => hn (h.cl ((onL_set q).resolve_left fun e => n3 e.symm) e2 h2)
  exact ⟨h.w1 ho hn, fun q => absurd q m3, fun _ => onL_mono ho, fun q => absurd (onL_mono ho) q, fun _ q => absurd (onL_here hs) q, fun _ _ => rfl, fun q => absurd q m3⟩
theorem WI3.three (h : WI3 N e1 e2 e3 W0 W1 W2 W3 L w) (hs : e3 < L.size) (hn : ¬ OnL L e3) (hall : ∀ k, k < N → k ≠ e3 → OnL L k) (h1 : e1 < N) (h2 : e2 < N) (n1 : e1 ≠ e3) (n2 : e2 ≠ e3) : w = W2 ∧ WI3 N e1 e2 e3 W0 W1 W2 W3 (L.setIfInBounds e3 true) W3 := by
  have o1 := hall e1 h1 n1; have o2 := hall e2 h2 n2
  refine ⟨h.w2 o2 hn, fun _ k hk => ?_, fun _ => onL_mono o1, fun q => absurd (onL_mono o1) q, fun _ q => absurd (onL_mono o2) q, fun _ q => absurd (onL_here hs) q, fun _ => rfl⟩
  by_cases e : k = e3
  · subst e; exact onL_here hs
  · exact onL_mono (hall k hk e)
end
end Go.Proofs.Ytdomgipbadimmaa
