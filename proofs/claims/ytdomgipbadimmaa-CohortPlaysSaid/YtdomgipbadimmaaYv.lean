/- A region that draws its order, by an invariant over what has come up: one step for each operation, whatever the order. -/
import Derived.Orders
namespace Go.Proofs.Ytdomgipbadimmaa
section
variable {P : Program} {ops : Array Oper} {Q : Exit → Act → World → Prop} {md : Region.Mode}

theorem count_set {L : List Bool} : ∀ {i : Nat}, L[i]? = some false → (L.set i true).count false + 1 = L.count false := by
  induction L with
  | nil => intro i h; simp at h
  | cons b t ih =>
    intro i h
    cases i with
    | zero => simp at h; subst h; simp
    | succ i =>
      simp at h
      have := ih h
      simp only [List.set_cons_succ, List.count_cons]
      omega
theorem free_of_ready {L : Array Bool} {i : Nat} (h : i ∈ Region.ready md ops L) : L.toList[i]? = some false := by
  unfold Region.ready at h
  rw [List.mem_filter] at h
  have h1 := h.2
  rw [Bool.and_eq_true] at h1
  have h2 : L.getD i true = false := by simpa using h1.1
  rw [Array.getD_eq_getD_getElem?] at h2
  rw [Array.getElem?_toList]
  cases hq : L[i]? with
  | none => rw [hq] at h2; cases h2
  | some b => rw [hq] at h2; exact congrArg some h2
theorem wpAny_inv {J : Array Bool → Act → World → Prop}
    (hs : ∀ L a w, J L a w → ∀ i ∈ Region.ready md ops L, wpOp P ops Q i (fun a' w' => J (L.setIfInBounds i true) a' w') a w)
    (hd : ∀ L a w, J L a w → Region.ready md ops L = [] → Q .normal a w) :
    ∀ (fuel : Nat) (L : Array Bool) (a : Act) (w : World), L.toList.count false ≤ fuel → J L a w → wpAny P md ops Q fuel L a w
  | 0, L, a, w, hc, hj => by
    have hr : Region.ready md ops L = [] := by
      cases h : Region.ready md ops L with
      | nil => rfl
      | cons i t =>
        have hi : i ∈ Region.ready md ops L := by rw [h]; exact List.mem_cons_self
        have := count_set (free_of_ready hi)
        omega
    exact ⟨hr, hd L a w hj hr⟩
  | fuel + 1, L, a, w, hc, hj =>
    ⟨fun hr => hd L a w hj hr, fun i hi => wpOp_mono (fun a' w' h => wpAny_inv hs hd fuel _ a' w' (by
      have := count_set (free_of_ready hi)
      rw [Array.toList_setIfInBounds]
      omega) h) (hs L a w hj i hi)⟩
theorem wp_region_inv {id : Nat} {a : Act} {w : World} {J : Array Bool → Act → World → Prop} (hm : P.follows .mixedOrders = true)
    (h0 : J (Array.replicate ops.size false) a { w with drawn := w.drawn + 1 })
    (hs : ∀ L a w, J L a w → ∀ i ∈ Region.ready .any ops L, wpOp P ops Q i (fun a' w' => J (L.setIfInBounds i true) a' w') a w)
    (hd : ∀ L a w, J L a w → Region.ready .any ops L = [] → Q .normal a w) : (Code.region id ops true).wp P Q a w :=
  wp_region_any hm (wpAny_inv hs hd _ _ _ _ (by simp) h0)
end
end Go.Proofs.Ytdomgipbadimmaa
