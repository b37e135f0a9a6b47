/- The document's lock beside the code's: whatever is done, both tell the same. -/
import Derived.Test.YtckdabokaelnoaaMy
import Derived.Test.YtckdabokaelnoaaMw
import Derived.Test.YtckdabokaelnoaaMx
namespace Go.Proofs.Ytckdabokaelnoaa
open Go.RowKit

/-- What a party's words say in the document, beside the code's. -/
structure RelP (D : Lk) (R : Rf) (k : Nat) : Prop where
  nx : R.nx k = D.nx k
  wt : R.wt k = D.wt k
  st : R.st k = ((D.cl k).st : Int)
  lo : 0 ≤ R.ps k ∧ R.ps k ≤ 6
  p1 : (D.cl k).st = 1 → R.ps k = ((D.cl k).sp : Int) + 1
  p3 : (D.cl k).st = 3 → R.ps k + 4 = ((D.cl k).sp : Int)
  o1 : (D.cl k).st = 1 → (D.cl k).sp = 3 → R.ox k = (D.cl k).ot
  o3 : (D.cl k).st = 3 → (D.cl k).sp = 7 → R.ox k = (D.cl k).ot
structure RelM (D : Lk) (R : Rf) : Prop where
  tail : R.tail = D.tail
  each : ∀ k, k < D.n → RelP D R k
/-- Only party k's words change, and one other's maybe. -/
theorem RelM.upd {D D' : Lk} {R R' : Rf} {k : Nat} (h : RelM D R) (hn : D'.n = D.n) (ht : R'.tail = D'.tail) (hcl : ∀ j, j ≠ k → D'.cl j = D.cl j) (hst : ∀ j, j ≠ k → R'.st j = R.st j) (hps : ∀ j, j ≠ k → R'.ps j = R.ps j) (hox : ∀ j, j ≠ k → R'.ox j = R.ox j)
    (hnx : ∀ j, j < D.n → R'.nx j = D'.nx j) (hwt : ∀ j, j < D.n → R'.wt j = D'.wt j) (hk : RelP D' R' k) : RelM D' R' := by
  refine ⟨ht, fun j hj => ?_⟩
  rw [hn] at hj
  by_cases e : j = k
  · exact e ▸ hk
  · have J := h.each j hj
    refine ⟨hnx j hj, hwt j hj, ?_, ?_, ?_, ?_, ?_, ?_⟩
    · rw [hst j e, hcl j e]; exact J.st
    · rw [hps j e]; exact J.lo
    · rw [hps j e, hcl j e]; exact J.p1
    · rw [hps j e, hcl j e]; exact J.p3
    · rw [hox j e, hcl j e]; exact J.o1
    · rw [hox j e, hcl j e]; exact J.o3
theorem updF_pt {α : Type} {f g : Nat → α} {n k : Nat} {v : α} (h : ∀ j, j < n → f j = g j) : ∀ j, j < n → updF f k v j = updF g k v j := by
  intro j hj
  by_cases e : j = k
  · subst e; rw [updF_same, updF_same]
  · rw [updF_other _ _ e, updF_other _ _ e]; exact h j hj
section
variable {rb gn gw gs ga gx : Nat} {D : Lk} {R : Rf} {w : World}
theorem stB {D : Lk} {k : Nat} (hk : k < D.n) (ha : (D.cl k).st = 1 ∨ (D.cl k).st = 3) {E : Lk} (he : stepL D k = E) {b : Bool} (hb : decide ((E.cl k).st ≠ (D.cl k).st) = b) : stpB D (k : Int) = b := by
  have hi : isN D (k : Int) := by unfold isN; omega
  have hE : E.n = D.n := by rw [← he]; exact stepL_n D k
  have hi2 : isN E (k : Int) := by unfold isN; omega
  have hs : stpT D (k : Int) = E := by unfold stpT; rw [if_pos ⟨hi, by rw [Int.toNat_natCast]; exact ha⟩, Int.toNat_natCast]; exact he
  unfold stpB; rw [hs]; unfold stI; rw [if_pos hi2, if_pos hi, Int.toNat_natCast, ← hb]
  by_cases e : (E.cl k).st = (D.cl k).st
  · simp [e]
  · have : ((E.cl k).st : Int) ≠ ((D.cl k).st : Int) := by omega
    simp [e, this]
set_option maxHeartbeats 4000000 in
/-- THE DOCUMENT's STEP, beside the code's. -/
theorem rstep_any (k : Nat) (h : RefM rb gn gw gs ga gx D.n R w) (hN : Nice D) (hR : RelM D R) (hk : k < D.n) (ha : (D.cl k).st = 1 ∨ (D.cl k).st = 3) :
    ∃ R', RelM (stepL D k) R' ∧ Calls Try.prog 46 #[.pointer (some ⟨rb, 0, none⟩), .int .i64 k] w (RStQ rb gn gw gs ga gx D.n w (stpB D k) 0 R') := by
  have K := hN.each k hk
  have J := hR.each k hk
  have k1 := K.s1; have k3 := K.s3; have ko1 := K.o1; have ko3 := K.o3
  have j1 := J.p1; have j3 := J.p3; have jo1 := J.o1; have jo3 := J.o3; have js := J.st; have jn := J.nx; have jw := J.wt
  have hnx : ∀ j, j < D.n → R.nx j = D.nx j := fun j hj => (hR.each j hj).nx
  have hwt : ∀ j, j < D.n → R.wt j = D.wt j := fun j hj => (hR.each j hj).wt
  have htl := hR.tail
  have far : ∀ {α : Type} (f : Nat → α) (v : α) (j : Nat), j ≠ k → updF f k v j = f j := fun f v j hj => updF_other _ _ hj
  obtain ⟨s, p, o, hc⟩ : ∃ s p o, D.cl k = ⟨s, p, o⟩ := ⟨_, _, _, rfl⟩
  simp only [hc] at ha k1 k3 ko1 ko3 j1 j3 jo1 jo3 js
  match p, hc with
  | 0, hc =>
    obtain rfl : s = 1 := by omega
    have e : stepL D k = { D with nx := updF D.nx k (-1), cl := updF D.cl k ⟨1, 1, o⟩ } := by unfold stepL; simp [hc]
    refine ⟨?_, ?_, ?_⟩
    rotate_left 2
    · rw [stB hk (by rw [hc]; exact .inl rfl) e (b := false) (by simp [hc, updF_same])]
      exact rst_11 k h hk js (by rw [j1 rfl]; rfl)
    · rw [e]
      refine hR.upd rfl htl (far _ _) (far _ _) (far _ _) (fun _ _ => rfl) (updF_pt hnx) hwt ⟨by simp [updF_same], hwt k hk, by simp [updF_same], by simp [updF_same], by simp [updF_same], by simp [updF_same], by simp [updF_same], by simp [updF_same]⟩
  | 1, hc =>
    obtain rfl : s = 1 := by omega
    have e : stepL D k = { D with wt := updF D.wt k true, cl := updF D.cl k ⟨1, 2, o⟩ } := by unfold stepL; simp [hc]
    refine ⟨?_, ?_, ?_⟩
    rotate_left 2
    · rw [stB hk (by rw [hc]; exact .inl rfl) e (b := false) (by simp [hc, updF_same])]
      exact rst_12 k h hk js (by rw [j1 rfl]; rfl)
    · rw [e]
      refine hR.upd rfl htl (far _ _) (far _ _) (far _ _) (fun _ _ => rfl) hnx (updF_pt hwt) ⟨hnx k hk, by simp [updF_same], by simp [updF_same], by simp [updF_same], by simp [updF_same], by simp [updF_same], by simp [updF_same], by simp [updF_same]⟩
  | 2, hc =>
    obtain rfl : s = 1 := by omega
    have e : stepL D k = { D with tail := k, cl := updF D.cl k ⟨if D.tail = -1 then 2 else 1, 3, D.tail⟩ } := by unfold stepL; simp [hc]
    by_cases ht : D.tail = -1
    · rw [if_pos ht] at e
      refine ⟨?_, ?_, ?_⟩
      rotate_left 2
      · rw [stB hk (by rw [hc]; exact .inl rfl) e (b := true) (by simp [hc, updF_same])]
        exact rst_13a k h hk js (by rw [j1 rfl]; rfl) (htl.trans ht)
      · rw [e]
        refine hR.upd rfl rfl (far _ _) (far _ _) (far _ _) (far _ _) hnx hwt ⟨hnx k hk, hwt k hk, by simp [updF_same], by simp [updF_same], by simp [updF_same], by simp [updF_same], by simp [updF_same], by simp [updF_same]⟩
    · rw [if_neg ht] at e
      refine ⟨?_, ?_, ?_⟩
      rotate_left 2
      · rw [stB hk (by rw [hc]; exact .inl rfl) e (b := false) (by simp [hc, updF_same])]
        exact rst_13b k h hk js (by rw [j1 rfl]; rfl) (by rw [htl]; exact ht)
      · rw [e]
        refine hR.upd rfl rfl (far _ _) (far _ _) (far _ _) (far _ _) hnx hwt ⟨hnx k hk, hwt k hk, by simp [updF_same], by simp [updF_same], by simp [updF_same], by simp [updF_same], by simp [updF_same, htl], by simp [updF_same]⟩
  | 3, hc =>
    obtain rfl : s = 1 := by omega
    have ho := ko1 rfl rfl
    have jo := jo1 rfl rfl
    obtain ⟨q, rfl⟩ : ∃ q : Nat, o = q := ⟨o.toNat, by omega⟩
    have e : stepL D k = { D with nx := updF D.nx q k, cl := updF D.cl k ⟨1, 4, (q : Int)⟩ } := by unfold stepL; simp [hc]
    refine ⟨?_, ?_, ?_⟩
    rotate_left 2
    · rw [stB hk (by rw [hc]; exact .inl rfl) e (b := false) (by simp [hc, updF_same])]
      exact rst_14 k h hk js (by rw [j1 rfl]; rfl) q (by omega) jo
    · rw [e]
      refine hR.upd rfl htl (far _ _) (far _ _) (far _ _) (fun _ _ => rfl) (updF_pt hnx) hwt ⟨updF_pt hnx k hk, hwt k hk, by simp [updF_same], by simp [updF_same], by simp [updF_same], by simp [updF_same], by simp [updF_same], by simp [updF_same]⟩
  | 4, hc =>
    obtain rfl : s = 1 := by omega
    have e : stepL D k = { D with cl := updF D.cl k ⟨if D.wt k = true then 1 else 2, 4, o⟩ } := by unfold stepL; simp [hc]
    cases hw : D.wt k with
    | false =>
      rw [hw] at e
      simp only [Bool.false_eq_true, if_false] at e
      refine ⟨?_, ?_, ?_⟩
      rotate_left 2
      · rw [stB hk (by rw [hc]; exact .inl rfl) e (b := true) (by simp [hc, updF_same])]
        exact rst_15a k h hk js (by rw [j1 rfl]; rfl) (jw.trans hw)
      · rw [e]
        refine hR.upd rfl htl (far _ _) (far _ _) (far _ _) (fun _ _ => rfl) hnx hwt ⟨hnx k hk, hwt k hk, by simp [updF_same], by simp [updF_same], by simp [updF_same], by simp [updF_same], by simp [updF_same], by simp [updF_same]⟩
    | true =>
      rw [hw] at e
      simp only [if_true] at e
      refine ⟨?_, ?_, ?_⟩
      rotate_left 2
      · rw [stB hk (by rw [hc]; exact .inl rfl) e (b := false) (by simp [hc, updF_same])]
        exact rst_15b k h hk js (by rw [j1 rfl]; rfl) (jw.trans hw)
      · rw [e]
        refine hR.upd rfl htl (far _ _) (far _ _) (far _ _) (fun _ _ => rfl) hnx hwt ⟨hnx k hk, hwt k hk, by simp [updF_same], by simp [updF_same], by simp [updF_same], by simp [updF_same], by simp [updF_same], by simp [updF_same]⟩
  | 5, hc =>
    obtain rfl : s = 3 := by omega
    have e : stepL D k = { D with cl := updF D.cl k ⟨3, if D.nx k = -1 then 6 else 7, D.nx k⟩ } := by unfold stepL; simp [hc]
    by_cases ht : D.nx k = -1
    · rw [if_pos ht] at e
      refine ⟨?_, ?_, ?_⟩
      rotate_left 2
      · rw [stB hk (by rw [hc]; exact .inr rfl) e (b := false) (by simp [hc, updF_same])]
        exact rst_31a k h hk js (by have := j3 rfl; simp at this; omega) (jn.trans ht)
      · rw [e]
        refine hR.upd rfl htl (far _ _) (far _ _) (far _ _) (far _ _) hnx hwt ⟨hnx k hk, hwt k hk, by simp [updF_same], by simp [updF_same], by simp [updF_same], by simp [updF_same], by simp [updF_same], by simp [updF_same]⟩
    · rw [if_neg ht] at e
      refine ⟨?_, ?_, ?_⟩
      rotate_left 2
      · rw [stB hk (by rw [hc]; exact .inr rfl) e (b := false) (by simp [hc, updF_same])]
        exact rst_31b k h hk js (by have := j3 rfl; simp at this; omega) (by rw [jn]; exact ht)
      · rw [e]
        refine hR.upd rfl htl (far _ _) (far _ _) (far _ _) (far _ _) hnx hwt ⟨hnx k hk, hwt k hk, by simp [updF_same], by simp [updF_same], by simp [updF_same], by simp [updF_same], by simp [updF_same], by simp [updF_same, jn]⟩
  | 6, hc =>
    obtain rfl : s = 3 := by omega
    by_cases ht : D.tail = (k : Int)
    · have e : stepL D k = { D with tail := -1, cl := updF D.cl k ⟨0, 5, o⟩ } := by unfold stepL; simp [hc, ht]
      refine ⟨?_, ?_, ?_⟩
      rotate_left 2
      · rw [stB hk (by rw [hc]; exact .inr rfl) e (b := true) (by simp [hc, updF_same])]
        exact rst_32a k h hk js (by have := j3 rfl; simp at this; omega) (htl.trans ht)
      · rw [e]
        refine hR.upd rfl rfl (far _ _) (far _ _) (far _ _) (fun _ _ => rfl) hnx hwt ⟨hnx k hk, hwt k hk, by simp [updF_same], by simp [updF_same], by simp [updF_same], by simp [updF_same], by simp [updF_same], by simp [updF_same]⟩
    · have e : stepL D k = { D with cl := updF D.cl k ⟨3, 5, o⟩ } := by unfold stepL; simp [hc, ht]
      refine ⟨?_, ?_, ?_⟩
      rotate_left 2
      · rw [stB hk (by rw [hc]; exact .inr rfl) e (b := false) (by simp [hc, updF_same])]
        exact rst_32b k h hk js (by have := j3 rfl; simp at this; omega) (by rw [htl]; exact ht)
      · rw [e]
        refine hR.upd rfl htl (far _ _) (far _ _) (far _ _) (fun _ _ => rfl) hnx hwt ⟨hnx k hk, hwt k hk, by simp [updF_same], by simp [updF_same], by simp [updF_same], by simp [updF_same], by simp [updF_same], by simp [updF_same]⟩
  | 7, hc =>
    obtain rfl : s = 3 := by omega
    have ho := ko3 rfl rfl
    have jo := jo3 rfl rfl
    obtain ⟨q, rfl⟩ : ∃ q : Nat, o = q := ⟨o.toNat, by omega⟩
    have e : stepL D k = { D with wt := updF D.wt q false, cl := updF D.cl k ⟨0, 8, (q : Int)⟩ } := by unfold stepL; simp [hc]
    refine ⟨?_, ?_, ?_⟩
    rotate_left 2
    · rw [stB hk (by rw [hc]; exact .inr rfl) e (b := true) (by simp [hc, updF_same])]
      exact rst_33 k h hk js (by have := j3 rfl; simp at this; omega) q (by omega) jo
    · rw [e]
      refine hR.upd rfl htl (far _ _) (far _ _) (far _ _) (fun _ _ => rfl) hnx (updF_pt hwt) ⟨hnx k hk, updF_pt hwt k hk, by simp [updF_same], by simp [updF_same], by simp [updF_same], by simp [updF_same], by simp [updF_same], by simp [updF_same]⟩
  | p + 8, hc => omega
end
end Go.Proofs.Ytckdabokaelnoaa
