/- A lock that parties wait for in a row, plainly: its words, a party's step, told by number. -/
import Derived.Test.YtckdabokaelnoaaBu
namespace Go.Proofs.Ytckdabokaelnoaa

def updF {α : Type} (f : Nat → α) (k : Nat) (v : α) : Nat → α := fun j => if j = k then v else f j
theorem updF_same {α : Type} (f : Nat → α) (k : Nat) (v : α) : updF f k v k = v := by simp [updF]
theorem updF_other {α : Type} (f : Nat → α) {k j : Nat} (v : α) (h : j ≠ k) : updF f k v j = f j := by simp [updF, h]
theorem updF_twice {α : Type} (f : Nat → α) (k : Nat) (u v : α) : updF (updF f k u) k v = updF f k v := by
  funext j; by_cases h : j = k <;> simp [updF, h]
theorem updF_self {α : Type} (f : Nat → α) (k : Nat) {v : α} (h : f k = v) : updF f k v = f := by
  funext j; by_cases e : j = k
  · subst e; rw [updF_same, h]
  · rw [updF_other _ _ e]
/-- Where a party is in its call. -/
structure Pl where
  st : Nat
  sp : Nat
  ot : Int
/-- The lock: who came last; who waits behind each; who waits; where each is; how many there are. -/
structure Lk where
  tail : Int
  nx : Nat → Int
  wt : Nat → Bool
  cl : Nat → Pl
  n : Nat
def newL (n : Nat) : Lk := ⟨-1, fun _ => -1, fun _ => false, fun _ => ⟨0, 0, 0⟩, n⟩
/-- A party's next step. -/
def stepL (D : Lk) (k : Nat) : Lk :=
  match (D.cl k).sp with
  | 0 => { D with nx := updF D.nx k (-1), cl := updF D.cl k ⟨(D.cl k).st, 1, (D.cl k).ot⟩ }
  | 1 => { D with wt := updF D.wt k true, cl := updF D.cl k ⟨(D.cl k).st, 2, (D.cl k).ot⟩ }
  | 2 => { D with tail := k, cl := updF D.cl k ⟨if D.tail = -1 then 2 else (D.cl k).st, 3, D.tail⟩ }
  | 3 => { D with nx := updF D.nx (D.cl k).ot.toNat k, cl := updF D.cl k ⟨(D.cl k).st, 4, (D.cl k).ot⟩ }
  | 4 => { D with cl := updF D.cl k ⟨if D.wt k = true then (D.cl k).st else 2, 4, (D.cl k).ot⟩ }
  | 5 => { D with cl := updF D.cl k ⟨(D.cl k).st, if D.nx k = -1 then 6 else 7, D.nx k⟩ }
  | 6 => { D with tail := if D.tail = k then -1 else D.tail, cl := updF D.cl k ⟨if D.tail = k then 0 else (D.cl k).st, 5, (D.cl k).ot⟩ }
  | _ => { D with wt := updF D.wt (D.cl k).ot.toNat false, cl := updF D.cl k ⟨0, 8, (D.cl k).ot⟩ }
def isN (D : Lk) (k : Int) : Prop := 0 ≤ k ∧ k < (D.n : Int)
instance (D : Lk) (k : Int) : Decidable (isN D k) := by unfold isN; infer_instance
/-- A party's state. -/
def stI (D : Lk) (k : Int) : Int := if isN D k then ((D.cl k.toNat).st : Int) else -1
/-- A call begins: what it answers, and what there is then. -/
def begE (D : Lk) (k : Int) (fr : Nat) : Int := if isN D k then (if (D.cl k.toNat).st = fr then 0 else 5) else 1
def begT (D : Lk) (k : Int) (fr sp : Nat) : Lk := if isN D k ∧ (D.cl k.toNat).st = fr then { D with cl := updF D.cl k.toNat ⟨fr + 1, sp, 0⟩ } else D
def actB (D : Lk) (k : Int) : Prop := isN D k ∧ ((D.cl k.toNat).st = 1 ∨ (D.cl k.toNat).st = 3)
instance (D : Lk) (k : Int) : Decidable (actB D k) := by unfold actB; infer_instance
def stpT (D : Lk) (k : Int) : Lk := if actB D k then stepL D k.toNat else D
def stpB (D : Lk) (k : Int) : Bool := decide (stI (stpT D k) k ≠ stI D k)
/-- What holds of it always. -/
structure NiceP (D : Lk) (k : Nat) : Prop where
  st : (D.cl k).st ≤ 3
  sp : (D.cl k).sp ≤ 8
  s1 : (D.cl k).st = 1 → (D.cl k).sp ≤ 4
  s3 : (D.cl k).st = 3 → 5 ≤ (D.cl k).sp ∧ (D.cl k).sp ≤ 7
  o1 : (D.cl k).st = 1 → (D.cl k).sp = 3 → 0 ≤ (D.cl k).ot ∧ (D.cl k).ot < (D.n : Int)
  o3 : (D.cl k).st = 3 → (D.cl k).sp = 7 → 0 ≤ (D.cl k).ot ∧ (D.cl k).ot < (D.n : Int)
  nx : -1 ≤ D.nx k ∧ D.nx k < (D.n : Int)
structure Nice (D : Lk) : Prop where
  n1 : 1 ≤ D.n
  n2 : D.n ≤ 16
  tl : -1 ≤ D.tail ∧ D.tail < (D.n : Int)
  each : ∀ k, k < D.n → NiceP D k
theorem nice_new {n : Nat} (h1 : 1 ≤ n) (h2 : n ≤ 16) : Nice (newL n) :=
  ⟨h1, h2, by simp only [newL]; omega, fun k hk => ⟨by simp [newL], by simp [newL], by simp [newL], by simp [newL], by simp [newL], by simp [newL], by simp only [newL]; omega⟩⟩
theorem stepL_n (D : Lk) (k : Nat) : (stepL D k).n = D.n := by unfold stepL; split <;> rfl
theorem stepL_far (D : Lk) {k j : Nat} (h : j ≠ k) : (stepL D k).cl j = D.cl j := by unfold stepL; split <;> exact updF_other _ _ h
theorem nice_step {D : Lk} {k : Nat} (h : Nice D) (hk : k < D.n) (ha : (D.cl k).st = 1 ∨ (D.cl k).st = 3) : Nice (stepL D k) := by
  have K := h.each k hk
  have n1 := h.n1; have n2 := h.n2; have tl := h.tl
  have k1 := K.s1; have k3 := K.s3; have ko1 := K.o1; have ko3 := K.o3; have kn := K.nx
  have far : ∀ (nx : Nat → Int) (wt : Nat → Bool) (t : Int) (c : Pl) (j : Nat), j < D.n → j ≠ k → (∀ i, i < D.n → -1 ≤ nx i ∧ nx i < (D.n : Int)) →
      NiceP { tail := t, nx := nx, wt := wt, cl := updF D.cl k c, n := D.n } j := by
    intro nx wt t c j hj e hn
    have J := h.each j hj
    refine ⟨?_, ?_, ?_, ?_, ?_, ?_, hn j hj⟩ <;> (simp only [updF_other _ _ e])
    · exact J.st
    · exact J.sp
    · exact J.s1
    · exact J.s3
    · exact J.o1
    · exact J.o3
  have near : ∀ (nx : Nat → Int) (wt : Nat → Bool) (t : Int) (c : Pl), (∀ i, i < D.n → -1 ≤ nx i ∧ nx i < (D.n : Int)) → c.st ≤ 3 → c.sp ≤ 8 → (c.st = 1 → c.sp ≤ 4) → (c.st = 3 → 5 ≤ c.sp ∧ c.sp ≤ 7) →
      (c.st = 1 → c.sp = 3 → 0 ≤ c.ot ∧ c.ot < (D.n : Int)) → (c.st = 3 → c.sp = 7 → 0 ≤ c.ot ∧ c.ot < (D.n : Int)) →
      ∀ j, j < D.n → NiceP { tail := t, nx := nx, wt := wt, cl := updF D.cl k c, n := D.n } j := by
    intro nx wt t c hn a1 a2 a3 a4 a5 a6 j hj
    by_cases e : j = k
    · subst e
      refine ⟨?_, ?_, ?_, ?_, ?_, ?_, hn j hj⟩ <;> simp only [updF_same] <;> assumption
    · exact far nx wt t c j hj e hn
  have same : ∀ i, i < D.n → -1 ≤ D.nx i ∧ D.nx i < (D.n : Int) := fun i hi => (h.each i hi).nx
  have set : ∀ (q : Nat) (v : Int), -1 ≤ v → v < (D.n : Int) → ∀ i, i < D.n → -1 ≤ updF D.nx q v i ∧ updF D.nx q v i < (D.n : Int) := by
    intro q v a c i hi
    by_cases e : i = q
    · subst e; rw [updF_same]; exact ⟨a, c⟩
    · rw [updF_other _ _ e]; exact same i hi
  unfold stepL
  split
  all_goals rename_i hs
  · refine ⟨n1, n2, tl, near _ _ _ _ (set _ _ (by omega) (by omega)) ?_ ?_ ?_ ?_ ?_ ?_⟩ <;> dsimp only <;> omega
  · refine ⟨n1, n2, tl, near _ _ _ _ same ?_ ?_ ?_ ?_ ?_ ?_⟩ <;> dsimp only <;> omega
  · refine ⟨n1, n2, by dsimp only; omega, near _ _ _ _ same ?_ ?_ ?_ ?_ ?_ ?_⟩ <;> dsimp only <;> (try split) <;> omega
  · refine ⟨n1, n2, tl, near _ _ _ _ (set _ _ (by omega) (by omega)) ?_ ?_ ?_ ?_ ?_ ?_⟩ <;> dsimp only <;> omega
  · refine ⟨n1, n2, tl, near _ _ _ _ same ?_ ?_ ?_ ?_ ?_ ?_⟩ <;> dsimp only <;> (try split) <;> omega
  · refine ⟨n1, n2, tl, near _ _ _ _ same ?_ ?_ ?_ ?_ ?_ ?_⟩ <;> dsimp only <;> (try split) <;> omega
  · refine ⟨n1, n2, by dsimp only; split <;> omega, near _ _ _ _ same ?_ ?_ ?_ ?_ ?_ ?_⟩ <;> dsimp only <;> (try split) <;> omega
  · refine ⟨n1, n2, tl, near _ _ _ _ same ?_ ?_ ?_ ?_ ?_ ?_⟩ <;> dsimp only <;> omega
theorem nice_begT {D : Lk} (h : Nice D) (k : Int) (fr sp : Nat) (hf : fr = 0 ∧ sp = 0 ∨ fr = 2 ∧ sp = 5) : Nice (begT D k fr sp) := by
  unfold begT
  split
  case isFalse => exact h
  case isTrue hc =>
    refine ⟨h.n1, h.n2, h.tl, fun j hj => ?_⟩
    have J := h.each j hj
    by_cases e : j = k.toNat
    · subst e
      refine ⟨?_, ?_, ?_, ?_, ?_, ?_, J.nx⟩ <;> simp only [updF_same] <;> omega
    · refine ⟨?_, ?_, ?_, ?_, ?_, ?_, J.nx⟩ <;> (simp only [updF_other _ _ e])
      · exact J.st
      · exact J.sp
      · exact J.s1
      · exact J.s3
      · exact J.o1
      · exact J.o3
theorem nice_stpT {D : Lk} (h : Nice D) (k : Int) : Nice (stpT D k) := by
  unfold stpT
  split
  case isFalse => exact h
  case isTrue hc => exact nice_step h (by have := hc.1; simp only [isN] at this; omega) hc.2
theorem begT_n (D : Lk) (k : Int) (fr sp : Nat) : (begT D k fr sp).n = D.n := by unfold begT; split <;> rfl
theorem stpT_n (D : Lk) (k : Int) : (stpT D k).n = D.n := by unfold stpT; split; exact stepL_n _ _; rfl
end Go.Proofs.Ytckdabokaelnoaa
