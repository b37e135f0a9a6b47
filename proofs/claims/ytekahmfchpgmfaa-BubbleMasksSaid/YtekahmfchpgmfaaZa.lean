/- Bubbles, plainly (layer 13). -/
import Derived.Test.YtekahmfchpgmfaaSm
namespace Go.Proofs.Ytekahmfchpgmfaa
open Go.RowKit

structure Bub where
  up : Int
  mask : Nat → Bool
  state : Int
  home : Int
def bubL (x : Bub) : List Value := .int .i64 x.up :: ((cellsOf x.mask).toList ++ [.int .i64 x.state, .int .i64 x.home])
theorem bubL_len (x : Bub) : (bubL x).length = 19 := by simp [bubL, cellsOf]
theorem bubL_0 (x : Bub) : (bubL x)[0]? = some (.int .i64 x.up) := rfl
theorem bubL_m (x : Bub) (i : Nat) (h : i < 16) : (bubL x)[1 + i]? = some (.int .u64 (word x.mask i)) := by
  unfold bubL
  rw [Nat.add_comm, List.getElem?_cons_succ, List.getElem?_append_left (by simp [cellsOf]; exact h)]
  simpa using cellsOf_get x.mask i h
theorem bubL_17 (x : Bub) : (bubL x)[17]? = some (.int .i64 x.state) := by
  unfold bubL
  rw [List.getElem?_cons_succ, List.getElem?_append_right (by simp [cellsOf])]
  simp [cellsOf]
theorem bubL_18 (x : Bub) : (bubL x)[18]? = some (.int .i64 x.home) := by
  unfold bubL
  rw [List.getElem?_cons_succ, List.getElem?_append_right (by simp [cellsOf])]
  simp [cellsOf]
theorem bubL_one (x : Bub) : ∀ v ∈ bubL x, v.oneCell' = true := fun v hv => by
  unfold bubL at hv
  simp only [List.mem_cons, List.mem_append, List.not_mem_nil, or_false] at hv
  rcases hv with rfl | hv | rfl | rfl
  · rfl
  · exact (Array.all_eq_true_iff_forall_mem.1 (cellsOf_one x.mask)) v (by simpa using hv)
  · rfl
  · rfl
theorem bubL_state (x : Bub) (s : Int) : (bubL x).set 17 (.int .i64 s) = bubL { x with state := s } := by
  unfold bubL
  rw [List.set_cons_succ, List.set_append_right _ _ (by simp [cellsOf])]
  simp [cellsOf]
theorem bubL_home (x : Bub) (s : Int) : (bubL x).set 18 (.int .i64 s) = bubL { x with home := s } := by
  unfold bubL
  rw [List.set_cons_succ, List.set_append_right _ _ (by simp [cellsOf])]
  simp [cellsOf]
/-- All bubbles' cells. -/
def bubC (bs : List Bub) : List Value := (bs.map bubL).flatten
theorem bubC_len : ∀ bs : List Bub, (bubC bs).length = bs.length * 19
  | [] => rfl
  | x :: r => by
    have := bubC_len r
    unfold bubC at this ⊢
    rw [List.map_cons, List.flatten_cons, List.length_append, bubL_len, this, List.length_cons]; omega
theorem bubC_cons (x : Bub) (r : List Bub) : bubC (x :: r) = bubL x ++ bubC r := by unfold bubC; rw [List.map_cons, List.flatten_cons]
theorem bubC_app (a b : List Bub) : bubC (a ++ b) = bubC a ++ bubC b := by unfold bubC; rw [List.map_append, List.flatten_append]
theorem bubC_one (x : Bub) : bubC [x] = bubL x := by rw [bubC_cons]; simp [bubC]
theorem bubC_get : ∀ (bs : List Bub) (i : Nat) (x : Bub), bs[i]? = some x → ∀ j, j < 19 → (bubC bs)[i * 19 + j]? = (bubL x)[j]?
  | [], _, _, h, _, _ => by simp at h
  | y :: r, 0, x, h, j, hj => by
    simp at h; subst h
    rw [bubC_cons, Nat.zero_mul, Nat.zero_add, List.getElem?_append_left (by rw [bubL_len]; exact hj)]
  | y :: r, i + 1, x, h, j, hj => by
    rw [bubC_cons, List.getElem?_append_right (by rw [bubL_len]; omega), bubL_len, show (i + 1) * 19 + j - 19 = i * 19 + j by omega]
    exact bubC_get r i x (by simpa using h) j hj
theorem bubC_set : ∀ (bs : List Bub) (i : Nat) (x y : Bub), bs[i]? = some x → ∀ (j : Nat) (v : Value), j < 19 → (bubL x).set j v = bubL y → (bubC bs).set (i * 19 + j) v = bubC (bs.set i y)
  | [], _, _, _, h, _, _, _, _ => by simp at h
  | z :: r, 0, x, y, h, j, v, hj, hs => by
    simp at h; subst h
    rw [bubC_cons, Nat.zero_mul, Nat.zero_add, List.set_append_left _ _ (by rw [bubL_len]; exact hj), hs, List.set_cons_zero, bubC_cons]
  | z :: r, i + 1, x, y, h, j, v, hj, hs => by
    rw [bubC_cons, List.set_append_right _ _ (by rw [bubL_len]; omega), bubL_len, show (i + 1) * 19 + j - 19 = i * 19 + j by omega, bubC_set r i x y (by simpa using h) j v hj hs, List.set_cons_succ, bubC_cons]
def inB (bs : List Bub) (b : Int) : Bool := decide (0 ≤ b ∧ b < (bs.length : Int))
theorem inB_iff {bs : List Bub} {b : Int} : inB bs b = true ↔ 0 ≤ b ∧ b < (bs.length : Int) := by simp [inB]
theorem inB_nat {bs : List Bub} {b : Int} (h : inB bs b = true) : ∃ (k : Nat) (x : Bub), b = k ∧ bs[k]? = some x := by
  have h' := inB_iff.1 h
  exact ⟨b.toNat, bs[b.toNat]'(by omega), by omega, List.getElem?_eq_getElem _⟩
theorem inB_of {bs : List Bub} {k : Nat} {x : Bub} (h : bs[k]? = some x) : inB bs (k : Int) = true := inB_iff.2 ⟨by omega, by have := (List.getElem?_eq_some_iff.1 h).1; omega⟩
def atB (bs : List Bub) (b : Int) : Bub := bs[b.toNat]?.getD ⟨-1, fun _ => false, 0, 0⟩
theorem atB_of {bs : List Bub} {k : Nat} {x : Bub} (h : bs[k]? = some x) : atB bs (k : Int) = x := by
  unfold atB; rw [show (k : Int).toNat = k by omega, h]; rfl
/-- Each lies in an elder one, or in none; each is in one of four states. -/
structure InvB (bs : List Bub) : Prop where
  up : ∀ (i : Nat) (x : Bub), bs[i]? = some x → -1 ≤ x.up ∧ x.up < (i : Int)
  st : ∀ (i : Nat) (x : Bub), bs[i]? = some x → 1 ≤ x.state ∧ x.state ≤ 4
  len : bs.length ≤ 32
def wayK (bs : List Bub) : Nat → Int → List Int
  | 0, _ => []
  | k + 1, b => if inB bs b then b :: wayK bs k (atB bs b).up else []
/-- A bubble, that in which it lies, and so on. -/
def way (bs : List Bub) (b : Int) : List Int := wayK bs (b + 1).toNat b
theorem wayK_same {bs : List Bub} (hI : InvB bs) : ∀ (k k' : Nat) (b : Int), (b + 1).toNat ≤ k → (b + 1).toNat ≤ k' → wayK bs k b = wayK bs k' b
  | 0, 0, _, _, _ => rfl
  | 0, k' + 1, b, h, _ => by
    have : inB bs b = false := by unfold inB; simp; omega
    unfold wayK; rw [this]; rfl
  | k + 1, 0, b, _, h => by
    have : inB bs b = false := by unfold inB; simp; omega
    unfold wayK; rw [this]; rfl
  | k + 1, k' + 1, b, h, h' => by
    unfold wayK
    cases hb : inB bs b with
    | false => rfl
    | true =>
      obtain ⟨j, x, rfl, hx⟩ := inB_nat hb
      have hu := hI.up j x hx
      rw [atB_of hx]
      simp only [↓reduceIte]
      rw [wayK_same hI k k' x.up (by omega) (by omega)]
theorem way_no {bs : List Bub} {b : Int} (h : inB bs b = false) : way bs b = [] := by
  unfold way
  cases (b + 1).toNat with
  | zero => rfl
  | succ k => unfold wayK; rw [h]; rfl
theorem way_yes {bs : List Bub} (hI : InvB bs) {k : Nat} {x : Bub} (hx : bs[k]? = some x) : way bs (k : Int) = (k : Int) :: way bs x.up := by
  have hu := hI.up k x hx
  unfold way
  rw [show ((k : Int) + 1).toNat = k + 1 by omega]
  conv => lhs; unfold wayK
  rw [inB_of hx, atB_of hx]
  simp only [↓reduceIte]
  rw [wayK_same hI k (x.up + 1).toNat x.up (by omega) (Nat.le_refl _)]
theorem way_len {bs : List Bub} (hI : InvB bs) : ∀ (n : Nat) (b : Int), (b + 1).toNat ≤ n → (way bs b).length ≤ n
  | n, b, h => by
    cases hb : inB bs b with
    | false => rw [way_no hb]; simp
    | true =>
      obtain ⟨j, x, rfl, hx⟩ := inB_nat hb
      have hu := hI.up j x hx
      cases n with
      | zero => omega
      | succ m =>
        rw [way_yes hI hx, List.length_cons]
        have := way_len hI m x.up (by omega)
        omega
theorem way_len32 {bs : List Bub} (hI : InvB bs) (b : Int) : (way bs b).length ≤ 32 := by
  cases hb : inB bs b with
  | false => rw [way_no hb]; simp
  | true =>
    have := inB_iff.1 hb
    have := hI.len
    exact way_len hI 32 b (by omega)
theorem way_in {bs : List Bub} (hI : InvB bs) : ∀ (n : Nat) (b : Int), (b + 1).toNat ≤ n → ∀ y ∈ way bs b, 0 ≤ y ∧ y ≤ b ∧ inB bs y = true
  | n, b, h, y, hy => by
    cases hb : inB bs b with
    | false => rw [way_no hb] at hy; simp at hy
    | true =>
      obtain ⟨j, x, rfl, hx⟩ := inB_nat hb
      have hu := hI.up j x hx
      cases n with
      | zero => omega
      | succ m =>
        rw [way_yes hI hx, List.mem_cons] at hy
        rcases hy with rfl | hy
        · exact ⟨by omega, Int.le_refl _, inB_of hx⟩
        · have := way_in hI m x.up (by omega) y hy
          exact ⟨this.1, by omega, this.2.2⟩
def maskP (bs : List Bub) (b : Int) : Nat → Bool := fun n => (way bs b).all fun k => (atB bs k).mask n
def freeP (bs : List Bub) (b : Int) : Bool := if inB bs b then (way bs b).all fun k => (atB bs k).state == 4 else b == -1
def insideP (bs : List Bub) (b i : Int) : Bool := (way bs b).contains i
end Go.Proofs.Ytekahmfchpgmfaa
