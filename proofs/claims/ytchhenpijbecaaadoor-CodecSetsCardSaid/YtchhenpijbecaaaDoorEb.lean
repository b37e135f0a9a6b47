/- layer 31 (codec): plain facts: sets read off bytes. -/
import Derived.Test.YtchhenpijbecaaaDoorEa
namespace Go.Proofs.YtchhenpijbecaaaDoor
open Go.RowKit
set_option maxRecDepth 100000

/-- rows of neighbours read one behind the other. -/
def setZ (l : List UInt8) : Nat → Nat → Int → (Nat → Bool) → Option ((Nat → Bool) × Int)
  | 0, _, k, q => some (q, k)
  | c + 1, m, k, q => match takeZ l 2 k with
    | none => none
    | some (xs, j) => if 0 ≤ xs.getD 0 0 ∧ xs.getD 0 0 < 1024 ∧ 0 ≤ xs.getD 1 0 ∧ xs.getD 1 0 < 1024 ∧ (m : Int) + xs.getD 0 0 + xs.getD 1 0 < 1024
      then setZ l c (m + (xs.getD 0 0).toNat + (xs.getD 1 0).toNat + 2) j (fun n => q n || rangeP ((m : Int) + xs.getD 0 0) ((m : Int) + xs.getD 0 0 + xs.getD 1 0) n) else none
/-- the set that stands in bytes from a place on, and the place behind it. -/
def getS (l : List UInt8) (k : Int) : Option ((Nat → Bool) × Int) := match takeZ l 1 k with
  | none => none
  | some (xs, j) => if xs.getD 0 0 < 0 then none else setZ l (xs.getD 0 0).toNat 0 j (fun _ => false)
def orP (q : Nat → Bool) : Nat → List (Nat × Nat) → Nat → Bool
  | _, [] => q
  | m, (a, b) :: r => orP (fun n => q n || rangeP ((m : Int) + (a : Int)) ((m : Int) + (a : Int) + (b : Int)) n) (m + a + b + 2) r
theorem orP_eq (L : List (Nat × Nat)) : ∀ (q : Nat → Bool) (m n : Nat), orP q m L n = (q n || setP m L n) := by
  induction L with
  | nil => intro q m n; simp [orP, setP]
  | cons x r ih =>
    obtain ⟨a, b⟩ := x
    intro q m n
    rw [orP, ih, setP, Bool.or_assoc]
    congr 2
    unfold rangeP
    rw [decide_eq_decide]; omega
theorem flat_in {L : List (Nat × Nat)} : ∀ {m : Nat}, okP m L → ∀ x ∈ flatI L, B64 x := by
  induction L with
  | nil => intro m _ x hx; cases hx
  | cons y r ih =>
    obtain ⟨a, b⟩ := y
    intro m h x hx
    rw [okP] at h
    rw [flatI] at hx
    unfold B64
    rcases List.mem_cons.1 hx with rfl | hx
    · omega
    · rcases List.mem_cons.1 hx with rfl | hx
      · omega
      · exact ih h.2 x hx
theorem setZ_back (L : List (Nat × Nat)) : ∀ (m : Nat) (q : Nat → Bool) (a rest : List UInt8), okP m L →
    setZ (a ++ (intsB (flatI L) ++ rest)) L.length m (a.length : Int) q = some (orP q m L, ((a.length + (intsB (flatI L)).length : Nat) : Int)) := by
  induction L with
  | nil => intro m q a rest _; simp [setZ, orP, flatI, intsB]
  | cons y r ih =>
    obtain ⟨c, d⟩ := y
    intro m q a rest h
    rw [okP] at h
    have e : intsB (flatI ((c, d) :: r)) = intsB [(c : Int), (d : Int)] ++ intsB (flatI r) := by rw [flatI, ← intsB_app]; rfl
    have ht := takeN_intsB [(c : Int), (d : Int)] a (intsB (flatI r) ++ rest) (by
      intro x hx
      simp only [List.mem_cons, List.not_mem_nil, or_false] at hx
      unfold B64
      rcases hx with rfl | rfl <;> omega)
    have e2 : a ++ (intsB (flatI ((c, d) :: r)) ++ rest) = a ++ (intsB [(c : Int), (d : Int)] ++ (intsB (flatI r) ++ rest)) := by rw [e]; simp
    rw [e2, List.length_cons, setZ, takeZ_nat _ 2 _ (by simp)]
    rw [show [(c : Int), (d : Int)].length = 2 from rfl] at ht
    rw [ht]
    simp only [Option.map_some]
    rw [if_pos (by simp; omega)]
    have := ih (m + c + d + 2) (fun n => q n || rangeP ((m : Int) + (c : Int)) ((m : Int) + (c : Int) + (d : Int)) n) (a ++ intsB [(c : Int), (d : Int)]) rest h.2
    rw [List.length_append, List.append_assoc] at this
    simp only [List.getD_cons_zero, List.getD_cons_succ, Int.toNat_natCast]
    rw [this, orP, e, List.length_append]
    simp only [Option.some.injEq, Prod.mk.injEq, true_and]
    omega
theorem setZ_some (l : List UInt8) (c : Nat) : ∀ (m k : Nat) (q p : Nat → Bool) (j : Int), k ≤ l.length → setZ l c m (k : Int) q = some (p, j) →
    ∃ (L : List (Nat × Nat)) (j' : Nat) (rest : List UInt8), L.length = c ∧ okP m L ∧ p = orP q m L ∧ j = (j' : Int) ∧ j' ≤ l.length ∧ l.drop k = intsB (flatI L) ++ rest ∧ j' = k + (intsB (flatI L)).length := by
  induction c with
  | zero =>
    intro m k q p j hk h
    rw [setZ] at h
    injection h with h; injection h with h1 h2
    exact ⟨[], k, l.drop k, rfl, trivial, h1.symm, h2.symm, hk, by simp [flatI, intsB], by simp [flatI, intsB]⟩
  | succ c ih =>
    intro m k q p j hk h
    rw [setZ, takeZ_nat l 2 k hk] at h
    match ht : takeN l 2 k with
    | none => rw [ht] at h; cases h
    | some (xs, j1) =>
      rw [ht] at h
      simp only [Option.map_some] at h
      obtain ⟨h1, _, h3, h4, rest, h5⟩ := takeN_back l 2 k j1 xs hk ht
      match xs, h1 with
      | [a, b], _ =>
        simp only [List.getD_cons_zero, List.getD_cons_succ] at h
        split at h
        · rename_i hc
          obtain ⟨a, rfl⟩ := Int.eq_ofNat_of_zero_le hc.1
          obtain ⟨b, rfl⟩ := Int.eq_ofNat_of_zero_le hc.2.2.1
          simp only [Int.toNat_natCast] at h
          obtain ⟨L, j', rest', k1, k2, k3, k4, k5, k6, k7⟩ := ih _ _ _ _ _ h4 h
          refine ⟨(a, b) :: L, j', rest', by simp [k1], ⟨by omega, k2⟩, k3, k4, k5, ?_, ?_⟩
          · rw [flatI]
            have : intsB ((a : Int) :: (b : Int) :: flatI L) = intsB [(a : Int), (b : Int)] ++ intsB (flatI L) := by rw [← intsB_app]; rfl
            rw [this, List.append_assoc, ← k6, h5]
            congr 1
            have e : l.drop j1 = (l.drop k).drop (intsB [(a : Int), (b : Int)]).length := by rw [List.drop_drop, h3]
            rw [e, h5, List.drop_left]
          · rw [flatI]
            have : intsB ((a : Int) :: (b : Int) :: flatI L) = intsB [(a : Int), (b : Int)] ++ intsB (flatI L) := by rw [← intsB_app]; rfl
            rw [this, List.length_append]; omega
        · cases h
/-- what is written is read as the same. -/
theorem getS_rows (p : Nat → Bool) (a : List UInt8) : ∃ p', getS (a ++ intsB (rowsOf p)) (a.length : Int) = some (p', ((a.length + (intsB (rowsOf p)).length : Nat) : Int)) ∧ ∀ n, n < 1024 → p' n = p n := by
  obtain ⟨L, h1, h2, h3⟩ := rowsT_are p
  rw [rowsOf_L h2]
  have hl : L.length ≤ 1025 := by
    by_cases hh : L = []
    · subst hh; simp
    · have := okP_len L 0 h1 hh; omega
  have ht := takeN_intsB [(L.length : Int)] a (intsB (flatI L)) (by
    intro x hx
    simp only [List.mem_cons, List.not_mem_nil, or_false] at hx
    unfold B64; omega)
  rw [show [(L.length : Int)].length = 1 from rfl] at ht
  have e : intsB ((L.length : Int) :: flatI L) = intsB [(L.length : Int)] ++ intsB (flatI L) := by rw [← intsB_app]; rfl
  refine ⟨orP (fun _ => false) 0 L, ?_, fun n hn => by rw [orP_eq, h3 n hn, Bool.false_or]⟩
  unfold getS
  rw [e, takeZ_nat _ 1 _ (by simp), ht]
  simp only [Option.map_some, List.getD_cons_zero, Int.toNat_natCast]
  rw [if_neg (by omega)]
  have := setZ_back L 0 (fun _ => false) (a ++ intsB [(L.length : Int)]) [] h1
  rw [List.length_append, List.append_assoc, List.append_nil] at this
  rw [this, List.length_append]
  simp only [Option.some.injEq, Prod.mk.injEq, true_and]
  omega
/-- what is read is written so. -/
theorem getS_back {l : List UInt8} {p : Nat → Bool} {j : Int} (h : getS l 0 = some (p, j)) : ∃ j' : Nat, j = (j' : Int) ∧ j' ≤ l.length ∧ l.take j' = intsB (rowsOf p) := by
  unfold getS at h
  rw [show (0 : Int) = ((0 : Nat) : Int) from rfl, takeZ_nat l 1 0 (by omega)] at h
  match ht : takeN l 1 0 with
  | none => rw [ht] at h; cases h
  | some (xs, j1) =>
    rw [ht] at h
    simp only [Option.map_some] at h
    obtain ⟨h1, _, h3, h4, rest, h5⟩ := takeN_back l 1 0 j1 xs (by omega) ht
    match xs, h1 with
    | [c], _ =>
      simp only [List.getD_cons_zero] at h
      split at h
      · cases h
      · rename_i hc
        obtain ⟨c, rfl⟩ := Int.eq_ofNat_of_zero_le (a := c) (by omega)
        simp only [Int.toNat_natCast] at h
        obtain ⟨L, j', rest', k1, k2, k3, k4, k5, k6, k7⟩ := setZ_some l c 0 j1 _ _ _ h4 h
        refine ⟨j', k4, k5, ?_⟩
        have hp : ∀ n, n < 1024 → p n = setP 0 L n := fun n _ => by rw [k3, orP_eq, Bool.false_or]
        rw [rowsOf_L (rowsT_of p L k2 hp), k1]
        have e : intsB ((c : Int) :: flatI L) = intsB [(c : Int)] ++ intsB (flatI L) := by rw [← intsB_app]; rfl
        rw [e]
        rw [List.drop_zero] at h5
        have hd : l.drop j1 = rest := by rw [h3, h5, Nat.zero_add, List.drop_left]
        rw [hd] at k6
        rw [k7, h3, h5, k6, Nat.zero_add, ← List.append_assoc]
        rw [show (intsB [(c : Int)]).length + (intsB (flatI L)).length = (intsB [(c : Int)] ++ intsB (flatI L)).length by simp]
        exact List.take_left
end Go.Proofs.YtchhenpijbecaaaDoor
