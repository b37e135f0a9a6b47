/- A lock that stays in a socket for a while, plainly (layer 14). -/
import Derived.Test.YtdomgipbadimmaaBu
namespace Go.Proofs.Ytdomgipbadimmaa

/-- A socket, and its tasks that wait. -/
abbrev CRow := Int × List Int
/-- Who has it (-1: nobody), its socket, how many passes, the rows in their round. -/
structure Coh where
  own : Int
  soc : Int
  pas : Int
  rnd : List CRow
def zCoh : Coh := ⟨-1, 0, 0, []⟩
/-- Where the first row is of which p holds; -1: nowhere. -/
def idxR (p : CRow → Bool) : List CRow → Int → Int
  | [], _ => -1
  | r :: l, k => if p r = true then k else idxR p l (k + 1)
theorem idxR_split (p : CRow → Bool) : ∀ (L : List CRow) (k : Int), (idxR p L k = -1 ∧ ∀ r ∈ L, p r = false) ∨ ∃ A r C, L = A ++ r :: C ∧ idxR p L k = k + A.length ∧ p r = true ∧ ∀ q ∈ A, p q = false
  | [], k => .inl ⟨rfl, fun r h => by cases h⟩
  | r :: l, k => by
    unfold idxR
    by_cases h : p r = true
    · rw [if_pos h]; exact .inr ⟨[], r, l, rfl, by simp, h, fun q hq => by cases hq⟩
    · rw [if_neg h]
      have hf : p r = false := by simpa using h
      rcases idxR_split p l (k + 1) with ⟨a, b⟩ | ⟨A, x, C, rfl, e, hx, hA⟩
      · refine .inl ⟨a, fun q hq => ?_⟩
        rcases List.mem_cons.1 hq with rfl | hq
        · exact hf
        · exact b q hq
      · refine .inr ⟨r :: A, x, C, rfl, by rw [e]; simp only [List.length_cons]; omega, hx, fun q hq => ?_⟩
        rcases List.mem_cons.1 hq with rfl | hq
        · exact hf
        · exact hA q hq
theorem idxR_at (p : CRow → Bool) {A C : List CRow} {r : CRow} (hA : ∀ q ∈ A, p q = false) (hr : p r = true) : ∀ k, idxR p (A ++ r :: C) k = k + A.length := by
  induction A with
  | nil => intro k; simp [idxR, hr]
  | cons q A ih =>
    intro k
    have h0 := hA q (by simp)
    simp only [List.cons_append, idxR, h0, Bool.false_eq_true, if_false]
    rw [ih (fun x hx => hA x (by simp [hx])), List.length_cons]; omega
theorem idxR_no (p : CRow → Bool) {L : List CRow} (h : ∀ r ∈ L, p r = false) : ∀ k, idxR p L k = -1 := by
  induction L with
  | nil => intro k; rfl
  | cons r l ih =>
    intro k
    unfold idxR; rw [if_neg (by rw [h r (by simp)]; simp)]
    exact ih (fun x hx => h x (by simp [hx])) _
/-- The three questions. -/
def ofR (s : Int) : CRow → Bool := fun r => r.1 == s
def notR (s : Int) : CRow → Bool := fun r => !(r.1 == s)
def withR (t : Int) : CRow → Bool := fun r => r.2.contains t
/-- A task waits: behind its socket's row, or in a new one. -/
def addR (s t : Int) : List CRow → List CRow
  | [] => [(s, [t])]
  | r :: l => if r.1 = s then (r.1, r.2 ++ [t]) :: l else r :: addR s t l
theorem addR_no {s t : Int} {L : List CRow} (h : ∀ r ∈ L, ofR s r = false) : addR s t L = L ++ [(s, [t])] := by
  induction L with
  | nil => rfl
  | cons r l ih =>
    have h0 := h r (by simp)
    unfold ofR at h0
    unfold addR; rw [if_neg (by simpa using h0), ih (fun q hq => h q (by simp [hq]))]; rfl
theorem addR_at {s t : Int} {A C : List CRow} {r : CRow} (hA : ∀ q ∈ A, ofR s q = false) (hr : r.1 = s) : addR s t (A ++ r :: C) = A ++ (r.1, r.2 ++ [t]) :: C := by
  induction A with
  | nil => simp [addR, hr]
  | cons q A ih =>
    have h0 := hA q (by simp)
    unfold ofR at h0
    simp only [List.cons_append, addR]
    rw [if_neg (by simpa using h0), ih (fun x hx => hA x (by simp [hx]))]
/-- The first of the row at a place is told. -/
def cutR2 : Nat → List CRow → List CRow
  | _, [] => []
  | 0, r :: l => if r.2.length ≤ 1 then l else (r.1, r.2.tail) :: l
  | i + 1, r :: l => r :: cutR2 i l
theorem cutR2_at {A C : List CRow} {r : CRow} : cutR2 A.length (A ++ r :: C) = A ++ (if r.2.length ≤ 1 then C else (r.1, r.2.tail) :: C) := by
  induction A with
  | nil => simp [cutR2]
  | cons q A ih => simp [cutR2, ih]
def headR (L : List CRow) (i : Nat) : Int := ((L[i]?.getD (0, [])).2[0]?).getD 0
theorem headR_at {A C : List CRow} {r : CRow} : headR (A ++ r :: C) A.length = (r.2[0]?).getD 0 := by
  unfold headR; rw [List.getElem?_append_right (Nat.le_refl _)]; simp
/-- The first of a row has the lock. -/
def tellC (c : Coh) (i : Nat) : Coh := { c with own := headR c.rnd i, rnd := cutR2 i c.rnd }
/-- The row of a socket, if there is one, goes to the round's end. -/
def lastR (s : Int) : List CRow → List CRow
  | [] => []
  | r :: l => if r.1 = s then l ++ [r] else r :: lastR s l
theorem lastR_no {s : Int} {L : List CRow} (h : ∀ r ∈ L, ofR s r = false) : lastR s L = L := by
  induction L with
  | nil => rfl
  | cons r l ih =>
    have h0 := h r (by simp)
    unfold ofR at h0
    unfold lastR; rw [if_neg (by simpa using h0), ih (fun q hq => h q (by simp [hq]))]
theorem lastR_at {s : Int} {A C : List CRow} {r : CRow} (hA : ∀ q ∈ A, ofR s q = false) (hr : r.1 = s) : lastR s (A ++ r :: C) = A ++ C ++ [r] := by
  induction A with
  | nil => simp [lastR, hr]
  | cons q A ih =>
    have h0 := hA q (by simp)
    unfold ofR at h0
    simp only [List.cons_append, lastR]
    rw [if_neg (by simpa using h0), ih (fun x hx => hA x (by simp [hx]))]
def socR (L : List CRow) (i : Nat) : Int := (L[i]?.getD (0, [])).1
theorem socR_at {A C : List CRow} {r : CRow} : socR (A ++ r :: C) A.length = r.1 := by
  unfold socR; rw [List.getElem?_append_right (Nat.le_refl _)]; simp
/-- Another socket's row has it next. -/
def leaveC (c : Coh) (j : Nat) : Coh :=
  { own := headR c.rnd j, soc := socR c.rnd j, pas := 0, rnd := lastR c.soc (cutR2 j c.rnd) }
def ownI (c : Coh) : Int := idxR (ofR c.soc) c.rnd 0
def othI (c : Coh) : Int := idxR (notR c.soc) c.rnd 0
/-- The lock goes on. -/
def giveC (c : Coh) : Coh :=
  if 0 ≤ ownI c ∧ (c.pas < 3 ∨ othI c < 0) then tellC { c with pas := c.pas + 1 } (ownI c).toNat
  else if 0 ≤ othI c then leaveC c (othI c).toNat
  else zCoh
def goesC (c : Coh) : Bool := decide (0 ≤ ownI c) || decide (0 ≤ othI c)
/-- A task takes it, or waits. -/
def takeC (c : Coh) (t s : Int) : Coh :=
  if c.own = -1 then { c with own := t, soc := s } else { c with rnd := addR s t c.rnd }
def waitsC (c : Coh) (t : Int) : Bool := c.rnd.any (withR t)
/-- What Take says (0, 1: it has it), and what is behind it. -/
def takeE (c : Coh) (t s : Int) : Bool × Int :=
  if t < 0 ∨ s < 0 then (false, 1) else if c.own = t then (false, 8) else if waitsC c t = true then (false, 9) else (decide (c.own = -1), 0)
def takeT (c : Coh) (t s : Int) : Coh := if (takeE c t s).2 = 0 then takeC c t s else c
def isOfC (c : Coh) (t : Int) : Bool := !(t == -1) && c.own == t
end Go.Proofs.Ytdomgipbadimmaa
