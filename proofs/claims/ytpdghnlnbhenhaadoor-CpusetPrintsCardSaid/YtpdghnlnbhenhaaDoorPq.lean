/- Plain functions: a set's printing is parsed as it; the document's way of printing gives the same text. -/
import Derived.Test.YtpdghnlnbhenhaaDoorPp
import Derived.Test.YtpdghnlnbhenhaaDoorPt
namespace Go.Proofs.YtpdghnlnbhenhaaDoor
open Go.RowKit

/-- The byte at a place of a list. -/
def cL (L : List UInt8) (i : Nat) : Nat := (L.getD i 0).toNat
theorem byteAt_mk (L : List UInt8) : byteAt ⟨L.toArray⟩ = cL L := rfl
theorem size_mk (L : List UInt8) : (ByteArray.mk L.toArray).size = L.length := by simp [ByteArray.size]
/-- A list stands at a place. -/
def SegAt (c : Nat → Nat) (i : Nat) (D : List UInt8) : Prop := ∀ j, j < D.length → c (i + j) = cL D j
theorem cL_left {A B : List UInt8} {j : Nat} (h : j < A.length) : cL (A ++ B) j = cL A j := by
  unfold cL; simp only [List.getD_eq_getElem?_getD]; rw [List.getElem?_append_left h]
theorem cL_right {A B : List UInt8} {j : Nat} : cL (A ++ B) (A.length + j) = cL B j := by
  unfold cL; simp only [List.getD_eq_getElem?_getD]; rw [List.getElem?_append_right (by omega)]; congr 3; omega
theorem SegAt.left {c : Nat → Nat} {i : Nat} {A B : List UInt8} (h : SegAt c i (A ++ B)) : SegAt c i A := fun j hj => by
  rw [h j (by simp; omega), cL_left hj]
theorem SegAt.right {c : Nat → Nat} {i : Nat} {A B : List UInt8} (h : SegAt c i (A ++ B)) : SegAt c (i + A.length) B := fun j hj => by
  have := h (A.length + j) (by simp; omega)
  rw [cL_right] at this
  rw [← this]; congr 1; omega
theorem SegAt.head {c : Nat → Nat} {i : Nat} {b : UInt8} {B : List UInt8} (h : SegAt c i (b :: B)) : c i = b.toNat := h 0 (by simp)
theorem seg_all (L : List UInt8) : SegAt (cL L) 0 L := fun j _ => by rw [Nat.zero_add]

theorem dec_snoc (n : Nat) (h : 10 ≤ n) : Lib.decDigits n = Lib.decDigits (n / 10) ++ [UInt8.ofNat (48 + n % 10)] := by
  rw [Lib.decDigits, dif_neg (by omega)]
theorem dec_lt (n : Nat) (h : n < 10) : Lib.decDigits n = [UInt8.ofNat (48 + n)] := by rw [Lib.decDigits, dif_pos h]
theorem dig_nat (x : Nat) (h : x < 10) : (UInt8.ofNat (48 + x)).toNat = 48 + x := by
  simp; omega
theorem dec_pos (n : Nat) : 0 < (Lib.decDigits n).length := by
  rw [Lib.decDigits]; split <;> simp
theorem dec_digits (n : Nat) : ∀ c i, SegAt c i (Lib.decDigits n) → ∀ j, i ≤ j → j < i + (Lib.decDigits n).length → digB (c j) = true := by
  induction n using Nat.strongRecOn with
  | _ n ih =>
    intro c i h j h1 h2
    by_cases hn : n < 10
    · rw [dec_lt n hn] at h h2
      have := h.head
      obtain rfl : j = i := by simp at h2; omega
      rw [this, dig_nat n hn]; simp [digB]; omega
    · rw [dec_snoc n (by omega)] at h h2
      by_cases hj : j < i + (Lib.decDigits (n / 10)).length
      · exact ih (n / 10) (by omega) c i h.left j h1 hj
      · have := h.right.head
        simp at h2
        obtain rfl : j = i + (Lib.decDigits (n / 10)).length := by omega
        rw [this, dig_nat _ (by omega)]; simp [digB]; omega
theorem dec_val (n : Nat) : n < 1024 → ∀ c i, SegAt c i (Lib.decDigits n) → numV c i (Lib.decDigits n).length = n := by
  induction n using Nat.strongRecOn with
  | _ n ih =>
    intro hlt c i h
    by_cases hn : n < 10
    · rw [dec_lt n hn] at h ⊢
      have := h.head
      simp only [List.length_cons, List.length_nil, numV, Nat.add_zero]
      rw [this, dig_nat n hn]; omega
    · rw [dec_snoc n (by omega)] at h ⊢
      have hv := ih (n / 10) (by omega) (by omega) c i h.left
      have := h.right.head
      simp only [List.length_append, List.length_cons, List.length_nil, Nat.zero_add, numV]
      rw [hv, this, dig_nat _ (by omega)]; omega
theorem dec_head (n : Nat) : 1 ≤ n → ∀ c i, SegAt c i (Lib.decDigits n) → c i ≠ 48 := by
  induction n using Nat.strongRecOn with
  | _ n ih =>
    intro h1 c i h
    by_cases hn : n < 10
    · rw [dec_lt n hn] at h
      have := h.head
      rw [this, dig_nat n hn]; omega
    · rw [dec_snoc n (by omega)] at h
      exact ih (n / 10) (by omega) (by omega) c i h.left
theorem number_dec (c : Nat → Nat) (len i n : Nat) (hn : n < 1024) (h : SegAt c i (Lib.decDigits n)) (hl : i + (Lib.decDigits n).length ≤ len)
    (he : i + (Lib.decDigits n).length = len ∨ digB (c (i + (Lib.decDigits n).length)) = false) : numberR c len i = (n, i + (Lib.decDigits n).length, 0) := by
  have hp := dec_pos n
  have hE : numEnd c len i = i + (Lib.decDigits n).length := numEnd_eq c len i _ (by omega) hl (dec_digits n c i h) he
  have hV : numV c i (i + (Lib.decDigits n).length - i) = n := by rw [Nat.add_sub_cancel_left]; exact dec_val n hn c i h
  unfold numberR
  rw [if_neg (by omega), hE, if_neg (by omega), hV, if_neg (by omega), if_neg]
  rintro ⟨h1, h2⟩
  by_cases h0 : n = 0
  · subst h0
    rw [dec_lt 0 (by omega)] at h2
    simp at h2
  · exact dec_head n (by omega) c i h h1

/-- One row's text by itself. -/
def rowBody (i e : Nat) : List UInt8 := if i < e then Lib.decDigits i ++ 45 :: Lib.decDigits e else Lib.decDigits i
theorem rowT_body (acc : List UInt8) (i e : Nat) : rowT acc i e = (if acc.length = 0 then acc else acc ++ [44]) ++ rowBody i e := by
  unfold rowT rowBody
  rw [Lib.itoa_nonneg, Lib.itoa_nonneg]
  by_cases h1 : acc.length = 0 <;> by_cases h2 : i < e <;> simp [h1, h2]
theorem body_pos (i e : Nat) : 0 < (rowBody i e).length := by
  have := dec_pos i
  unfold rowBody; split <;> simp <;> omega
theorem item_row (c : Nat → Nat) (len st i e : Nat) (hi : i ≤ e) (he : e < 1024) (h : SegAt c st (rowBody i e)) (hl : st + (rowBody i e).length ≤ len)
    (hb : st + (rowBody i e).length = len ∨ c (st + (rowBody i e).length) = 44) : itemR c len st = (i, e, st + (rowBody i e).length, 0) := by
  unfold rowBody at h hl hb ⊢
  have h44 : digB 44 = false := by decide
  by_cases hie : i < e
  · rw [if_pos hie] at h hl hb ⊢
    simp only [List.length_append, List.length_cons] at hl hb ⊢
    have hd := h.right
    have h45 : c (st + (Lib.decDigits i).length) = 45 := hd.head
    have hs2 : SegAt c (st + (Lib.decDigits i).length + 1) (Lib.decDigits e) := by
      have : SegAt c (st + (Lib.decDigits i).length) ([45] ++ Lib.decDigits e) := hd
      exact this.right
    have n1 := number_dec c len st i (by omega) h.left (by omega) (.inr (by rw [h45]; decide))
    have n2 := number_dec c len (st + (Lib.decDigits i).length + 1) e he hs2 (by omega) (by
      rcases hb with hb | hb
      · exact .inl (by omega)
      · exact .inr (by rw [show st + (Lib.decDigits i).length + 1 + (Lib.decDigits e).length = st + ((Lib.decDigits i).length + ((Lib.decDigits e).length + 1)) by omega, hb]; exact h44))
    unfold itemR
    simp only [n1, n2, ne_eq, not_true_eq_false, if_false]
    rw [if_pos ⟨by omega, h45⟩, if_neg (by omega)]
    unfold tailR
    rw [if_neg]
    · simp only [Prod.mk.injEq, true_and, and_true]; omega
    · rintro ⟨h1, h2⟩
      rcases hb with hb | hb
      · omega
      · exact h2 (by rw [← hb]; congr 1; omega)
  · rw [if_neg hie] at h hl hb ⊢
    obtain rfl : i = e := by omega
    have n1 := number_dec c len st i he h hl (by
      rcases hb with hb | hb
      · exact .inl hb
      · exact .inr (by rw [hb]; exact h44))
    unfold itemR
    simp only [n1, ne_eq, not_true_eq_false, if_false]
    rw [if_neg (by rintro ⟨h1, h2⟩; rcases hb with hb | hb <;> omega)]
    unfold tailR
    rw [if_neg (by rintro ⟨h1, h2⟩; rcases hb with hb | hb <;> omega)]

/-- What is printed goes on from what is there. -/
theorem print_app (p : Nat → Bool) : ∀ fu o acc, ∃ R, printFrom p fu o acc = acc ++ R ∧ (acc.length = 0 ∨ R = [] ∨ ∃ R', R = 44 :: R') := by
  intro fu
  induction fu with
  | zero => intro o acc; exact ⟨[], by simp [printFrom], .inr (.inl rfl)⟩
  | succ fu ih =>
    intro o acc
    cases o with
    | none => exact ⟨[], by simp [printFrom], .inr (.inl rfl)⟩
    | some i =>
      obtain ⟨R, hR, _⟩ := ih (firstO (fromP p ((endOf p i : Int) + 1))) (rowT acc i (endOf p i))
      rw [printFrom, hR, rowT_body]
      by_cases ha : acc.length = 0
      · rw [if_pos ha]; exact ⟨rowBody i (endOf p i) ++ R, by simp, .inl ha⟩
      · rw [if_neg ha]; exact ⟨44 :: (rowBody i (endOf p i) ++ R), by simp, .inr (.inr ⟨_, rfl⟩)⟩
theorem print_length (p : Nat → Bool) : ∀ fu o acc, (∀ i, o = some i → i < 1024 ∧ p i = true) → (printFrom p fu o acc).length ≤ acc.length + 60 * fu := by
  intro fu
  induction fu with
  | zero => intro o acc _; simp [printFrom]
  | succ fu ih =>
    intro o acc ho
    cases o with
    | none => simp [printFrom]
    | some i =>
      obtain ⟨h1, h2⟩ := ho i rfl
      have hE := endOf_spec p i h1 h2
      have l1 := Lib.itoa_length_le (i : Int) (by omega) (by omega)
      have l2 := Lib.itoa_length_le (endOf p i : Int) (by omega) (by have := hE.2.1; omega)
      have := ih (firstO (fromP p ((endOf p i : Int) + 1))) (rowT acc i (endOf p i)) (fun j hj => by
        have := fromP_next p _ j hj; exact ⟨this.1, this.2.1⟩)
      have hr : (rowT acc i (endOf p i)).length ≤ acc.length + 50 := by
        have h3 : (if acc.length = 0 then acc else acc ++ [44]).length ≤ acc.length + 1 := by split <;> simp
        unfold rowT
        generalize (if acc.length = 0 then acc else acc ++ [44]) = A at h3 ⊢
        dsimp only
        split <;> simp only [List.length_append, List.length_cons, List.length_nil] <;> omega
      rw [printFrom]; omega
theorem printAll_length (p : Nat → Bool) : (printAll p).length ≤ 61500 := by
  have := print_length p 1025 (firstO p) [] (fun i hi => by obtain ⟨a, b, _⟩ := firstO_spec hi; exact ⟨a, b⟩)
  unfold printAll
  simpa using this
theorem any_false {p q : Nat → Bool} {i e : Nat} (h : ∀ n, n < 1024 → q n = (p n && decide (n < i))) : ((List.range 1024).any fun n => q n && (decide (i ≤ n) && decide (n ≤ e))) = false := by
  rw [List.any_eq_false]
  intro n hn
  rw [h n (by simpa using hn)]
  simp; omega
/-- The rest of a printing is parsed as the rest of the set. -/
theorem parse_from (p : Nat → Bool) : ∀ fu i acc q f T, printFrom p fu (some i) acc = T → i < 1024 → p i = true → 1025 ≤ fu + i →
    (∀ n, n < 1024 → q n = (p n && decide (n < i))) → T.length + 1 ≤ f + (if acc.length = 0 then 0 else acc.length + 1) →
    ∃ q', parseR (cL T) T.length f q (if acc.length = 0 then 0 else acc.length + 1) = (q', 0, 0) ∧ ∀ n, n < 1024 → q' n = p n := by
  intro fu
  induction fu with
  | zero => intro i acc q f T _ hi _ hfu; omega
  | succ fu ih =>
    intro i acc q f T hT hi hp hfu hq hf
    obtain ⟨e1, e2, e3, e4⟩ := endOf_spec p i hi hp
    rw [printFrom] at hT
    generalize endOf p i = e at *
    have he4 : ∀ h : e + 1 < 1024, p (e + 1) = false := fun h => by
      have := hasP_yes p (e + 1) h
      rw [show ((e + 1 : Nat) : Int) = (e : Int) + 1 by omega, e4] at this
      exact this.symm
    obtain ⟨R, hR, hR2⟩ := print_app p fu (firstO (fromP p ((e : Int) + 1))) (rowT acc i e)
    have hTR : T = rowT acc i e ++ R := by rw [← hT, hR]
    generalize hst : (if acc.length = 0 then 0 else acc.length + 1) = st at *
    have hrl : (rowT acc i e).length = st + (rowBody i e).length := by
      rw [rowT_body, List.length_append]
      by_cases ha : acc.length = 0
      · rw [if_pos ha] at hst ⊢; omega
      · rw [if_neg ha] at hst ⊢; simp; omega
    have hbp := body_pos i e
    have hseg : SegAt (cL T) st (rowBody i e) := by
      have h1 : SegAt (cL T) 0 ((if acc.length = 0 then acc else acc ++ [44]) ++ (rowBody i e ++ R)) := by
        rw [← List.append_assoc, ← rowT_body, ← hTR]; exact seg_all T
      have h2 := h1.right.left
      have h3 : 0 + (if acc.length = 0 then acc else acc ++ [44]).length = st := by
        by_cases ha : acc.length = 0
        · rw [if_pos ha] at hst ⊢; omega
        · rw [if_neg ha] at hst ⊢; simp; omega
      rwa [h3] at h2
    have hlen : T.length = st + (rowBody i e).length + R.length := by rw [hTR, List.length_append, hrl]
    have hend : st + (rowBody i e).length = T.length ∨ cL T (st + (rowBody i e).length) = 44 := by
      rcases hR2 with h0 | h0 | ⟨R', h0⟩
      · omega
      · left; rw [hlen, h0]; simp
      · right
        have h1 : SegAt (cL T) 0 (rowT acc i e ++ 44 :: R') := by rw [← h0, ← hTR]; exact seg_all T
        have := h1.right.head
        rw [hrl, Nat.zero_add] at this
        simpa using this
    have hitem := item_row (cL T) T.length st i e e1 e2 hseg (by omega) hend
    obtain ⟨f, rfl⟩ : ∃ n, f = n + 1 := ⟨f - 1, by omega⟩
    rw [parseR]
    simp only [hitem, ne_eq, not_true_eq_false, if_false]
    rw [any_false hq]
    simp only [Bool.false_eq_true, if_false]
    by_cases hfin : st + (rowBody i e).length = T.length
    · rw [if_pos hfin]
      refine ⟨_, rfl, fun n hn => ?_⟩
      have hR0 : R = [] := List.eq_nil_of_length_eq_zero (by omega)
      have hno : firstO (fromP p ((e : Int) + 1)) = none := by
        cases ho : firstO (fromP p ((e : Int) + 1)) with
        | none => rfl
        | some j =>
          exfalso
          obtain ⟨c1, c2, c3⟩ := fromP_next p e j ho
          obtain ⟨fu', rfl⟩ : ∃ m, fu = m + 1 := ⟨fu - 1, by omega⟩
          rw [ho, printFrom] at hR
          obtain ⟨R2, hR3, _⟩ := print_app p fu' (firstO (fromP p ((endOf p j : Int) + 1))) (rowT (rowT acc i e) j (endOf p j))
          rw [hR3, hR0, rowT_body (rowT acc i e)] at hR
          have := congrArg List.length hR
          have hb2 := body_pos j (endOf p j)
          rw [if_neg (by omega)] at this
          simp at this
      rw [hq n hn]
      by_cases h1 : n < i
      · simp [h1]; intro h2; omega
      · by_cases h2 : n ≤ e
        · have := e3 n (by omega) h2
          simp [h1, h2, this]; omega
        · have h3 : p n = false := by
            cases hpn : p n with
            | false => rfl
            | true =>
              exfalso
              have := List.find?_eq_none.1 hno n (by simpa using hn)
              apply this
              unfold fromP; simp [hpn]; omega
          simp [h3]; omega
    · rw [if_neg hfin]
      cases ho : firstO (fromP p ((e : Int) + 1)) with
      | none =>
        exfalso
        rw [ho] at hR
        have h0 : printFrom p fu none (rowT acc i e) = rowT acc i e := by cases fu <;> rfl
        rw [h0] at hR
        have := congrArg List.length hR
        simp at this
        subst this
        simp at hlen; omega
      | some j =>
        obtain ⟨c1, c2, c3⟩ := fromP_next p e j ho
        have hjl := (firstO_spec ho).2.2
        rw [ho] at hT
        have := ih j (rowT acc i e) (fun n => q n || (decide (i ≤ n) && decide (n ≤ e))) f T hT c1 c2 (by omega) (fun n hn => by
          rw [hq n hn]
          by_cases h1 : n < i
          · have : n < j := by omega
            simp [h1, this]; intro h2; omega
          · by_cases h2 : n ≤ e
            · have := e3 n (by omega) h2
              have h3 : n < j := by omega
              simp [h1, h2, this, h3]; omega
            · by_cases h3 : n < j
              · have := hjl n h3
                unfold fromP at this
                have hpn : p n = false := by
                  cases hpn : p n with
                  | false => rfl
                  | true => rw [hpn] at this; simp at this; omega
                simp [hpn]; omega
              · simp [h1, h2, h3]) (by rw [if_neg (by omega)]; omega)
        rw [if_neg (by omega), hrl] at this
        exact this
theorem printAll_none {p : Nat → Bool} (h : firstO p = none) : printAll p = [] := by unfold printAll; rw [h]; rfl
/-- A set's printing is parsed as it. -/
theorem parse_printAll (p : Nat → Bool) : parseV (parseAll (byteAt ⟨(printAll p).toArray⟩) (ByteArray.mk (printAll p).toArray).size) = .tuple #[.agg (cellsOf p), .int .i64 0, .int .i64 0] := by
  rw [byteAt_mk, size_mk]
  cases ho : firstO p with
  | none =>
    rw [printAll_none ho]
    unfold parseAll parseV
    simp only [List.length_nil, if_true]
    rw [cellsOf_congr (p := fun _ => false) (q := p) fun n hn => by
      have := List.find?_eq_none.1 ho n (by simpa using hn)
      simpa using this]
    rfl
  | some i =>
    obtain ⟨a, b, c⟩ := firstO_spec ho
    have hT : printFrom p 1025 (some i) [] = printAll p := by unfold printAll; rw [ho]
    have := parse_from p 1025 i [] (fun _ => false) ((printAll p).length + 1) (printAll p) hT a b (by omega) (fun n hn => by
      by_cases h : n < i
      · simp [c n h]
      · simp [h]) (by simp)
    obtain ⟨q', h1, h2⟩ := this
    simp only [List.length_nil, if_true] at h1
    have hne : (printAll p).length ≠ 0 := by
      intro h0
      obtain ⟨R, hR, _⟩ := print_app p 1024 (firstO (fromP p ((endOf p i : Int) + 1))) (rowT [] i (endOf p i))
      rw [printFrom, hR, rowT_body] at hT
      have h2 := congrArg List.length hT
      have h3 := body_pos i (endOf p i)
      simp only [List.length_append, List.length_nil, if_true] at h2; omega
    unfold parseAll
    rw [if_neg hne, h1]
    unfold parseV
    rw [cellsOf_congr h2]
    rfl
theorem printAll_congr {p q : Nat → Bool} (h : cellsOf p = cellsOf q) : parseV (parseAll (byteAt ⟨(printAll p).toArray⟩) (ByteArray.mk (printAll p).toArray).size) = parseV (parseAll (byteAt ⟨(printAll q).toArray⟩) (ByteArray.mk (printAll q).toArray).size) := by
  rw [parse_printAll, parse_printAll, h]
theorem printAll_inj {p q : Nat → Bool} (h : printAll p = printAll q) : eqP p q = true := by
  have h1 := parse_printAll p
  rw [h, parse_printAll q] at h1
  have h2 : cellsOf q = cellsOf p := by
    have h3 := congrArg (fun v => match v with | Value.tuple a => a.getD 0 undef | _ => undef) h1
    exact Value.agg.inj h3
  exact eqP_true.2 fun n hn => (cellsOf_inj h2 n hn).symm

/-- A row of neighbours begins. -/
def rs (p : Nat → Bool) (n : Nat) : Bool := p n && !hasP p ((n : Int) - 1)
/-- The first beginning from k on. -/
def rsFrom (p : Nat → Bool) (k : Nat) : Option Nat := firstO fun n => decide (k ≤ n) && rs p n
theorem rs_here (p : Nat → Bool) (k : Nat) (hk : k < 1024) (h : rs p k = true) : rsFrom p k = some k :=
  firstO_some hk (by simp [h]) fun j hj => by simp; omega
theorem rs_not (p : Nat → Bool) (k : Nat) (h : rs p k = false) : rsFrom p k = rsFrom p (k + 1) := firstO_congr fun n _ => by
  by_cases e : n = k
  · subst e; simp [h]
  · congr 1; simp; omega
theorem rs_end (p : Nat → Bool) : rsFrom p 1024 = none := firstO_none fun j hj => by simp; omega
theorem has_before (p : Nat → Bool) (n : Nat) (h : n + 1 < 1025) : hasP p (((n + 1 : Nat) : Int) - 1) = p n := by
  rw [show ((n + 1 : Nat) : Int) - 1 = (n : Int) by omega]; exact hasP_yes p n (by omega)
theorem rs_zero (p : Nat → Bool) : rsFrom p 0 = firstO p := by
  cases ho : firstO p with
  | none =>
    refine firstO_none fun j hj => ?_
    have := List.find?_eq_none.1 ho j (by simpa using hj)
    simp at this
    simp [rs, this]
  | some i =>
    obtain ⟨a, b, c⟩ := firstO_spec ho
    refine firstO_some a ?_ fun j hj => by simp [rs, c j hj]
    cases i with
    | zero => simp [rs, b]; exact hasP_no p _ (by omega)
    | succ i => simp only [rs, b, has_before p i (by omega), c i (by omega)]; simp
theorem rs_next (p : Nat → Bool) (i e : Nat) (hE : RowEnd p i e) : rsFrom p (i + 1) = firstO (fromP p ((e : Int) + 1)) := by
  obtain ⟨e1, e2, e3, e4⟩ := hE
  have he4 : ∀ h : e + 1 < 1024, p (e + 1) = false := fun h => by
    have := hasP_yes p (e + 1) h
    rw [show ((e + 1 : Nat) : Int) = (e : Int) + 1 by omega, e4] at this
    exact this.symm
  have hin : ∀ n, i + 1 ≤ n → n ≤ e → rs p n = false := fun n h1 h2 => by
    obtain ⟨m, rfl⟩ : ∃ m, n = m + 1 := ⟨n - 1, by omega⟩
    unfold rs
    rw [has_before p m (by omega), e3 m (by omega) (by omega)]; simp
  cases ho : firstO (fromP p ((e : Int) + 1)) with
  | none =>
    refine firstO_none fun j hj => ?_
    have := List.find?_eq_none.1 ho j (by simpa using hj)
    by_cases h : i + 1 ≤ j ∧ j ≤ e
    · simp [hin j h.1 h.2]
    · by_cases h1 : j ≤ i
      · simp; omega
      · have hp : p j = false := by
          cases hp : p j with
          | false => rfl
          | true => exfalso; apply this; unfold fromP; simp [hp]; omega
        simp [rs, hp]
  | some j =>
    obtain ⟨c1, c2, c3⟩ := fromP_next p e j ho
    have hjl := (firstO_spec ho).2.2
    have hno : ∀ n, e + 1 ≤ n → n < j → p n = false := fun n h1 h2 => by
      cases hp : p n with
      | false => rfl
      | true => have := hjl n h2; unfold fromP at this; rw [hp] at this; simp at this; omega
    refine firstO_some c1 ?_ fun n hn => ?_
    · obtain ⟨m, rfl⟩ : ∃ m, j = m + 1 := ⟨j - 1, by omega⟩
      have hm : p m = false := by
        by_cases h : m = e
        · subst h; exact absurd c2 (by rw [he4 c1]; simp)
        · exact hno m (by omega) (by omega)
      simp only [rs, c2, has_before p m (by omega), hm]; simp; omega
    · by_cases h : i + 1 ≤ n
      · by_cases h1 : n ≤ e
        · simp [hin n h h1]
        · simp [rs, hno n (by omega) hn]
      · simp; omega
end Go.Proofs.YtpdghnlnbhenhaaDoor
