/- plain facts of layer 31: rows of five numbers as bytes, and back. -/
import Derived.Test.YtchhenpijbecaaaDoorCa
namespace Go.Proofs.YtchhenpijbecaaaDoor
open Go

/-- five numbers. -/
structure I5 where
  a : Int
  b : Int
  c : Int
  d : Int
  e : Int
deriving DecidableEq
def B64 (n : Int) : Prop := -9223372036854775808 ≤ n ∧ n ≤ 9223372036854775807
def Fit5 (x : I5) : Prop := B64 x.a ∧ B64 x.b ∧ B64 x.c ∧ B64 x.d ∧ B64 x.e
def nums5 (x : I5) : List Int := [x.a, x.b, x.c, x.d, x.e]
/-- the bytes of numbers, one behind the other. -/
def intsB (l : List Int) : List UInt8 := l.flatMap intB
theorem intsB_cons (n : Int) (l : List Int) : intsB (n :: l) = intB n ++ intsB l := by simp [intsB]
theorem intsB_app (l m : List Int) : intsB (l ++ m) = intsB l ++ intsB m := by simp [intsB]
theorem intsB_nil : intsB [] = [] := rfl
theorem intsB_len (l : List Int) (h : ∀ n ∈ l, B64 n) : (intsB l).length ≤ 10 * l.length := by
  induction l with
  | nil => simp [intsB]
  | cons n l ih =>
    rw [intsB_cons, List.length_append, List.length_cons]
    have := intB_len (h n (by simp))
    have := ih fun m hm => h m (by simp [hm])
    omega
def fiveB (x : I5) : List UInt8 := intsB (nums5 x)
def fivesB (L : List I5) : List UInt8 := L.flatMap fiveB
theorem fivesB_cons (x : I5) (L : List I5) : fivesB (x :: L) = fiveB x ++ fivesB L := by simp [fivesB]
theorem fivesB_app (L M : List I5) : fivesB (L ++ M) = fivesB L ++ fivesB M := by simp [fivesB]
theorem fit_nums {x : I5} (h : Fit5 x) : ∀ n ∈ nums5 x, B64 n := by
  obtain ⟨h1, h2, h3, h4, h5⟩ := h
  simp only [nums5, List.mem_cons, List.not_mem_nil, or_false]
  rintro n (rfl | rfl | rfl | rfl | rfl) <;> assumption
theorem fiveB_len {x : I5} (h : Fit5 x) : (fiveB x).length ≤ 50 := intsB_len _ (fit_nums h)
theorem fiveB_pos (x : I5) : 0 < (fiveB x).length := by
  have := intB_pos x.a
  simp [fiveB, nums5, intsB]; omega
theorem fivesB_len (L : List I5) (h : ∀ x ∈ L, Fit5 x) : (fivesB L).length ≤ 50 * L.length := by
  induction L with
  | nil => simp [fivesB]
  | cons n l ih =>
    rw [fivesB_cons, List.length_append, List.length_cons]
    have := fiveB_len (h n (by simp))
    have := ih fun m hm => h m (by simp [hm])
    omega
/-- numbers taken one behind the other. -/
def takeN (l : List UInt8) : Nat → Nat → Option (List Int × Nat)
  | 0, k => some ([], k)
  | n + 1, k => match getN l k with
    | none => none
    | some (x, m) => (takeN l n m).map fun p => (x :: p.1, p.2)
def row5 : List Int → I5
  | [a, b, c, d, e] => ⟨a, b, c, d, e⟩
  | _ => ⟨0, 0, 0, 0, 0⟩
def get5 (l : List UInt8) (k : Nat) : Option (I5 × Nat) := (takeN l 5 k).map fun p => (row5 p.1, p.2)
/-- rows of five, as far as bytes go; -1, or the place of the first that isn't one. -/
def parse5 (l : List UInt8) : Nat → Nat → List I5 → List I5 × Int
  | 0, k, acc => if k < l.length then ([], k) else (acc, -1)
  | f + 1, k, acc => if k < l.length then (match get5 l k with
      | none => ([], k)
      | some (x, m) => parse5 l f m (acc ++ [x])) else (acc, -1)
def parseAll (l : List UInt8) : List I5 × Int := parse5 l l.length 0 []

theorem takeN_intsB (xs : List Int) : ∀ (a rest : List UInt8), (∀ n ∈ xs, B64 n) → takeN (a ++ (intsB xs ++ rest)) xs.length a.length = some (xs, a.length + (intsB xs).length) := by
  induction xs with
  | nil => intro a rest _; simp [takeN, intsB]
  | cons x xs ih =>
    intro a rest h
    have hg := getN_intB (n := x) (h x (by simp)) a (intsB xs ++ rest)
    have e : a ++ (intsB (x :: xs) ++ rest) = a ++ (intB x ++ (intsB xs ++ rest)) := by simp [intsB_cons]
    rw [e, List.length_cons, takeN, hg]
    have h2 := ih (a ++ intB x) rest fun n hn => h n (by simp [hn])
    rw [List.length_append, List.append_assoc] at h2
    simp only [h2, Option.map_some, Option.some.injEq, Prod.mk.injEq, true_and]
    simp [intsB_cons]; omega
theorem get5_fiveB {x : I5} (h : Fit5 x) (a rest : List UInt8) : get5 (a ++ (fiveB x ++ rest)) a.length = some (x, a.length + (fiveB x).length) := by
  have := takeN_intsB (nums5 x) a rest (fit_nums h)
  unfold get5 fiveB
  rw [show (5 : Nat) = (nums5 x).length from rfl, this]
  rfl
theorem takeN_back (l : List UInt8) (n : Nat) : ∀ (k m : Nat) (xs : List Int), k ≤ l.length → takeN l n k = some (xs, m) →
    xs.length = n ∧ (∀ x ∈ xs, B64 x) ∧ m = k + (intsB xs).length ∧ m ≤ l.length ∧ ∃ rest, l.drop k = intsB xs ++ rest := by
  induction n with
  | zero => intro k m xs hk h; simp [takeN] at h; obtain ⟨rfl, rfl⟩ := h; exact ⟨rfl, by simp, by simp [intsB], hk, _, rfl⟩
  | succ n ih =>
    intro k m xs hk h
    rw [takeN] at h
    match hg : getN l k with
    | none => rw [hg] at h; cases h
    | some (x, j) =>
      rw [hg] at h
      obtain ⟨rest, e1, e2, e3, e4, e5⟩ := getN_back hk hg
      match ht : takeN l n j with
      | none => simp [ht] at h
      | some (ys, m') =>
        simp [ht] at h
        obtain ⟨rfl, rfl⟩ := h
        obtain ⟨h1, h2, h3, h4, rest', h5⟩ := ih j m' ys e5 ht
        refine ⟨by simp [h1], ?_, ?_, h4, rest', ?_⟩
        · intro y hy
          rcases List.mem_cons.1 hy with rfl | hy
          · exact ⟨e3, e4⟩
          · exact h2 y hy
        · rw [intsB_cons, List.length_append]; omega
        · rw [intsB_cons, List.append_assoc, ← h5, e1]
          congr 1
          have : l.drop j = (l.drop k).drop (intB x).length := by rw [List.drop_drop, e2]
          rw [this, e1, List.drop_left]
theorem get5_back {l : List UInt8} {k m : Nat} {x : I5} (hk : k ≤ l.length) (h : get5 l k = some (x, m)) :
    Fit5 x ∧ k < m ∧ m ≤ l.length ∧ ∃ rest, l.drop k = fiveB x ++ rest ∧ l.drop m = rest := by
  unfold get5 at h
  match ht : takeN l 5 k with
  | none => rw [ht] at h; cases h
  | some (xs, j) =>
    rw [ht] at h
    simp at h
    obtain ⟨rfl, rfl⟩ := h
    obtain ⟨h1, h2, h3, h4, rest, h5⟩ := takeN_back l 5 k j xs hk ht
    match xs, h1 with
    | [a, b, c, d, e], _ =>
      have hp := fiveB_pos ⟨a, b, c, d, e⟩
      refine ⟨⟨h2 a (by simp), h2 b (by simp), h2 c (by simp), h2 d (by simp), h2 e (by simp)⟩, ?_, h4, rest, h5, ?_⟩
      · rw [h3]; simp [fiveB, nums5] at hp; omega
      · have : l.drop j = (l.drop k).drop (intsB [a, b, c, d, e]).length := by rw [List.drop_drop, h3]
        rw [this, h5, List.drop_left]
theorem parse5_fivesB (L : List I5) : ∀ (f : Nat) (a : List UInt8) (acc : List I5), (∀ x ∈ L, Fit5 x) → L.length ≤ f →
    parse5 (a ++ fivesB L) f a.length acc = (acc ++ L, -1) := by
  induction L with
  | nil => intro f a acc _ _; cases f <;> simp [parse5, fivesB]
  | cons x L ih =>
    intro f a acc h hf
    obtain _ | f := f
    · simp at hf
    have hp := fiveB_pos x
    have hg := get5_fiveB (h x (by simp)) a (fivesB L)
    rw [fivesB_cons, parse5, if_pos (by simp; omega), hg]
    have := ih f (a ++ fiveB x) (acc ++ [x]) (fun y hy => h y (by simp [hy])) (by simpa using hf)
    simp only [List.length_append, List.append_assoc] at this
    simpa using this
theorem fives_many (L : List I5) : L.length ≤ (fivesB L).length := by
  induction L with
  | nil => simp
  | cons x L ih => rw [fivesB_cons, List.length_append, List.length_cons]; have := fiveB_pos x; omega
theorem parseAll_fivesB (L : List I5) (h : ∀ x ∈ L, Fit5 x) : parseAll (fivesB L) = (L, -1) := by
  have := parse5_fivesB L (fivesB L).length [] [] h (fives_many L)
  unfold parseAll; simpa using this
theorem parse5_back (l : List UInt8) (f : Nat) : ∀ (k : Nat) (acc L : List I5) (bad : Int), k ≤ l.length → l.length ≤ f + k → parse5 l f k acc = (L, bad) →
    (bad = -1 ∧ ∃ M, L = acc ++ M ∧ (∀ x ∈ M, Fit5 x) ∧ l.drop k = fivesB M) ∨ (L = [] ∧ 0 ≤ bad ∧ bad < l.length) := by
  induction f with
  | zero =>
    intro k acc L bad hk hf h
    rw [parse5, if_neg (by omega)] at h
    injection h with h1 h2
    subst h1 h2
    exact .inl ⟨rfl, [], by simp, by simp, by simp [fivesB]; omega⟩
  | succ f ih =>
    intro k acc L bad hk hf h
    rw [parse5] at h
    split at h
    · rename_i hlt
      match hg : get5 l k with
      | none =>
        rw [hg] at h
        injection h with h1 h2
        subst h1 h2
        exact .inr ⟨rfl, by omega, by omega⟩
      | some (x, m) =>
        rw [hg] at h
        obtain ⟨g1, g2, g3, rest, g4, g5⟩ := get5_back hk hg
        rcases ih m _ L bad g3 (by omega) h with ⟨e, M, e1, e2, e3⟩ | h'
        · refine .inl ⟨e, x :: M, by simp [e1], ?_, by rw [g4, fivesB_cons, ← e3, g5]⟩
          intro y hy
          rcases List.mem_cons.1 hy with rfl | hy
          · exact g1
          · exact e2 y hy
        · exact .inr h'
    · rename_i hge
      injection h with h1 h2
      subst h1 h2
      exact .inl ⟨rfl, [], by simp, by simp, by simp [fivesB]; omega⟩
theorem parseAll_back (l : List UInt8) (L : List I5) (bad : Int) (h : parseAll l = (L, bad)) :
    (bad = -1 ∧ (∀ x ∈ L, Fit5 x) ∧ l = fivesB L) ∨ (L = [] ∧ 0 ≤ bad ∧ bad < l.length) := by
  rcases parse5_back l l.length 0 [] L bad (by omega) (by omega) h with ⟨e, M, e1, e2, e3⟩ | h'
  · refine .inl ⟨e, ?_⟩
    simp at e1 e3
    subst e1
    exact ⟨e2, e3⟩
  · exact .inr h'
theorem fivesB_inj {L M : List I5} (hL : ∀ x ∈ L, Fit5 x) (hM : ∀ x ∈ M, Fit5 x) (h : fivesB L = fivesB M) : L = M := by
  have h1 := parseAll_fivesB L hL
  rw [h, parseAll_fivesB M hM] at h1
  injection h1 with h1
  exact h1.symm
end Go.Proofs.YtchhenpijbecaaaDoor
