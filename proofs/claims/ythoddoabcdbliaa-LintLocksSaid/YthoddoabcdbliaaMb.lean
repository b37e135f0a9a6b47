/- Rows of sets of locks; how much they can still turn. -/
import Derived.Test.YthoddoabcdbliaaMa
namespace Go.Proofs.Ythoddoabcdbliaa
open Go.RowKit

/-- A row of sets of locks. -/
def setC (F : Nat → Nat → Bool) (N : Nat) : Array Value := ((List.range N).map fun i => Value.int .u16 (wordB (F i) 16 : Nat)).toArray
theorem setC_get (F : Nat → Nat → Bool) {N i : Nat} (h : i < N) : (setC F N)[i]? = some (.int .u16 (wordB (F i) 16 : Nat)) := by simp [setC, h]
theorem setC_congr {F H : Nat → Nat → Bool} {N : Nat} (h : ∀ i, i < N → wordB (F i) 16 = wordB (H i) 16) : setC F N = setC H N := by
  apply Array.ext_getElem?
  intro i
  by_cases hi : i < N
  · rw [setC_get _ hi, setC_get _ hi, h i hi]
  · simp [setC, hi]
def upd (F : Nat → Nat → Bool) (j : Nat) (q : Nat → Bool) : Nat → Nat → Bool := fun i => if i = j then q else F i
theorem setC_set (F : Nat → Nat → Bool) {N j : Nat} (q : Nat → Bool) (h : j < N) : (setC F N).setIfInBounds j (.int .u16 (wordB q 16 : Nat)) = setC (upd F j q) N := by
  apply Array.ext_getElem?
  intro i
  by_cases hi : i < N
  · rw [setC_get _ hi, Array.getElem?_setIfInBounds]
    by_cases e : j = i
    · subst e; simp [setC, h, upd]
    · rw [if_neg e, setC_get _ hi, upd, if_neg (fun q => e q.symm)]
  · simp [setC, hi]
theorem cnt_mono {p q : Nat → Bool} (n : Nat) (h : ∀ k, k < n → p k = true → q k = true) : cnt p n ≤ cnt q n := by
  induction n with
  | zero => exact Nat.le_refl _
  | succ n ih =>
    rw [cnt, cnt]
    have := ih fun k hk => h k (by omega)
    have hn := h n (by omega)
    cases e : p n with
    | false => simp; omega
    | true => rw [hn e]; simp; omega
theorem cnt_less {p q : Nat → Bool} (n : Nat) (h : ∀ k, k < n → p k = true → q k = true) {k : Nat} (hk : k < n) (h1 : p k = false) (h2 : q k = true) : cnt p n < cnt q n := by
  induction n with
  | zero => omega
  | succ n ih =>
    rw [cnt, cnt]
    by_cases e : k = n
    · subst e
      have := cnt_mono (p := p) (q := q) k fun j hj => h j (by omega)
      simp [h1, h2]; omega
    · have := ih (fun j hj => h j (by omega)) (by omega)
      have hn := h n (by omega)
      cases e : p n with
      | false => simp; omega
      | true => rw [hn e]; simp; omega
/-- How much sets can still turn. -/
def mu (d : Bool → Bool) (F : Nat → Nat → Bool) : Nat → Nat
  | 0 => 0
  | n + 1 => mu d F n + cnt (fun k => d (F n k)) 16
theorem mu_congr (d : Bool → Bool) {F H : Nat → Nat → Bool} (n : Nat) (h : ∀ i, i < n → ∀ k, k < 16 → F i k = H i k) : mu d F n = mu d H n := by
  induction n with
  | zero => rfl
  | succ n ih => rw [mu, mu, ih fun i hi => h i (by omega), cnt_congr 16 fun k hk => by rw [h n (by omega) k hk]]
theorem mu_le (d : Bool → Bool) (F : Nat → Nat → Bool) (j : Nat) (q : Nat → Bool) (n : Nat) (h : ∀ k, k < 16 → d (q k) = true → d (F j k) = true) : mu d (upd F j q) n ≤ mu d F n := by
  induction n with
  | zero => exact Nat.le_refl _
  | succ n ih =>
    rw [mu, mu]
    by_cases e : n = j
    · subst e
      have := cnt_mono (p := fun k => d (q k)) (q := fun k => d (F n k)) 16 h
      have e2 : (fun k => d (upd F n q n k)) = fun k => d (q k) := by funext k; simp [upd]
      rw [e2]; omega
    · have e2 : (fun k => d (upd F j q n k)) = fun k => d (F n k) := by funext k; simp [upd, e]
      rw [e2]; omega
theorem mu_less (d : Bool → Bool) (F : Nat → Nat → Bool) (j : Nat) (q : Nat → Bool) (n : Nat) (hj : j < n) (h : ∀ k, k < 16 → d (q k) = true → d (F j k) = true) {k : Nat} (hk : k < 16) (h1 : d (q k) = false) (h2 : d (F j k) = true) : mu d (upd F j q) n < mu d F n := by
  induction n with
  | zero => omega
  | succ n ih =>
    rw [mu, mu]
    by_cases e : n = j
    · subst e
      have h3 := mu_le d F n q n h
      have := cnt_less (p := fun k => d (q k)) (q := fun k => d (F n k)) 16 h hk h1 h2
      have e2 : (fun k => d (upd F n q n k)) = fun k => d (q k) := by funext k; simp [upd]
      rw [e2]; omega
    · have := ih (by omega)
      have e2 : (fun k => d (upd F j q n k)) = fun k => d (F n k) := by funext k; simp [upd, e]
      rw [e2]; omega
/-- The sets that lie in a row. -/
def fw (W : World) (G : Nat) : Nat → Nat → Bool := fun i k => match W.cell? ⟨G, i, none⟩ with
  | some (.int _ x) => x.toNat.testBit k
  | _ => false
theorem mu_fw {W : World} {G : Nat} {F : Nat → Nat → Bool} {N : Nat} (d : Bool → Bool) (h : Blk W G 39 (setC F N)) : mu d (fw W G) N = mu d F N :=
  mu_congr d N fun i hi k hk => by
    unfold fw
    rw [h.cell i, setC_get _ hi]
    simp only [Int.toNat_natCast]
    rw [wordB_testBit]; simp [hk]
def mesO (d : Bool → Bool) (N G : Nat) (c : Value) (W : World) : Nat := 2 * mu d (fw W G) N + (match c with | .bool true => 1 | _ => 0)
theorem mesO_eq {W : World} {G : Nat} {F : Nat → Nat → Bool} {N : Nat} (d : Bool → Bool) (h : Blk W G 39 (setC F N)) (b : Bool) : mesO d N G (.bool b) W = 2 * mu d F N + (if b then 1 else 0) := by
  unfold mesO; rw [mu_fw d h]; cases b <;> rfl
/-- Nothing turns any more, behind the first places. -/
def Clo (o : Bool → Bool → Bool) (l : List I4) (S all : Nat → Bool) (F : Nat → Nat → Bool) (n : Nat) : Prop :=
  ∀ (pc : Nat) (x : I4), pc < n → S pc = true → l[pc]? = some x → ∀ j : Nat, (j : Int) ∈ nextP x pc → ∀ b, b < 16 → o (F j b) (bhP x (F pc) all b) = F j b
theorem InsIn.but {X : Nat → Prop} {w w' : World} {A : Option Addr} {l : List I4} (h : InsIn w A l) (hb : But X w w') (hX : ∀ a, A = some a → ¬ X a.block) : InsIn w' A l := fun i x hx => by
  obtain ⟨f, b, off, e, hlt, h0, h1, h2, h3⟩ := h i x hx
  have hB := hX _ e
  have hc : ∀ j, w'.cell? ⟨b, j, none⟩ = w.cell? ⟨b, j, none⟩ := fun j => World.cell?_of_block (hb.block b hlt hB)
  exact ⟨f, b, off, e, Nat.lt_of_lt_of_le hlt hb.size, (hc _).trans h0, (hc _).trans h1, (hc _).trans h2, (hc _).trans h3⟩
theorem NumsIn.but {X : Nat → Prop} {w w' : World} {A : Option Addr} {l : List Int} (h : NumsIn w A l) (hb : But X w w') (hX : ∀ a, A = some a → ¬ X a.block) : NumsIn w' A l := fun i x hx => by
  obtain ⟨b, off, e, hlt, h0⟩ := h i x hx
  exact ⟨b, off, e, Nat.lt_of_lt_of_le hlt hb.size, (World.cell?_of_block (hb.block b hlt (hX _ e))).trans h0⟩
end Go.Proofs.Ythoddoabcdbliaa
