/- How many bits a word has: the counting by halves, quarters and so on, of the library's text, in plain numbers. -/
import Derived.Test.YtekahmfchpgmfaaSm
namespace Go.Proofs.Ytekahmfchpgmfaa

/-- How many of the first k numbers are in p. -/
def cnt (p : Nat → Bool) : Nat → Nat
  | 0 => 0
  | k + 1 => cnt p k + if p k then 1 else 0
theorem cnt_le (p : Nat → Bool) (k : Nat) : cnt p k ≤ k := by
  induction k with
  | zero => simp [cnt]
  | succ k ih => rw [cnt]; split <;> omega
theorem cnt_add (p : Nat → Bool) (m n : Nat) : cnt p (m + n) = cnt p m + cnt (fun k => p (m + k)) n := by
  induction n with
  | zero => simp [cnt]
  | succ n ih => rw [← Nat.add_assoc, cnt, cnt, ih]; omega
theorem cnt_congr {p q : Nat → Bool} (k : Nat) (h : ∀ n, n < k → p n = q n) : cnt p k = cnt q k := by
  induction k with
  | zero => rfl
  | succ k ih => rw [cnt, cnt, ih (fun n hn => h n (by omega)), h k (by omega)]
theorem cnt_laws (p q : Nat → Bool) (k : Nat) : cnt (fun n => p n && q n) k + cnt (fun n => p n || q n) k = cnt p k + cnt q k := by
  induction k with
  | zero => rfl
  | succ k ih =>
    simp only [cnt]
    have h : ∀ a b : Bool, (if (a && b) = true then 1 else 0) + (if (a || b) = true then 1 else 0) = (if a = true then 1 else 0) + (if b = true then (1 : Nat) else 0) := by decide
    have := h (p k) (q k)
    omega
theorem wordB_add (p : Nat → Bool) (m n : Nat) : wordB p (m + n) = wordB p m + 2 ^ m * wordB (fun k => p (m + k)) n := by
  induction n with
  | zero => simp [wordB]
  | succ n ih =>
    rw [← Nat.add_assoc, wordB, wordB, ih, Nat.mul_add, Nat.pow_add]
    by_cases h : p (m + n) = true
    · rw [if_pos h, if_pos h]; omega
    · rw [if_neg h, if_neg h]; omega

theorem land_cons (a b V M : Nat) (ha : a < 16) (hb : b < 16) : (a + 16 * V) &&& (b + 16 * M) = (a &&& b) + 16 * (V &&& M) := by
  apply Nat.eq_of_testBit_eq
  intro j
  have hab : a &&& b < 16 := Nat.lt_of_le_of_lt Nat.and_le_left ha
  rw [Nat.testBit_and]
  have key : ∀ c W : Nat, c < 16 → (c + 16 * W).testBit j = if j < 4 then c.testBit j else W.testBit (j - 4) := fun c W hc => by
    rw [Nat.add_comm, show 16 * W + c = 2 ^ 4 * W + c from rfl, Nat.testBit_two_pow_mul_add _ (by omega)]
  rw [key a V ha, key b M hb, key _ _ hab]
  split
  · rw [Nat.testBit_and]
  · rw [Nat.testBit_and]

/-- n digits to the base 16. -/
def val (d : Nat → Nat) : Nat → Nat
  | 0 => 0
  | n + 1 => d 0 + 16 * val (fun i => d (i + 1)) n
theorem val_lt (d : Nat → Nat) (n : Nat) (h : ∀ i, d i < 16) : val d n < 16 ^ n := by
  induction n generalizing d with
  | zero => simp [val]
  | succ n ih =>
    have := ih (fun i => d (i + 1)) (fun i => h _)
    have h0 := h 0
    rw [val, Nat.pow_succ]; omega
theorem val_add (d e : Nat → Nat) (n : Nat) : val d n + val e n = val (fun i => d i + e i) n := by
  induction n generalizing d e with
  | zero => rfl
  | succ n ih => simp only [val]; rw [← ih]; omega
theorem val_land (d m : Nat → Nat) (n : Nat) (hd : ∀ i, d i < 16) (hm : ∀ i, m i < 16) : val d n &&& val m n = val (fun i => d i &&& m i) n := by
  induction n generalizing d m with
  | zero => simp [val]
  | succ n ih => simp only [val]; rw [land_cons _ _ _ _ (hd 0) (hm 0), ih _ _ (fun i => hd _) (fun i => hm _)]
theorem low5 : ∀ e, e < 8 → ∀ b, b < 2 → (e + 8 * b) &&& 5 = e &&& 5 := by decide
theorem low3 : ∀ e, e < 4 → ∀ b, b < 4 → (e + 4 * b) &&& 3 = e &&& 3 := by decide
theorem val_half (d : Nat → Nat) (n : Nat) (hd : ∀ i, d i < 16) : val d n / 2 &&& val (fun _ => 5) n = val (fun i => d i / 2 &&& 5) n := by
  induction n generalizing d with
  | zero => simp [val]
  | succ n ih =>
    simp only [val]
    rw [← ih _ (fun i => hd _)]
    generalize val (fun i => d (i + 1)) n = V
    have h0 := hd 0
    have e : (d 0 + 16 * V) / 2 = (d 0 / 2 + 8 * (V % 2)) + 16 * (V / 2) := by omega
    rw [e, land_cons _ _ _ _ (by omega) (by omega), low5 _ (by omega) _ (by omega)]
theorem val_quarter (d : Nat → Nat) (n : Nat) (hd : ∀ i, d i < 16) : val d n / 4 &&& val (fun _ => 3) n = val (fun i => d i / 4 &&& 3) n := by
  induction n generalizing d with
  | zero => simp [val]
  | succ n ih =>
    simp only [val]
    rw [← ih _ (fun i => hd _)]
    generalize val (fun i => d (i + 1)) n = V
    have h0 := hd 0
    have e : (d 0 + 16 * V) / 4 = (d 0 / 4 + 4 * (V % 4)) + 16 * (V / 4) := by omega
    rw [e, land_cons _ _ _ _ (by omega) (by omega), low3 _ (by omega) _ (by omega)]
theorem wordB_val (p : Nat → Bool) (n : Nat) : wordB p (4 * n) = val (fun j => wordB (fun k => p (4 * j + k)) 4) n := by
  induction n generalizing p with
  | zero => rfl
  | succ n ih =>
    rw [show 4 * (n + 1) = 4 + 4 * n by omega, wordB_add, ih]
    simp only [val]
    have : (fun j => wordB (fun k => (fun k => p (4 + k)) (4 * j + k)) 4) = fun j => wordB (fun k => p (4 * (j + 1) + k)) 4 := by
      funext j
      rw [show (fun k => (fun k => p (4 + k)) (4 * j + k)) = fun k => p (4 * (j + 1) + k) from funext fun k => by show p (4 + (4 * j + k)) = _; rw [show 4 + (4 * j + k) = 4 * (j + 1) + k by omega]]
    rw [this]
    rw [show (fun k => p (4 * 0 + k)) = p from funext fun k => by rw [show 4 * 0 + k = k by omega]]
/-- Four bits, counted in two steps. -/
def c2 (d : Nat) : Nat := (d / 2 &&& 5) + (d &&& 5)
theorem c2_lt : ∀ d, d < 16 → c2 d < 16 := by decide
def c4 (d : Nat) : Nat := (c2 d / 4 &&& 3) + (c2 d &&& 3)
theorem c4_le : ∀ d, d < 16 → c4 d ≤ 4 := by decide
theorem c4_cnt (p : Nat → Bool) : c4 (wordB p 4) = cnt p 4 := by
  simp only [wordB, cnt]
  cases p 0 <;> cases p 1 <;> cases p 2 <;> cases p 3 <;> rfl
/-- The counting's first three steps, and its last ones, as the text has them. -/
def sw1 (x : Nat) : Nat := (x / 2 &&& 6148914691236517205) + (x &&& 6148914691236517205)
def sw2 (x : Nat) : Nat := (x / 4 &&& 3689348814741910323) + (x &&& 3689348814741910323)
def sw3 (x : Nat) : Nat := (x / 16 + x) &&& 1085102592571150095
theorem mask5 : (6148914691236517205 : Nat) = val (fun _ => 5) 16 := by decide
theorem mask3 : (3689348814741910323 : Nat) = val (fun _ => 3) 16 := by decide
theorem mask15 : (1085102592571150095 : Nat) = val (fun i => if i % 2 = 0 then 15 else 0) 16 := by decide
theorem sw1_val (d : Nat → Nat) (hd : ∀ i, d i < 16) : sw1 (val d 16) = val (fun i => c2 (d i)) 16 := by
  unfold sw1
  rw [mask5, val_half d 16 hd, val_land d _ 16 hd (fun _ => by decide), val_add]; rfl
theorem sw2_val (d : Nat → Nat) (hd : ∀ i, d i < 16) : sw2 (val d 16) = val (fun i => (d i / 4 &&& 3) + (d i &&& 3)) 16 := by
  unfold sw2
  rw [mask3, val_quarter d 16 hd, val_land d _ 16 hd (fun _ => by decide), val_add]
theorem val_last (f : Nat → Nat) (n : Nat) : val f (n + 1) = val f n + 16 ^ n * f n := by
  induction n generalizing f with
  | zero => simp [val]
  | succ n ih =>
    have h := ih (fun i => f (i + 1))
    have e1 : val f (n + 1 + 1) = f 0 + 16 * val (fun i => f (i + 1)) (n + 1) := rfl
    have e2 : val f (n + 1) = f 0 + 16 * val (fun i => f (i + 1)) n := rfl
    rw [e1, h, e2, Nat.pow_succ]
    have : 16 * (16 ^ n * f (n + 1)) = 16 ^ n * 16 * f (n + 1) := by rw [← Nat.mul_assoc, Nat.mul_comm 16]
    omega
theorem val_congr {f g : Nat → Nat} (n : Nat) (h : ∀ i, i < n → f i = g i) : val f n = val g n := by
  induction n generalizing f g with
  | zero => rfl
  | succ n ih =>
    have e1 : val f (n + 1) = f 0 + 16 * val (fun i => f (i + 1)) n := rfl
    have e2 : val g (n + 1) = g 0 + 16 * val (fun i => g (i + 1)) n := rfl
    rw [e1, e2, h 0 (by omega), ih (fun i hi => h (i + 1) (by omega))]
def pairG (d : Nat → Nat) (i : Nat) : Nat := if i % 2 = 0 then (if i = 15 then 0 else d (i + 1)) + d i else 0
theorem pair_even (d : Nat → Nat) (i : Nat) (h : i % 2 = 0) : pairG d i = d (i + 1) + d i := by
  unfold pairG; rw [if_pos h, if_neg (by omega)]
theorem sw3_val (d : Nat → Nat) (hd : ∀ i, d i ≤ 4) : sw3 (val d 16) = val (pairG d) 16 := by
  unfold sw3
  have e : val d 16 / 16 = val (fun i => if i = 15 then 0 else d (i + 1)) 16 := by
    have e1 : val d 16 = d 0 + 16 * val (fun i => d (i + 1)) 15 := rfl
    have h0 := hd 0
    rw [e1, val_last _ 15, if_pos rfl, Nat.mul_zero, Nat.add_zero]
    rw [val_congr (f := fun i => if i = 15 then 0 else d (i + 1)) (g := fun i => d (i + 1)) 15 (fun i hi => if_neg (by omega))]
    omega
  rw [e, val_add, mask15, val_land _ _ 16 (fun i => by have := hd i; have := hd (i + 1); split <;> omega) (fun i => by split <;> decide)]
  refine val_congr 16 fun i _ => ?_
  unfold pairG
  by_cases h : i % 2 = 0
  · rw [if_pos h, if_pos h]
    have h1 := hd i; have h2 := hd (i + 1)
    have : ∀ s, s < 16 → s &&& 15 = s := by decide
    exact this _ (by split <;> omega)
  · rw [if_neg h, if_neg h, Nat.and_zero]
def sw4 (x : Nat) : Nat := x + x / 256
def sw5 (x : Nat) : Nat := x + x / 65536
def sw6 (x : Nat) : Nat := x + x / 4294967296
def ones (x : Nat) : Nat := sw6 (sw5 (sw4 (sw3 (sw2 (sw1 x))))) % 128
/-- Eight bytes. -/
def by8 (e0 e1 e2 e3 e4 e5 e6 e7 : Nat) : Nat := e0 + 256 * (e1 + 256 * (e2 + 256 * (e3 + 256 * (e4 + 256 * (e5 + 256 * (e6 + 256 * e7))))))
theorem by8_1 (e0 e1 e2 e3 e4 e5 e6 e7 : Nat) (h0 : e0 ≤ 64) : by8 e0 e1 e2 e3 e4 e5 e6 e7 / 256 = by8 e1 e2 e3 e4 e5 e6 e7 0 := by unfold by8; omega
theorem by8_add (a0 a1 a2 a3 a4 a5 a6 a7 b0 b1 b2 b3 b4 b5 b6 b7 : Nat) : by8 a0 a1 a2 a3 a4 a5 a6 a7 + by8 b0 b1 b2 b3 b4 b5 b6 b7 = by8 (a0 + b0) (a1 + b1) (a2 + b2) (a3 + b3) (a4 + b4) (a5 + b5) (a6 + b6) (a7 + b7) := by unfold by8; omega
theorem tail_sum (e0 e1 e2 e3 e4 e5 e6 e7 : Nat) (h0 : e0 ≤ 8) (h1 : e1 ≤ 8) (h2 : e2 ≤ 8) (h3 : e3 ≤ 8) (h4 : e4 ≤ 8) (h5 : e5 ≤ 8) (h6 : e6 ≤ 8) (h7 : e7 ≤ 8) :
    sw6 (sw5 (sw4 (by8 e0 e1 e2 e3 e4 e5 e6 e7))) % 128 = e0 + e1 + e2 + e3 + e4 + e5 + e6 + e7 := by
  have a : sw4 (by8 e0 e1 e2 e3 e4 e5 e6 e7) = by8 (e0 + e1) (e1 + e2) (e2 + e3) (e3 + e4) (e4 + e5) (e5 + e6) (e6 + e7) (e7 + 0) := by
    unfold sw4; rw [by8_1 _ _ _ _ _ _ _ _ (by omega), by8_add]
  have b : sw5 (sw4 (by8 e0 e1 e2 e3 e4 e5 e6 e7)) = by8 (e0 + e1 + (e2 + e3)) (e1 + e2 + (e3 + e4)) (e2 + e3 + (e4 + e5)) (e3 + e4 + (e5 + e6)) (e4 + e5 + (e6 + e7)) (e5 + e6 + (e7 + 0)) (e6 + e7 + 0) (e7 + 0 + 0) := by
    unfold sw5; rw [a, show (65536 : Nat) = 256 * 256 from rfl, ← Nat.div_div_eq_div_mul, by8_1 _ _ _ _ _ _ _ _ (by omega), by8_1 _ _ _ _ _ _ _ _ (by omega), by8_add]
  unfold sw6
  rw [b, show (4294967296 : Nat) = 256 * 256 * 256 * 256 from rfl, ← Nat.div_div_eq_div_mul, ← Nat.div_div_eq_div_mul, ← Nat.div_div_eq_div_mul, by8_1 _ _ _ _ _ _ _ _ (by omega), by8_1 _ _ _ _ _ _ _ _ (by omega), by8_1 _ _ _ _ _ _ _ _ (by omega), by8_1 _ _ _ _ _ _ _ _ (by omega), by8_add]
  unfold by8
  omega
theorem val16 (g : Nat → Nat) (h : ∀ i, i % 2 = 1 → g i = 0) : val g 16 = by8 (g 0) (g 2) (g 4) (g 6) (g 8) (g 10) (g 12) (g 14) := by
  have s : ∀ m n, m % 2 = 0 → val (fun i => g (i + m)) (n + 2) = g m + 256 * val (fun i => g (i + (m + 2))) n := fun m n hm => by
    have e : val (fun i => g (i + m)) (n + 2) = g (0 + m) + 16 * (g (0 + 1 + m) + 16 * val (fun i => g (i + 1 + 1 + m)) n) := rfl
    rw [e, h (0 + 1 + m) (by omega), Nat.zero_add, show (fun i => g (i + 1 + 1 + m)) = fun i => g (i + (m + 2)) from funext fun i => by rw [show i + 1 + 1 + m = i + (m + 2) by omega]]
    omega
  have z : val (fun i => g (i + 16)) 0 = 0 := rfl
  have e0 : val g 16 = g 0 + 256 * val (fun i => g (i + 2)) 14 := s 0 14 rfl
  rw [e0, s 2 12 rfl, s 4 10 rfl, s 6 8 rfl, s 8 6 rfl, s 10 4 rfl, s 12 2 rfl, s 14 0 rfl, z]
  rfl
theorem cnt16 (p : Nat → Bool) : cnt p 64 = cnt (fun k => p (4 * 0 + k)) 4 + cnt (fun k => p (4 * 1 + k)) 4 + cnt (fun k => p (4 * 2 + k)) 4 + cnt (fun k => p (4 * 3 + k)) 4 + cnt (fun k => p (4 * 4 + k)) 4 + cnt (fun k => p (4 * 5 + k)) 4 + cnt (fun k => p (4 * 6 + k)) 4 + cnt (fun k => p (4 * 7 + k)) 4 + cnt (fun k => p (4 * 8 + k)) 4 + cnt (fun k => p (4 * 9 + k)) 4 + cnt (fun k => p (4 * 10 + k)) 4 + cnt (fun k => p (4 * 11 + k)) 4 + cnt (fun k => p (4 * 12 + k)) 4 + cnt (fun k => p (4 * 13 + k)) 4 + cnt (fun k => p (4 * 14 + k)) 4 + cnt (fun k => p (4 * 15 + k)) 4 := by
  have s : ∀ n, cnt p (4 * (n + 1)) = cnt p (4 * n) + cnt (fun k => p (4 * n + k)) 4 := fun n => by rw [show 4 * (n + 1) = 4 * n + 4 by omega, cnt_add]
  have s0 := s 0; have s1 := s 1; have s2 := s 2; have s3 := s 3; have s4 := s 4; have s5 := s 5; have s6 := s 6; have s7 := s 7
  have s8 := s 8; have s9 := s 9; have s10 := s 10; have s11 := s 11; have s12 := s 12; have s13 := s 13; have s14 := s 14; have s15 := s 15
  simp only [Nat.reduceAdd, Nat.reduceMul] at *
  have z : cnt p 0 = 0 := rfl
  omega
/-- The text's counting counts. -/
theorem ones_word (p : Nat → Bool) : ones (wordB p 64) = cnt p 64 := by
  rw [show wordB p 64 = wordB p (4 * 16) from rfl, wordB_val]
  have hd : ∀ i, (fun j => wordB (fun k => p (4 * j + k)) 4) i < 16 := fun i => wordB_lt _ 4
  unfold ones
  rw [sw1_val _ hd, sw2_val _ (fun i => c2_lt _ (hd i))]
  obtain ⟨c, hcc⟩ : ∃ c : Nat → Nat, ∀ i, cnt (fun k => p (4 * i + k)) 4 = c i := ⟨fun i => cnt (fun k => p (4 * i + k)) 4, fun _ => rfl⟩
  have hc : ∀ i, c i ≤ 4 := fun i => by rw [← hcc]; exact cnt_le _ 4
  have he : (fun i => (c2 (wordB (fun k => p (4 * i + k)) 4) / 4 &&& 3) + (c2 (wordB (fun k => p (4 * i + k)) 4) &&& 3)) = c := funext fun i => (c4_cnt _).trans (hcc i)
  rw [he, sw3_val c hc, cnt16, hcc 0, hcc 1, hcc 2, hcc 3, hcc 4, hcc 5, hcc 6, hcc 7, hcc 8, hcc 9, hcc 10, hcc 11, hcc 12, hcc 13, hcc 14, hcc 15]
  rw [val16 (pairG c) (fun i hi => by unfold pairG; exact if_neg (by omega)), pair_even c 0 rfl, pair_even c 2 rfl, pair_even c 4 rfl, pair_even c 6 rfl, pair_even c 8 rfl, pair_even c 10 rfl, pair_even c 12 rfl, pair_even c 14 rfl]
  simp only [Nat.reduceAdd]
  have h0 := hc 0; have h1 := hc 1; have h2 := hc 2; have h3 := hc 3; have h4 := hc 4; have h5 := hc 5; have h6 := hc 6; have h7 := hc 7
  have h8 := hc 8; have h9 := hc 9; have h10 := hc 10; have h11 := hc 11; have h12 := hc 12; have h13 := hc 13; have h14 := hc 14; have h15 := hc 15
  refine (tail_sum _ _ _ _ _ _ _ _ ?_ ?_ ?_ ?_ ?_ ?_ ?_ ?_).trans ?_ <;> omega
end Go.Proofs.Ytekahmfchpgmfaa
