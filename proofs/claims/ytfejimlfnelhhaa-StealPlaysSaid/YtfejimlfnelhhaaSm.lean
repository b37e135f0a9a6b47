/- A shared row (layer 28), told plainly: its words, where each party is in its call, what a step does. Imports nothing of the program. -/
import Derived.Lib.Hide
namespace Go.Proofs.Ytfejimlfnelhhaa

/-- Where one is in its call. -/
structure Cl where
  nx : Nat
  b : Int
  t : Int
  x : Int
  won : Bool
def Cl.out : Cl := ⟨0, 0, 0, 0, false⟩
/-- The row's words. -/
structure Dq where
  top : Int
  bot : Int
  sl : Nat → Int
  room : Nat
  cl : Nat → Cl
  th : Nat
def updS (f : Nat → Int) (i : Nat) (x : Int) : Nat → Int := fun j => if j = i then x else f j
theorem updS_same (f : Nat → Int) (i : Nat) (x : Int) : updS f i x i = x := by simp [updS]
theorem updS_other (f : Nat → Int) {i j : Nat} (x : Int) (h : j ≠ i) : updS f i x j = f j := by simp [updS, h]
def updC (f : Nat → Cl) (i : Nat) (c : Cl) : Nat → Cl := fun j => if j = i then c else f j
theorem updC_same (f : Nat → Cl) (i : Nat) (c : Cl) : updC f i c i = c := by simp [updC]
theorem updC_other (f : Nat → Cl) {i j : Nat} (c : Cl) (h : j ≠ i) : updC f i c j = f j := by simp [updC, h]
theorem updC_twice (f : Nat → Cl) (i : Nat) (c d : Cl) : updC (updC f i c) i d = updC f i d := by
  funext j; unfold updC; split <;> rfl
/-- The slot of a number. -/
def slotN (room : Nat) (n : Int) : Nat := n.toNat % room
theorem slotN_lt {room : Nat} (h : 1 ≤ room) (n : Int) : slotN room n < room := Nat.mod_lt _ h
/-- What a step does: how the call ends (0: it goes on), the shared words behind it, the call behind it. -/
def stepW (D : Dq) (c : Cl) : Nat × Dq × Cl :=
  match c.nx with
  | 1 => (0, D, { c with nx := 2, b := D.bot })
  | 2 => (if (D.room : Int) ≤ c.b - D.top then 4 else 0, D, { c with nx := 3, t := D.top })
  | 3 => (0, { D with sl := updS D.sl (slotN D.room c.b) c.x }, { c with nx := 4 })
  | 4 => (2, { D with bot := c.b + 1 }, { c with nx := 5 })
  | 5 => (0, { D with bot := D.bot - 1 }, { c with nx := 6, b := D.bot - 1 })
  | 6 => (0, D, { c with nx := if c.b < D.top then 9 else 7, t := D.top })
  | 7 => (if c.t < c.b then 1 else 0, D, { c with nx := 8, x := D.sl (slotN D.room c.b) })
  | 8 => (0, { D with top := if D.top = c.t then D.top + 1 else D.top }, { c with nx := 9, won := decide (D.top = c.t) })
  | 9 => (if c.won then 1 else 3, { D with bot := c.b + 1 }, { c with nx := 10 })
  | 10 => (0, D, { c with nx := 11, t := D.top })
  | 11 => (if D.bot ≤ c.t then 3 else 0, D, { c with nx := 12, b := D.bot })
  | 12 => (0, D, { c with nx := 13, x := D.sl (slotN D.room c.t) })
  | 13 => (if D.top = c.t then 1 else 5, { D with top := if D.top = c.t then D.top + 1 else D.top }, { c with nx := 14 })
  | _ => (0, D, { c with nx := c.nx + 1 })
/-- A step of a party that is in a call: the row behind it. -/
def stepD (D : Dq) (k : Nat) : Dq := { (stepW D (D.cl k)).2.1 with cl := updC D.cl k (if (stepW D (D.cl k)).1 = 0 then (stepW D (D.cl k)).2.2 else Cl.out) }
/-- How it ends. -/
def howD (D : Dq) (k : Nat) : Nat := (stepW D (D.cl k)).1
/-- What is taken. -/
def gotD (D : Dq) (k : Nat) : Int := if (stepW D (D.cl k)).1 = 1 then (stepW D (D.cl k)).2.2.x else 0
def beginD (D : Dq) (k : Nat) (nx : Nat) (x : Int) : Dq := { D with cl := updC D.cl k ⟨nx, 0, 0, x, false⟩ }
def newD (room th : Nat) : Dq := ⟨0, 0, fun _ => 0, room, fun _ => Cl.out, th⟩
/-- No step leaves the slots, nor grows too far. -/
structure Nice (D : Dq) (n : Nat) : Prop where
  r1 : 1 ≤ D.room
  r2 : D.room ≤ 64
  th : D.th ≤ 8
  t0 : 0 ≤ D.top
  t1 : D.top ≤ n
  b1 : D.bot ≤ n
  wk : (D.cl 0).nx ≤ 9
  w0 : (D.cl 0).nx ≤ 5 → 0 ≤ D.bot
  w2 : 2 ≤ (D.cl 0).nx → (D.cl 0).nx ≤ 4 → 0 ≤ (D.cl 0).b ∧ (D.cl 0).b ≤ n
  w6 : 6 ≤ (D.cl 0).nx → D.bot = (D.cl 0).b ∧ -1 ≤ (D.cl 0).b ∧ (D.cl 0).b ≤ n
  w7 : 7 ≤ (D.cl 0).nx → (D.cl 0).nx ≤ 8 → 0 ≤ (D.cl 0).t ∧ (D.cl 0).t ≤ (D.cl 0).b
  tk : ∀ k, 1 ≤ k → (D.cl k).nx = 0 ∨ (10 ≤ (D.cl k).nx ∧ (D.cl k).nx ≤ 13)
  t11 : ∀ k, 1 ≤ k → 11 ≤ (D.cl k).nx → 0 ≤ (D.cl k).t ∧ (D.cl k).t ≤ n
theorem Nice.new {room th : Nat} (h1 : 1 ≤ room) (h2 : room ≤ 64) (h3 : th ≤ 8) : Nice (newD room th) 0 := by
  constructor <;> simp [newD, Cl.out, h1, h2, h3]
theorem Nice.mono {D : Dq} {n m : Nat} (h : Nice D n) (hm : n ≤ m) : Nice D m := by
  have a1 := h.t1; have a2 := h.b1
  refine ⟨h.r1, h.r2, h.th, h.t0, by omega, by omega, h.wk, h.w0, fun p q => ?_, fun p => ?_, h.w7, h.tk, fun k p q => ?_⟩
  · have := h.w2 p q; omega
  · have := h.w6 p; omega
  · have := h.t11 k p q; omega
theorem Nice.bot {D : Dq} {n : Nat} (h : Nice D n) : -1 ≤ D.bot := by
  by_cases q : (D.cl 0).nx ≤ 5
  · have := h.w0 q; omega
  · have := h.w6 (by omega); omega
theorem Nice.begin {D : Dq} {n : Nat} (h : Nice D n) {k nx : Nat} {x : Int} (hk : (D.cl k).nx = 0) (hn : (k = 0 ∧ (nx = 1 ∨ nx = 5)) ∨ (1 ≤ k ∧ nx = 10)) : Nice (beginD D k nx x) n := by
  rcases hn with ⟨rfl, hn⟩ | ⟨h1, rfl⟩
  · have hb := h.w0 (by omega)
    refine ⟨h.r1, h.r2, h.th, h.t0, h.t1, h.b1, ?_, fun _ => hb, ?_, ?_, ?_, fun k hk => ?_, fun k hk => ?_⟩
    · simp only [beginD, updC_same]; omega
    · simp only [beginD, updC_same]; omega
    · simp only [beginD, updC_same]; omega
    · simp only [beginD, updC_same]; omega
    · have := h.tk k hk; simp only [beginD]; rw [updC_other _ _ (by omega)]; exact this
    · have := h.t11 k hk; simp only [beginD]; rw [updC_other _ _ (by omega)]; exact this
  · have e : (beginD D k 10 x).cl 0 = D.cl 0 := updC_other _ _ (by omega)
    refine ⟨h.r1, h.r2, h.th, h.t0, h.t1, h.b1, by rw [e]; exact h.wk, by rw [e]; exact h.w0, by rw [e]; exact h.w2, by rw [e]; exact h.w6, by rw [e]; exact h.w7, fun j hj => ?_, fun j hj => ?_⟩
    · by_cases q : j = k
      · subst q; simp [beginD, updC]
      · simp only [beginD]; rw [updC_other _ _ q]; exact h.tk j hj
    · by_cases q : j = k
      · subst q; simp [beginD, updC]
      · simp only [beginD]; rw [updC_other _ _ q]; exact h.t11 j hj
theorem step_eq (D : Dq) (k : Nat) {how : Nat} {E : Dq} {c : Cl} (h : stepW D (D.cl k) = (how, E, c)) : stepD D k = { E with cl := updC D.cl k (if how = 0 then c else Cl.out) } := by
  simp only [stepD, h]
/-- A step of a thief touches the top alone. -/
theorem Nice.thief {D : Dq} {n : Nat} (h : Nice D n) {k : Nat} (hk : 1 ≤ k) {c : Cl} {top : Int} (h0 : D.top ≤ top) (h1 : top ≤ n + 1)
    (hc : c.nx = 0 ∨ (10 ≤ c.nx ∧ c.nx ≤ 13)) (hc2 : 11 ≤ c.nx → 0 ≤ c.t ∧ c.t ≤ n) : Nice { D with top := top, cl := updC D.cl k c } (n + 1) := by
  have e : updC D.cl k c 0 = D.cl 0 := updC_other _ _ (by omega)
  have a0 := h.t0; have a1 := h.b1
  refine ⟨h.r1, h.r2, h.th, ?_, ?_, ?_, by simp only [e]; exact h.wk, by simp only [e]; exact h.w0, ?_, ?_, by simp only [e]; exact h.w7, fun j hj => ?_, fun j hj => ?_⟩
  · show 0 ≤ top; omega
  · show top ≤ ((n + 1 : Nat) : Int); omega
  · show D.bot ≤ ((n + 1 : Nat) : Int); omega
  · simp only [e]; intro p q; have := h.w2 p q; omega
  · simp only [e]; intro p; have := h.w6 p; omega
  · by_cases q : j = k
    · subst q; simp only [updC_same]; exact hc
    · simp only [updC_other _ _ q]; exact h.tk j hj
  · by_cases q : j = k
    · subst q; simp only [updC_same]; intro p; have := hc2 p; omega
    · simp only [updC_other _ _ q]; intro p; have := h.t11 j hj p; omega
/-- A step of the worker. -/
theorem Nice.worker {D : Dq} {n : Nat} (h : Nice D n) {c : Cl} {top bot : Int} {sl : Nat → Int} (h0 : D.top ≤ top) (h1 : top ≤ n + 1) (hb : bot ≤ n + 1) (hc : c.nx ≤ 9) (c0 : c.nx ≤ 5 → 0 ≤ bot)
    (c2 : 2 ≤ c.nx → c.nx ≤ 4 → 0 ≤ c.b ∧ c.b ≤ n + 1) (c6 : 6 ≤ c.nx → bot = c.b ∧ -1 ≤ c.b ∧ c.b ≤ n + 1) (c7 : 7 ≤ c.nx → c.nx ≤ 8 → 0 ≤ c.t ∧ c.t ≤ c.b) :
    Nice { D with top := top, bot := bot, sl := sl, cl := updC D.cl 0 c } (n + 1) := by
  have a0 := h.t0
  refine ⟨h.r1, h.r2, h.th, ?_, ?_, ?_, by simp only [updC_same]; exact hc, by simp only [updC_same]; exact c0, by simp only [updC_same]; intro p q; have := c2 p q; omega, by simp only [updC_same]; intro p; have := c6 p; omega, by simp only [updC_same]; exact c7, fun j hj => ?_, fun j hj => ?_⟩
  · show 0 ≤ top; omega
  · show top ≤ ((n + 1 : Nat) : Int); omega
  · show bot ≤ ((n + 1 : Nat) : Int); omega
  · simp only [updC_other D.cl c (show j ≠ 0 by omega)]; exact h.tk j hj
  · simp only [updC_other D.cl c (show j ≠ 0 by omega)]; intro p; have := h.t11 j hj p; omega
theorem Nice.step {D : Dq} {n : Nat} (h : Nice D n) (k : Nat) (hk : (D.cl k).nx ≠ 0) : Nice (stepD D k) (n + 1) := by
  have a0 := h.t0; have a1 := h.t1; have a2 := h.b1; have a3 := h.bot
  by_cases k0 : k = 0
  · subst k0
    have w0 := h.w0; have w2 := h.w2; have w6 := h.w6; have w7 := h.w7; have wk := h.wk
    obtain ⟨c, hc⟩ : ∃ c, c = D.cl 0 := ⟨_, rfl⟩
    rw [← hc] at w0 w2 w6 w7 wk hk
    have hs : stepD D 0 = { (stepW D c).2.1 with cl := updC D.cl 0 (if (stepW D c).1 = 0 then (stepW D c).2.2 else Cl.out) } := by rw [hc]; rfl
    rw [hs]
    obtain ⟨nx, b, t, x, won⟩ := c
    dsimp only at w0 w2 w6 w7 wk hk
    match nx, hk, wk with
    | 1, _, _ => exact h.worker (Int.le_refl _) (by show D.top ≤ _; omega) (by show D.bot ≤ _; omega) (by simp [stepW]) (fun _ => w0 (by omega)) (by simp [stepW]; omega) (by simp [stepW]) (by simp [stepW])
    | 2, _, _ =>
      have := w2 (by omega) (by omega)
      have := w0 (by omega)
      by_cases q : (D.room : Int) ≤ b - D.top
      · exact h.worker (Int.le_refl _) (by show D.top ≤ _; omega) (by show D.bot ≤ _; omega) (by simp [stepW, q, Cl.out]) (by simp [stepW, q, Cl.out]; omega) (by simp [stepW, q, Cl.out]) (by simp [stepW, q, Cl.out]) (by simp [stepW, q, Cl.out])
      · exact h.worker (Int.le_refl _) (by show D.top ≤ _; omega) (by show D.bot ≤ _; omega) (by simp [stepW, q]) (by simp [stepW, q]; omega) (by simp [stepW, q]; omega) (by simp [stepW, q]) (by simp [stepW, q])
    | 3, _, _ =>
      have := w2 (by omega) (by omega)
      have := w0 (by omega)
      exact h.worker (Int.le_refl _) (by show D.top ≤ _; omega) (by show D.bot ≤ _; omega) (by simp [stepW]) (by simp [stepW]; omega) (by simp [stepW]; omega) (by simp [stepW]) (by simp [stepW])
    | 4, _, _ =>
      have := w2 (by omega) (by omega)
      exact h.worker (Int.le_refl _) (by show D.top ≤ _; omega) (by show b + 1 ≤ _; omega) (by simp [stepW, Cl.out]) (by simp [stepW, Cl.out]; omega) (by simp [stepW, Cl.out]) (by simp [stepW, Cl.out]) (by simp [stepW, Cl.out])
    | 5, _, _ =>
      have := w0 (by omega)
      exact h.worker (Int.le_refl _) (by show D.top ≤ _; omega) (by show D.bot - 1 ≤ _; omega) (by simp [stepW]) (by simp [stepW]) (by simp [stepW]) (by simp [stepW]; omega) (by simp [stepW])
    | 6, _, _ =>
      have := w6 (by omega)
      by_cases q : b < D.top
      · exact h.worker (Int.le_refl _) (by show D.top ≤ _; omega) (by show D.bot ≤ _; omega) (by simp [stepW, q]) (by simp [stepW, q]) (by simp [stepW, q]) (by simp [stepW, q]; omega) (by simp [stepW, q])
      · exact h.worker (Int.le_refl _) (by show D.top ≤ _; omega) (by show D.bot ≤ _; omega) (by simp [stepW, q]) (by simp [stepW, q]) (by simp [stepW, q]) (by simp [stepW, q]; omega) (by simp [stepW, q]; omega)
    | 7, _, _ =>
      have := w6 (by omega)
      have := w7 (by omega) (by omega)
      by_cases q : t < b
      · exact h.worker (Int.le_refl _) (by show D.top ≤ _; omega) (by show D.bot ≤ _; omega) (by simp [stepW, q, Cl.out]) (by simp [stepW, q, Cl.out]; omega) (by simp [stepW, q, Cl.out]) (by simp [stepW, q, Cl.out]) (by simp [stepW, q, Cl.out])
      · exact h.worker (Int.le_refl _) (by show D.top ≤ _; omega) (by show D.bot ≤ _; omega) (by simp [stepW, q]) (by simp [stepW, q]) (by simp [stepW, q]) (by simp [stepW, q]; omega) (by simp [stepW, q]; omega)
    | 8, _, _ =>
      have := w6 (by omega)
      refine h.worker ?_ ?_ (by show D.bot ≤ _; omega) (by simp [stepW]) (by simp [stepW]) (by simp [stepW]) (by simp [stepW]; omega) (by simp [stepW])
      · show D.top ≤ if D.top = t then D.top + 1 else D.top; split <;> omega
      · show (if D.top = t then D.top + 1 else D.top) ≤ _; split <;> omega
    | 9, _, _ =>
      have := w6 (by omega)
      cases won
      · exact h.worker (Int.le_refl _) (by show D.top ≤ _; omega) (by show b + 1 ≤ _; omega) (by simp [stepW, Cl.out]) (by simp [stepW, Cl.out]; omega) (by simp [stepW, Cl.out]) (by simp [stepW, Cl.out]) (by simp [stepW, Cl.out])
      · exact h.worker (Int.le_refl _) (by show D.top ≤ _; omega) (by show b + 1 ≤ _; omega) (by simp [stepW, Cl.out]) (by simp [stepW, Cl.out]; omega) (by simp [stepW, Cl.out]) (by simp [stepW, Cl.out]) (by simp [stepW, Cl.out])
    | 0, hk, _ => exact absurd rfl hk
    | n + 10, _, wk => exact absurd wk (by omega)
  · have k1 : 1 ≤ k := by omega
    have tk := h.tk k k1; have t11 := h.t11 k k1
    obtain ⟨c, hc⟩ : ∃ c, c = D.cl k := ⟨_, rfl⟩
    rw [← hc] at tk t11 hk
    have hs : stepD D k = { (stepW D c).2.1 with cl := updC D.cl k (if (stepW D c).1 = 0 then (stepW D c).2.2 else Cl.out) } := by rw [hc]; rfl
    rw [hs]
    obtain ⟨nx, b, t, x, won⟩ := c
    dsimp only at tk t11 hk
    have hn : nx = 10 ∨ nx = 11 ∨ nx = 12 ∨ nx = 13 := by omega
    rcases hn with rfl | rfl | rfl | rfl
    · exact h.thief k1 (Int.le_refl _) (by show D.top ≤ _; omega) (by simp [stepW]) (by simp [stepW]; omega)
    · have := t11 (by omega)
      by_cases q : D.bot ≤ t
      · exact h.thief k1 (Int.le_refl _) (by show D.top ≤ _; omega) (by simp [stepW, q, Cl.out]) (by simp [stepW, q, Cl.out])
      · exact h.thief k1 (Int.le_refl _) (by show D.top ≤ _; omega) (by simp [stepW, q]) (by simp [stepW, q]; omega)
    · have := t11 (by omega)
      exact h.thief k1 (Int.le_refl _) (by show D.top ≤ _; omega) (by simp [stepW]) (by simp [stepW]; omega)
    · by_cases q : D.top = t
      · exact h.thief k1 (by show D.top ≤ if D.top = t then D.top + 1 else D.top; split <;> omega) (by show (if D.top = t then D.top + 1 else D.top) ≤ _; split <;> omega) (by simp [stepW, q, Cl.out]) (by simp [stepW, q, Cl.out])
      · exact h.thief k1 (by show D.top ≤ if D.top = t then D.top + 1 else D.top; split <;> omega) (by show (if D.top = t then D.top + 1 else D.top) ≤ _; split <;> omega) (by simp [stepW, q, Cl.out]) (by simp [stepW, q, Cl.out])
end Go.Proofs.Ytfejimlfnelhhaa
