/- What is right stays right; a task that has exited stays as it is: plain facts (layer 19). -/
import Derived.Test.YtilaalleiiakoaaDoorKx
import Derived.Test.YtilaalleiiakoaaDoorKt
namespace Go.Proofs.YtilaalleiiakoaaDoor
open Go.RowKit

/-- What the machine's fields say goes together. -/
structure RightF (f : Fl) : Prop where
 st : ∀ (i : Nat) (x : FT), f.ts[i]? = some x → (0 ≤ x.st ∧ x.st ≤ 8) ∧ (x.st = 2 → hasP f.p x.on = true)
 two : ∀ (i j : Nat) (x y : FT), j < i → f.ts[i]? = some x → f.ts[j]? = some y → ¬ (x.st = 2 ∧ y.st = 2 ∧ x.on = y.on)
 ow : ∀ (i : Nat) (t : Int), f.ow[i]? = some t → -1 ≤ t ∧ t < (f.ts.length : Int)
 tm : 0 ≤ f.tm
theorem busy_no {ts : List FT} {cpu : Int} (h : busyP ts cpu = false) {j : Nat} {y : FT} (hy : ts[j]? = some y) : ¬ (y.st = 2 ∧ y.on = cpu) := fun q => by
 unfold busyP at h
 have := List.any_eq_false.1 h y (List.mem_of_getElem? hy)
 simp [q.1, q.2] at this
theorem hasP_put {p : Nat → Bool} {n m : Int} (h : hasP p m = true) : hasP (putP p n) m = true := by
 unfold hasP at *
 rw [Bool.and_eq_true] at *
 refine ⟨h.1, ?_⟩
 unfold putP
 rw [h.2]; rfl
theorem hasP_drop {p : Nat → Bool} {n m : Int} (h : hasP p m = true) (hne : m ≠ n) : hasP (dropP p n) m = true := by
 unfold hasP at *
 rw [Bool.and_eq_true] at *
 refine ⟨h.1, ?_⟩
 have h1 : 0 ≤ m := by have := h.1; simp at this; omega
 unfold dropP
 rw [h.2, show decide (((m.toNat : Nat) : Int) = n) = false by simp; omega]; rfl
/-- What an event does to its task, seen from outside: its state is one, and if it runs then it ran there before, or the worker is free. -/
theorem taskP_st {f : Fl} {ps : List PR} {e : EvP} {x y : FT} (h : taskP f ps e x = some y) (hx : 0 ≤ x.st ∧ x.st ≤ 8) :
  (0 ≤ y.st ∧ y.st ≤ 8) ∧ (y.st = 2 → (x.st = 2 ∧ x.on = y.on) ∨ (hasP f.p y.on = true ∧ busyP f.ts y.on = false)) ∧ (x.st = 8 → y = x) := by
 unfold taskP at h
 by_cases k2 : e.kd = 2
 ·
  rw [if_pos k2] at h
  split at h
  ·
   rename_i c
   obtain rfl := Option.some.inj h
   exact ⟨⟨by show (0 : Int) ≤ 2; omega, by show (2 : Int) ≤ 8; omega⟩, fun _ => .inr ⟨c.2.2.1, c.2.2.2⟩, fun q => by omega⟩
  ·
   cases h
 rw [if_neg k2] at h
 by_cases k3 : e.kd = 3
 ·
  rw [if_pos k3] at h
  split at h
  ·
   rename_i c
   unfold doP at h
   obtain ⟨q, -, rfl⟩ := Option.map_eq_some_iff.1 h
   exact ⟨hx, fun _ => .inl ⟨c.1, rfl⟩, fun q => by omega⟩
  ·
   cases h
 rw [if_neg k3] at h
 by_cases k4 : e.kd = 4
 ·
  rw [if_pos k4] at h
  split at h
  ·
   rename_i c
   obtain rfl := Option.some.inj h
   exact ⟨⟨by show (0 : Int) ≤ 0; omega, by show (0 : Int) ≤ 8; omega⟩, fun q => (by simp at q), fun q => by omega⟩
  ·
   cases h
 rw [if_neg k4] at h
 have hh : ∀ {s o : Int}, homeP x.st = true → (0 ≤ s ∧ s ≤ 8 ∧ s ≠ 2) → y = { x with st := s, on := o } → (0 ≤ y.st ∧ y.st ≤ 8) ∧ (y.st = 2 → (x.st = 2 ∧ x.on = y.on) ∨ (hasP f.p y.on = true ∧ busyP f.ts y.on = false)) ∧ (x.st = 8 → y = x) := fun {s o} c hs hy => by
  subst hy
  refine ⟨⟨hs.1, hs.2.1⟩, fun q => absurd q hs.2.2, fun q => ?_⟩
  unfold homeP at c
  simp at c; omega
 by_cases k5 : e.kd = 5
 ·
  rw [if_pos k5] at h
  split at h
  ·
   rename_i c; exact hh c (by omega) (Option.some.inj h).symm
  ·
   cases h
 rw [if_neg k5] at h
 by_cases k6 : e.kd = 6
 ·
  rw [if_pos k6] at h
  split at h
  ·
   rename_i c; exact hh c (by omega) (Option.some.inj h).symm
  ·
   cases h
 rw [if_neg k6] at h
 by_cases k7 : e.kd = 7
 ·
  rw [if_pos k7] at h
  split at h
  ·
   rename_i c; exact hh c (by omega) (Option.some.inj h).symm
  ·
   cases h
 rw [if_neg k7] at h
 by_cases k8 : e.kd = 8
 ·
  rw [if_pos k8] at h
  split at h
  ·
   rename_i c
   obtain rfl := Option.some.inj h
   exact ⟨⟨by show (0 : Int) ≤ 1; omega, by show (1 : Int) ≤ 8; omega⟩, fun q => (by simp at q), fun q => by omega⟩
  ·
   cases h
 rw [if_neg k8] at h
 by_cases k11 : e.kd = 11
 ·
  rw [if_pos k11] at h
  split at h
  ·
   rename_i c
   obtain rfl := Option.some.inj h
   have hw : e.a = 3 ∨ e.a = 4 ∨ e.a = 5 := by have := c.2; unfold waitP at this; simpa using this
   refine ⟨⟨by show 0 ≤ e.a; omega, by show e.a ≤ 8; omega⟩, fun q => ?_, fun q => by omega⟩
   have : e.a = 2 := q
   omega
  ·
   cases h
 rw [if_neg k11] at h
 by_cases k13 : e.kd = 13
 ·
  rw [if_pos k13] at h
  split at h
  ·
   rename_i c
   obtain rfl := Option.some.inj h
   exact ⟨⟨by show (0 : Int) ≤ 8; omega, by show (8 : Int) ≤ 8; omega⟩, fun q => (by simp at q), fun q => by omega⟩
  ·
   cases h
 rw [if_neg k13] at h
 by_cases k12 : e.kd = 12
 ·
  rw [if_pos k12] at h
  split at h
  ·
   rename_i c
   obtain rfl := Option.some.inj h
   exact ⟨hx, fun q => .inl ⟨q, rfl⟩, fun _ => rfl⟩
  ·
   cases h
 rw [if_neg k12] at h
 by_cases k21 : e.kd = 21
 ·
  rw [if_pos k21] at h
  split at h
  ·
   rename_i c
   obtain rfl := Option.some.inj h
   exact ⟨hx, fun q => .inl ⟨q, rfl⟩, fun q => absurd q c.1⟩
  ·
   cases h
 rw [if_neg k21] at h
 cases h
/-- A task that has exited stays, whatever the machine is. -/
theorem taskP_exit {f : Fl} {ps : List PR} {e : EvP} {x y : FT} (h : taskP f ps e x = some y) (hx : x.st = 8) : y = x := (taskP_st h (by omega)).2.2 hx
theorem pass_get {ow o : List Int} {i old new : Int} (h : passP ow i old new = some o) (j : Nat) (t t' : Int) (hj : ow[j]? = some t) (hj' : o[j]? = some t') : t' = t ∨ (t = old ∧ t' = new) := by
 unfold passP at h
 split at h
 ·
  rename_i c
  obtain rfl := Option.some.inj h
  rw [List.getElem?_set] at hj'
  split at hj'
  ·
   rename_i e
   split at hj'
   ·
    rw [e] at c
    rw [hj] at c
    exact .inr ⟨Option.some.inj c.2, (Option.some.inj hj').symm⟩
   ·
    cases hj'
  ·
   rw [hj] at hj'; exact .inl (Option.some.inj hj').symm
 ·
  cases h
/-- Three things of an event that may be: right stays right; who has exited stays; a lock goes from nobody or to nobody. -/
theorem turnP_keeps {f g : Fl} {ps : List PR} {e : EvP} (h : turnP f ps e = some g) :
  (RightF f → RightF g) ∧ (∀ (i : Nat) (x : FT), f.ts[i]? = some x → x.st = 8 → g.ts[i]? = some x) ∧ (∀ (i : Nat) (t t' : Int), f.ow[i]? = some t → g.ow[i]? = some t' → t' = t ∨ t' = -1 ∨ t = -1) ∧ f.ts.length ≤ g.ts.length ∧ g.ow.length = f.ow.length := by
 have hsame : ∀ {o o' : List Int}, o' = o → ∀ (i : Nat) (t t' : Int), o[i]? = some t → o'[i]? = some t' → t' = t ∨ t' = -1 ∨ t = -1 := fun {o o'} e i t t' h1 h2 => by
  subst e; rw [h1] at h2; exact .inl (Option.some.inj h2).symm
 unfold turnP at h
 split at h
 ·
  obtain rfl := Option.some.inj h
  exact ⟨id, fun _ _ h _ => h, hsame rfl, Nat.le_refl _, rfl⟩
 split at h
 ·
  split at h
  ·
   rename_i c
   obtain rfl := Option.some.inj h
   have hold : ∀ (i : Nat) (x : FT), f.ts[i]? = some x → (f.ts ++ [FT.new e.a])[i]? = some x := fun i x hx => by
    rw [List.getElem?_append_left (List.getElem?_eq_some_iff.1 hx).1]; exact hx
   have hnew : ∀ (i : Nat) (x : FT), (f.ts ++ [FT.new e.a])[i]? = some x → f.ts[i]? = some x ∨ x = FT.new e.a := fun i x hx => by
    by_cases hi : i < f.ts.length
    ·
     rw [List.getElem?_append_left hi] at hx; exact .inl hx
    ·
     rw [List.getElem?_append_right (by omega)] at hx
     cases hq : i - f.ts.length with
     | zero => rw [hq] at hx; exact .inr (by simpa using hx.symm)
     | succ k => rw [hq] at hx; simp at hx
   refine ⟨fun hR => ⟨fun i x hx => ?_, fun i j x y hji hx hy => ?_, fun i t ht => ?_, hR.tm⟩, fun i x hx _ => hold i x hx, hsame rfl, by simp, rfl⟩
   ·
    rcases hnew i x hx with q | rfl
    ·
     exact hR.st i x q
    ·
     exact ⟨⟨by show (0 : Int) ≤ 0; omega, by show (0 : Int) ≤ 8; omega⟩, fun q => (by simp [FT.new] at q)⟩
   ·
    rcases hnew i x hx with q | rfl
    ·
     rcases hnew j y hy with z | rfl
     ·
      exact hR.two i j x y hji q z
     ·
      rintro ⟨-, z, -⟩; simp [FT.new] at z
    ·
     rintro ⟨z, -, -⟩; simp [FT.new] at z
   ·
    have := hR.ow i t ht
    simp only [List.length_append, List.length_cons, List.length_nil]
    omega
  ·
   cases h
 split at h
 ·
  split at h
  ·
   obtain rfl := Option.some.inj h
   exact ⟨fun hR => ⟨fun i x hx => ⟨(hR.st i x hx).1, fun q => hasP_put ((hR.st i x hx).2 q)⟩, hR.two, hR.ow, hR.tm⟩, fun _ _ h _ => h, hsame rfl, Nat.le_refl _, rfl⟩
  ·
   cases h
 split at h
 ·
  split at h
  ·
   rename_i c
   obtain rfl := Option.some.inj h
   refine ⟨fun hR => ⟨fun i x hx => ⟨(hR.st i x hx).1, fun q => hasP_drop ((hR.st i x hx).2 q) fun z => busy_no c.2 hx ⟨q, z⟩⟩, hR.two, hR.ow, hR.tm⟩, fun _ _ h _ => h, hsame rfl, Nat.le_refl _, rfl⟩
  ·
   cases h
 split at h
 ·
  split at h
  ·
   rename_i c
   obtain rfl := Option.some.inj h
   exact ⟨fun hR => ⟨hR.st, hR.two, hR.ow, by show 0 ≤ e.a; omega⟩, fun _ _ h _ => h, hsame rfl, Nat.le_refl _, rfl⟩
  ·
   cases h
 split at h
 ·
  split at h
  ·
   rename_i c
   obtain ⟨o, ho, rfl⟩ := Option.map_eq_some_iff.1 h
   have hlen : o.length = f.ow.length := by
    unfold passP at ho
    split at ho
    ·
     obtain rfl := Option.some.inj ho; simp
    ·
     cases ho
   have hget : ∀ (i : Nat) (t' : Int), o[i]? = some t' → ∃ t, f.ow[i]? = some t := fun i t' ht => ⟨_, List.getElem?_eq_getElem (by rw [← hlen]; exact (List.getElem?_eq_some_iff.1 ht).1)⟩
   refine ⟨fun hR => ⟨hR.st, hR.two, fun i t' ht => ?_, hR.tm⟩, fun _ _ h _ => h, fun i t t' h1 h2 => ?_, Nat.le_refl _, hlen⟩
   ·
    obtain ⟨t, h1⟩ := hget i t' ht
    rcases pass_get ho i t t' h1 ht with q | ⟨-, q⟩
    ·
     rw [q]; exact hR.ow i t h1
    ·
     rw [q]; unfold isT at c; exact ⟨by omega, c.2⟩
   ·
    rcases pass_get ho i t t' h1 h2 with q | ⟨q, -⟩
    ·
     exact .inl q
    ·
     exact .inr (.inr q)
  ·
   cases h
 split at h
 ·
  split at h
  ·
   rename_i c
   obtain ⟨o, ho, rfl⟩ := Option.map_eq_some_iff.1 h
   have hlen : o.length = f.ow.length := by
    unfold passP at ho
    split at ho
    ·
     obtain rfl := Option.some.inj ho; simp
    ·
     cases ho
   have hget : ∀ (i : Nat) (t' : Int), o[i]? = some t' → ∃ t, f.ow[i]? = some t := fun i t' ht => ⟨_, List.getElem?_eq_getElem (by rw [← hlen]; exact (List.getElem?_eq_some_iff.1 ht).1)⟩
   refine ⟨fun hR => ⟨hR.st, hR.two, fun i t' ht => ?_, hR.tm⟩, fun _ _ h _ => h, fun i t t' h1 h2 => ?_, Nat.le_refl _, hlen⟩
   ·
    obtain ⟨t, h1⟩ := hget i t' ht
    rcases pass_get ho i t t' h1 ht with q | ⟨-, q⟩
    ·
     rw [q]; exact hR.ow i t h1
    ·
     rw [q]; unfold isT at c; exact ⟨by omega, by show (-1 : Int) < (f.ts.length : Int); omega⟩
   ·
    rcases pass_get ho i t t' h1 h2 with q | ⟨-, q⟩
    ·
     exact .inl q
    ·
     exact .inr (.inl q)
  ·
   cases h
 split at h
 ·
  rename_i c
  obtain ⟨y, hy, rfl⟩ := Option.map_eq_some_iff.1 h
  obtain ⟨x, hx, hxy⟩ := Option.bind_eq_some_iff.1 hy
  have hget : ∀ (i : Nat) (z : FT), (f.ts.set e.tk.toNat y)[i]? = some z → (i = e.tk.toNat ∧ z = y) ∨ (i ≠ e.tk.toNat ∧ f.ts[i]? = some z) := fun i z hz => by
   rw [List.getElem?_set] at hz
   split at hz
   ·
    rename_i q
    split at hz
    ·
     exact .inl ⟨q.symm, (Option.some.inj hz).symm⟩
    ·
     cases hz
   ·
    rename_i q; exact .inr ⟨fun z => q z.symm, hz⟩
  refine ⟨fun hR => ?_, fun i z hz h8 => ?_, hsame rfl, by simp, rfl⟩
  ·
   obtain ⟨t1, t2, -⟩ := taskP_st hxy (hR.st _ x hx).1
   have run : y.st = 2 → hasP f.p y.on = true ∧ ∀ (j : Nat) (z : FT), j ≠ e.tk.toNat → f.ts[j]? = some z → ¬ (z.st = 2 ∧ z.on = y.on) := fun q => by
    rcases t2 q with ⟨a, b⟩ | ⟨a, b⟩
    ·
     refine ⟨b ▸ (hR.st _ x hx).2 a, fun j z hj hz w => ?_⟩
     rcases Nat.lt_or_ge j e.tk.toNat with hlt | hge
     ·
      exact hR.two _ j x z hlt hx hz ⟨a, w.1, by rw [w.2]; exact b⟩
     ·
      exact hR.two j _ z x (by omega) hz hx ⟨w.1, a, by rw [w.2]; exact b.symm⟩
    ·
     exact ⟨a, fun j z _ hz w => busy_no b hz w⟩
   refine ⟨fun i z hz => ?_, fun i j z z' hji hz hz' => ?_, fun i t ht => by have := hR.ow i t ht; simpa using this, hR.tm⟩
   ·
    rcases hget i z hz with ⟨-, rfl⟩ | ⟨-, q⟩
    ·
     exact ⟨t1, fun q => (run q).1⟩
    ·
     exact hR.st i z q
   ·
    rcases hget i z hz with ⟨a, rfl⟩ | ⟨a, q⟩
    ·
     rcases hget j z' hz' with ⟨b, rfl⟩ | ⟨b, q'⟩
     ·
      omega
     ·
      rintro ⟨r1, r2, r3⟩
      exact (run r1).2 j z' b q' ⟨r2, r3.symm⟩
    ·
     rcases hget j z' hz' with ⟨b, rfl⟩ | ⟨b, q'⟩
     ·
      rintro ⟨r1, r2, r3⟩
      exact (run r2).2 i z a q ⟨r1, r3⟩
     ·
      exact hR.two i j z z' hji q q'
  ·
   by_cases hi : i = e.tk.toNat
   ·
    subst hi
    rw [hx] at hz
    obtain rfl := Option.some.inj hz
    have := taskP_exit hxy h8
    subst this
    have hlt := (List.getElem?_eq_some_iff.1 hx).1
    show (f.ts.set e.tk.toNat _)[e.tk.toNat]? = _
    simp [hlt]
   ·
    show (f.ts.set e.tk.toNat y)[i]? = _
    rw [List.getElem?_set_ne (Ne.symm hi)]; exact hz
 ·
  cases h

set_option maxRecDepth 100000

def RigG (w : World) (f : Fl) (e : Ending) (w' : World) : Prop := ∃ b : Bool, e = .returned (.bool b) ∧ (b = true ↔ RightF f) ∧ Below w.heap.size w w'
def StOk (f : Fl) (i : Nat) : Prop := ∀ x, f.ts[i]? = some x → (0 ≤ x.st ∧ x.st ≤ 8) ∧ (x.st = 2 → hasP f.p x.on = true)
def TwOk (f : Fl) (i j : Nat) : Prop := ∀ x y, f.ts[i]? = some x → f.ts[j]? = some y → ¬ (x.st = 2 ∧ y.st = 2 ∧ x.on = y.on)
def OwOk (f : Fl) (i : Nat) : Prop := ∀ t, f.ow[i]? = some t → -1 ≤ t ∧ t < (f.ts.length : Int)
theorem RigG.no {w w' : World} {f : Fl} (h : ¬ RightF f) (hb : Below w.heap.size w w') : RigG w f (.returned (.bool false)) w' := ⟨false, rfl, ⟨fun z => (by cases z), fun z => absurd z h⟩, hb⟩
theorem right_of {f : Fl} (h1 : ∀ i, i < f.ts.length → StOk f i ∧ ∀ j, j < i → TwOk f i j) (h2 : ∀ i, i < f.ow.length → OwOk f i) (h3 : 0 ≤ f.tm) : RightF f :=
 ⟨fun i x hx => (h1 i (List.getElem?_eq_some_iff.1 hx).1).1 x hx, fun i j x y hj hx hy => (h1 i (List.getElem?_eq_some_iff.1 hx).1).2 j hj x y hx hy, fun i t ht => h2 i (List.getElem?_eq_some_iff.1 ht).1 t ht, h3⟩
theorem loadS_halt {w : World} {ops : Array Oper} {rest : List Oper} {op : Oper} {a : Act} {Q : Exit → Act → World → Prop} {g : Nat × Bool} (_ : op.guard = some g) (x : Operand) (_ : op.op = .load 24 x) (h : Hid (wpList Tryd.prog ops Q (op :: rest) a w)) : wpList Tryd.prog ops Q (op :: rest) a w := h.out
theorem ld_ong {F O : Value} {p : Nat → Bool} {t : Int} {w : World} {ops : Array Oper} {rest : List Oper} {o : Oper} {a : Act} {Q : Exit → Act → World → Prop} (hgd : Region.wanted o (yielded ops a.tmps) = true) (x : Operand) (ho : o.op = .load 24 x)
  (g : Nat) (hx : a.eval x = .pointer (some ⟨g, 1, none⟩)) (hb : BF w g F O p t) (h : wpList Tryd.prog ops Q rest (a.put o.dst (.agg (cellsOf p))) w) : wpList Tryd.prog ops Q (o :: rest) a w :=
 BigFrame.wpList_want hgd fun _ hK => wp_load_mid 24 x ho g 1 hx (cellsOf p).toList _ hb.set underSet rfl (by rw [infoSetS]; simp [cellsOf]) (by rw [Array.toArray_toList]; exact hK _ _ h)
section
variable {w : World} {F O : Value} {f : Fl}
set_option maxHeartbeats 8000000 in
theorem right_any (h : InF w F O f.ts f.ow) (hcap : ∀ A c, F = .slice A f.ts.length c → f.ts.length ≤ c) (hl : f.ts.length ≤ 1000) (hm0 : f.ow.length ≤ 1000) : Calls Tryd.prog 8 #[flV F O f.p f.tm] w (RigG w f) := by
 obtain ⟨⟨A, c, rfl, hT⟩, A2, c2, rfl, hN⟩ := h
 have hcap := hcap A c rfl
 have hbf : BF (w.alloc (.cells (flL (.slice A f.ts.length c) (.slice A2 f.ow.length c2) f.p f.tm).toArray 30)) w.heap.size (.slice A f.ts.length c) (.slice A2 f.ow.length c2) f.p f.tm := Blk.new w _ _
 have hbl : Below w.heap.size w (w.alloc (.cells (flL (.slice A f.ts.length c) (.slice A2 f.ow.length c2) f.p f.tm).toArray 30)) := (Below.refl _ _).alloc (Nat.le_refl _) _
 have HT := Lib.hid hT; have HN := Lib.hid hN
 obtain ⟨n, hn⟩ : ∃ n, f.ts.length = n := ⟨_, rfl⟩
 obtain ⟨m, hm⟩ : ∃ m, f.ow.length = m := ⟨_, rfl⟩
 have HLN := Lib.hid hn; have HLM := Lib.hid hm
 rw [hn, hm] at hbf hbl ⊢
 rw [hn] at hcap hl
 rw [hm] at hm0
 have HCAP := Lib.hid hcap
 clear hT hN hn hm hcap
 go_enter Tryd.func8, Tryd.ntmps8
 go_upto_region 1 with fail
 generalize w.alloc (.cells (flL (.slice A n c) (.slice A2 m c2) f.p f.tm).toArray 30) = W at *
 have c0 := BF.c0 hbf
 have HBF := Lib.hid hbf; have HBL := Lib.hid hbl
 clear hbf hbl
 go_wp2_with fail
 go_loopw [12] (fun iv wr => ∃ k : Nat, iv = .int .i64 k ∧ k ≤ n ∧ Below W.heap.size W wr ∧ ∀ i, i < k → StOk f i ∧ ∀ j, j < i → TwOk f i j) (fun iv _ => n - (intOf iv).toNat)
 case atStart => exact ⟨0, rfl, Nat.zero_le _, Below.refl _ _, fun i hi => absurd hi (by omega)⟩
 case round =>
  obtain ⟨k, rfl, hk, hb, hok⟩ := hrel
  have HOK := Lib.hid hok
  by_cases hlt : k < n
  ·
   obtain ⟨x, hx⟩ : ∃ x, f.ts[k]? = some x := ⟨_, List.getElem?_eq_getElem (by rw [HLN.out]; exact hlt)⟩
   have HXX := Lib.hid hx
   have HBW := Lib.hid (HBL.out.trans (hb.mono HBL.out.size))
   obtain ⟨g, off, rfl, hg, hr⟩ := (HT.out.below HBW.out) k x hx
   obtain ⟨d0, d1, d2, d3, d4, d5, d6, d7⟩ := task_cells hr
   have k0 : (0 : Int) ≤ (k : Int) := by omega
   have k1 : (k : Int) < (n : Int) := by omega
   have HXP := Lib.hid (rfl : x = x)
   obtain ⟨pg, pc, ⟨ra, rb, rc, rd⟩, st, on⟩ := x
   dsimp only at d0 d1 d2 d3 d4 d5 d6 d7
   have hal : Below W.heap.size W (wr.alloc (.cells #[.int .i64 pg, .int .i64 pc, .int .i32 ra, .int .i32 rb, .int .i32 rc, .int .i32 rd, .int .i64 st, .int .i64 on] 45)) := hb.alloc hb.size _
   have hxb : Blk (wr.alloc (.cells #[.int .i64 pg, .int .i64 pc, .int .i32 ra, .int .i32 rb, .int .i32 rc, .int .i32 rd, .int .i64 st, .int .i64 on] 45)) wr.heap.size 45 #[.int .i64 pg, .int .i64 pc, .int .i32 ra, .int .i32 rb, .int .i32 rc, .int .i32 rd, .int .i64 st, .int .i64 on] := Blk.new wr _ _
   clear hr hx hb hok HXP
   go_upto_region 4 with fail
   generalize wr.alloc (.cells #[.int .i64 pg, .int .i64 pc, .int .i32 ra, .int .i32 rb, .int .i32 rc, .int .i32 rd, .int .i64 st, .int .i64 on] 45) = W2 at *
   generalize wr.heap.size = xb at *
   have s6 := hxb.cell 6
   have s7 := hxb.cell 7
   simp only [List.getElem?_toArray, List.getElem?_cons_succ, List.getElem?_cons_zero] at s6 s7
   have HXB := Lib.hid hxb; have HAL := Lib.hid hal
   have HBF2 := Lib.hid (Blk.below HBF.out hal (Blk.lt HBF.out))
   have HB2 := Lib.hid (HBL.out.trans (hal.mono HBL.out.size))
   have HHA := Lib.hid (refHas_any f.p on W2)
   clear hxb hal d0 d1 d2 d3 d4 d5 d6 d7 HBW hg
   by_cases hs0 : st < 0
   ·
    have t0 : decide (st < 0) = true := by simpa using hs0
    have HNO : Hid (¬ RightF f) := fun z => by have h9 : (0 ≤ st ∧ st ≤ 8) := (z.st k _ HXX.out).1; omega
    go_wp2_with fail
    go_ret
    exact RigG.no HNO.out HB2.out
   ·
    have t0 : decide (st < 0) = false := by simpa using hs0
    by_cases hs8 : 8 < st
    ·
     have t1 : decide (8 < st) = true := by simpa using hs8
     have HNO : Hid (¬ RightF f) := fun z => by have h9 : (0 ≤ st ∧ st ≤ 8) := (z.st k _ HXX.out).1; omega
     go_wp2_with fail
     go_ret
     exact RigG.no HNO.out HB2.out
    ·
     have t1 : decide (8 < st) = false := by simpa using hs8
     clear s7
     by_cases hs2 : st = 2
     ·
      subst hs2
      obtain ⟨b, hbv⟩ : ∃ b, hasP f.p on = b := ⟨_, rfl⟩
      have HBV := Lib.hid hbv
      rw [hbv] at HHA
      clear hbv
      have s7 := HXB.out.cell 7
      simp only [List.getElem?_toArray, List.getElem?_cons_succ, List.getElem?_cons_zero] at s7
      cases b with
      | false =>
       have HNO : Hid (¬ RightF f) := fun z => by
        have h9 : hasP f.p on = true := (z.st k _ HXX.out).2 rfl
        rw [HBV.out] at h9; cases h9
       go_wp2_with (with_reducible (show wpList _ _ _ _ _ _); refine loadS_halt rfl (.tmp 30) rfl ?_)
       refine Lib.hid ?_
       refine ld_ong (by rfl) (.tmp 30) rfl w.heap.size rfl HBF2.out ?_
       go_wp2_with (go_at_call 17; (with_reducible refine HHA.out.mono ?_); rintro e w3 ⟨rfl, h3⟩; have HB3 := Lib.hid (HB2.out.trans (h3.mono HB2.out.size)); clear h3)
       go_ret
       exact RigG.no HNO.out HB3.out
      | true =>
       have HSO : Hid (StOk f k) := fun z hz => by
        rw [HXX.out] at hz
        obtain rfl := Option.some.inj hz
        exact ⟨⟨by show (0 : Int) ≤ 2; omega, by show (2 : Int) ≤ 8; omega⟩, fun _ => HBV.out⟩
       go_wp2_with (with_reducible (show wpList _ _ _ _ _ _); refine loadS_halt rfl (.tmp 30) rfl ?_)
       refine Lib.hid ?_
       refine ld_ong (by rfl) (.tmp 30) rfl w.heap.size rfl HBF2.out ?_
       go_upto_region 6 with (go_at_call 17; (with_reducible refine HHA.out.mono ?_); rintro e V ⟨rfl, h3⟩; have HBv := Lib.hid (HB2.out.trans (h3.mono HB2.out.size)); have HVB := Lib.hid (HAL.out.trans (h3.mono HAL.out.size)); have HXBv := Lib.hid (HXB.out.below h3 HXB.out.lt); have HBFv := Lib.hid (Blk.below HBF2.out h3 (Blk.lt HBF2.out)); clear h3)
       clear s7
       have s6 := HXBv.out.cell 6
       have s7 := HXBv.out.cell 7
       simp only [List.getElem?_toArray, List.getElem?_cons_succ, List.getElem?_cons_zero] at s6 s7
       have c0 := BF.c0 HBFv.out
       have kc0 : (k : Int) ≤ (n : Int) := by omega
       have kc1 : k ≤ c := by have := HCAP.out; omega
       have kc2 : (k : Int) ≤ (c : Int) := by omega
       have kc3 : k ≤ n := hk
       have HKN := Lib.hid hlt
       clear s6 s7
       go_wp2_with fail
       clear c0 kc1 kc2 kc3 kc0
       go_loopw [43] (fun iv wr => ∃ j : Nat, iv = .int .i64 j ∧ j ≤ k ∧ Below V.heap.size V wr ∧ ∀ j', j' < j → TwOk f k j') (fun iv _ => k - (intOf iv).toNat)
       case atStart => exact ⟨0, rfl, Nat.zero_le _, Below.refl _ _, fun j' h => absurd h (by omega)⟩
       case round =>
        obtain ⟨j, rfl, hj, hbj, htw⟩ := hrel
        have HTW := Lib.hid htw
        by_cases hjk : j < k
        ·
         obtain ⟨y, hy⟩ : ∃ y, f.ts[j]? = some y := ⟨_, List.getElem?_eq_getElem (by rw [HLN.out]; omega)⟩
         have HYY := Lib.hid hy; have HJK := Lib.hid hjk
         have HBJ := Lib.hid (HBv.out.trans (hbj.mono HBv.out.size))
         obtain ⟨g2, off2, hge, hg2, hr2⟩ := (HT.out.below HBJ.out) j y hy
         simp only [Option.some.injEq, Addr.mk.injEq, and_true] at hge
         obtain ⟨rfl, rfl⟩ := hge
         obtain ⟨d0, d1, d2, d3, d4, d5, d6, d7⟩ := task_cells hr2
         have k0 : (0 : Int) ≤ (j : Int) := by omega
         have k1 : (j : Int) < (k : Int) := by omega
         obtain ⟨pg2, pc2, ⟨ra2, rb2, rc2, rd2⟩, st2, on2⟩ := y
         dsimp only at d0 d1 d2 d3 d4 d5 d6 d7
         have hal : Below V.heap.size V (wr.alloc (.cells #[.int .i64 pg2, .int .i64 pc2, .int .i32 ra2, .int .i32 rb2, .int .i32 rc2, .int .i32 rd2, .int .i64 st2, .int .i64 on2] 45)) := hbj.alloc hbj.size _
         have hyb := Blk.new wr 45 #[.int .i64 pg2, .int .i64 pc2, .int .i32 ra2, .int .i32 rb2, .int .i32 rc2, .int .i32 rd2, .int .i64 st2, .int .i64 on2]
         clear hr2 hy hbj htw
         go_upto_region 9 with fail
         generalize wr.alloc (.cells #[.int .i64 pg2, .int .i64 pc2, .int .i32 ra2, .int .i32 rb2, .int .i32 rc2, .int .i32 rd2, .int .i64 st2, .int .i64 on2] 45) = V3 at *
         generalize wr.heap.size = yb at *
         have hxb3 := HXBv.out.below hal HXBv.out.lt
         have s6 := hxb3.cell 6
         have s7 := hxb3.cell 7
         have u6 := hyb.cell 6
         have u7 := hyb.cell 7
         simp only [List.getElem?_toArray, List.getElem?_cons_succ, List.getElem?_cons_zero] at s6 s7 u6 u7
         have HAL3 := Lib.hid hal
         have HB3 := Lib.hid (HBv.out.trans (hal.mono HBv.out.size))
         clear hxb3 hyb hal d0 d1 d2 d3 d4 d5 d6 d7 hg2
         by_cases q : (2 : Int) = 2 ∧ st2 = 2 ∧ on = on2
         ·
          obtain ⟨q0, rfl, rfl⟩ := q
          clear q0
          have t9 : (on == on) = true := by simp
          have HNO : Hid (¬ RightF f) := fun z => z.two k j _ _ (by omega) HXX.out HYY.out ⟨rfl, rfl, rfl⟩
          go_wp2_with fail
          go_ret
          exact RigG.no HNO.out HB3.out
         ·
          have HTN : Hid (TwOk f k j) := fun x' y' hx' hy' z => by
           rw [HXX.out] at hx'
           rw [HYY.out] at hy'
           obtain rfl := Option.some.inj hx'
           obtain rfl := Option.some.inj hy'
           exact q z
          have HNX : Hid (∀ j', j' < j + 1 → TwOk f k j') := fun j' hj' => by
           rcases Nat.lt_or_ge j' j with h | h
           ·
            exact HTW.out j' h
           ·
            obtain rfl : j' = j := by omega
            exact HTN.out
          by_cases q2 : st2 = 2
          ·
           subst q2
           have t9 : (on == on2) = false := by
            have : on ≠ on2 := fun z => q ⟨rfl, rfl, z⟩
            simpa using this
           go_wp2_with fail
           go_roundw
           case rel => exact ⟨j + 1, by go_num, by have := HJK.out; omega, HAL3.out, HNX.out⟩
           case measure => have := HJK.out; simp [intOf]; omega
          ·
           have t8 : (st2 == 2) = false := by simpa using q2
           go_wp2_with fail
           go_roundw
           case rel => exact ⟨j + 1, by go_num, by have := HJK.out; omega, HAL3.out, HNX.out⟩
           case measure => have := HJK.out; simp [intOf]; omega
        ·
         obtain rfl : j = k := by omega
         have tk : ¬ (j : Int) < (j : Int) := by omega
         have HBJ := Lib.hid (HVB.out.trans (hbj.mono HVB.out.size))
         clear hbj
         go_wp2_with fail
         go_roundw
         case rel =>
          refine ⟨j + 1, by go_num, by have := HKN.out; omega, HBJ.out, fun i hi => ?_⟩
          rcases Nat.lt_or_ge i j with h | h
          ·
           exact HOK.out i h
          ·
           obtain rfl : i = j := by omega
           exact ⟨HSO.out, HTW.out⟩
         case measure => have := HKN.out; simp [intOf]; omega
     ·
      have t2 : (st == 2) = false := by simpa using hs2
      have HSO : Hid (StOk f k) := fun z hz => by
       rw [HXX.out] at hz
       obtain rfl := Option.some.inj hz
       exact ⟨⟨by show 0 ≤ st; omega, by show st ≤ 8; omega⟩, fun q => absurd q hs2⟩
      go_upto_region 6 with fail
      have HBv := HB2
      have HVB := HAL
      have HXBv := HXB
      have HBFv := HBF2
      generalize W2 = V at *
      clear s6
      have s6 := HXBv.out.cell 6
      have s7 := HXBv.out.cell 7
      simp only [List.getElem?_toArray, List.getElem?_cons_succ, List.getElem?_cons_zero] at s6 s7
      have c0 := BF.c0 HBFv.out
      have kc0 : (k : Int) ≤ (n : Int) := by omega
      have kc1 : k ≤ c := by have := HCAP.out; omega
      have kc2 : (k : Int) ≤ (c : Int) := by omega
      have kc3 : k ≤ n := hk
      have HKN := Lib.hid hlt
      clear s6 s7
      go_wp2_with fail
      clear c0 kc1 kc2 kc3 kc0
      go_loopw [43] (fun iv wr => ∃ j : Nat, iv = .int .i64 j ∧ j ≤ k ∧ Below V.heap.size V wr ∧ ∀ j', j' < j → TwOk f k j') (fun iv _ => k - (intOf iv).toNat)
      case atStart => exact ⟨0, rfl, Nat.zero_le _, Below.refl _ _, fun j' h => absurd h (by omega)⟩
      case round =>
       obtain ⟨j, rfl, hj, hbj, htw⟩ := hrel
       have HTW := Lib.hid htw
       by_cases hjk : j < k
       ·
        obtain ⟨y, hy⟩ : ∃ y, f.ts[j]? = some y := ⟨_, List.getElem?_eq_getElem (by rw [HLN.out]; omega)⟩
        have HYY := Lib.hid hy; have HJK := Lib.hid hjk
        have HBJ := Lib.hid (HBv.out.trans (hbj.mono HBv.out.size))
        obtain ⟨g2, off2, hge, hg2, hr2⟩ := (HT.out.below HBJ.out) j y hy
        simp only [Option.some.injEq, Addr.mk.injEq, and_true] at hge
        obtain ⟨rfl, rfl⟩ := hge
        obtain ⟨d0, d1, d2, d3, d4, d5, d6, d7⟩ := task_cells hr2
        have k0 : (0 : Int) ≤ (j : Int) := by omega
        have k1 : (j : Int) < (k : Int) := by omega
        obtain ⟨pg2, pc2, ⟨ra2, rb2, rc2, rd2⟩, st2, on2⟩ := y
        dsimp only at d0 d1 d2 d3 d4 d5 d6 d7
        have hal : Below V.heap.size V (wr.alloc (.cells #[.int .i64 pg2, .int .i64 pc2, .int .i32 ra2, .int .i32 rb2, .int .i32 rc2, .int .i32 rd2, .int .i64 st2, .int .i64 on2] 45)) := hbj.alloc hbj.size _
        have hyb := Blk.new wr 45 #[.int .i64 pg2, .int .i64 pc2, .int .i32 ra2, .int .i32 rb2, .int .i32 rc2, .int .i32 rd2, .int .i64 st2, .int .i64 on2]
        clear hr2 hy hbj htw
        go_upto_region 9 with fail
        generalize wr.alloc (.cells #[.int .i64 pg2, .int .i64 pc2, .int .i32 ra2, .int .i32 rb2, .int .i32 rc2, .int .i32 rd2, .int .i64 st2, .int .i64 on2] 45) = V3 at *
        generalize wr.heap.size = yb at *
        have hxb3 := HXBv.out.below hal HXBv.out.lt
        have s6 := hxb3.cell 6
        have s7 := hxb3.cell 7
        have u6 := hyb.cell 6
        have u7 := hyb.cell 7
        simp only [List.getElem?_toArray, List.getElem?_cons_succ, List.getElem?_cons_zero] at s6 s7 u6 u7
        have HAL3 := Lib.hid hal
        have HB3 := Lib.hid (HBv.out.trans (hal.mono HBv.out.size))
        clear hxb3 hyb hal d0 d1 d2 d3 d4 d5 d6 d7 hg2
        by_cases q : st = 2 ∧ st2 = 2 ∧ on = on2
        ·
         obtain ⟨q0, rfl, rfl⟩ := q
         exact absurd q0 hs2
        ·
         have HTN : Hid (TwOk f k j) := fun x' y' hx' hy' z => by
          rw [HXX.out] at hx'
          rw [HYY.out] at hy'
          obtain rfl := Option.some.inj hx'
          obtain rfl := Option.some.inj hy'
          exact q z
         have HNX : Hid (∀ j', j' < j + 1 → TwOk f k j') := fun j' hj' => by
          rcases Nat.lt_or_ge j' j with h | h
          ·
           exact HTW.out j' h
          ·
           obtain rfl : j' = j := by omega
           exact HTN.out
         go_wp2_with fail
         go_roundw
         case rel => exact ⟨j + 1, by go_num, by have := HJK.out; omega, HAL3.out, HNX.out⟩
         case measure => have := HJK.out; simp [intOf]; omega
       ·
        obtain rfl : j = k := by omega
        have tk : ¬ (j : Int) < (j : Int) := by omega
        have HBJ := Lib.hid (HVB.out.trans (hbj.mono HVB.out.size))
        clear hbj
        go_wp2_with fail
        go_roundw
        case rel =>
         refine ⟨j + 1, by go_num, by have := HKN.out; omega, HBJ.out, fun i hi => ?_⟩
         rcases Nat.lt_or_ge i j with h | h
         ·
          exact HOK.out i h
         ·
          obtain rfl : i = j := by omega
          exact ⟨HSO.out, HTW.out⟩
        case measure => have := HKN.out; simp [intOf]; omega
  ·
   obtain rfl : k = n := by omega
   have tk : ¬ (k : Int) < (k : Int) := by omega
   have HBW := Lib.hid (HBL.out.trans (hb.mono HBL.out.size))
   have HBFw : Hid (BF wr w.heap.size (.slice A k c) (.slice A2 m c2) f.p f.tm) := Blk.below HBF.out hb (Blk.lt HBF.out)
   have e17 := BF.c17 HBFw.out
   have HNW := Lib.hid (HN.out.below HBW.out)
   clear hb hok c0
   go_wp2_with fail
   clear e17
   go_loopw [67] (fun iv wq => ∃ i : Nat, iv = .int .i64 i ∧ i ≤ m ∧ Below wr.heap.size wr wq ∧ ∀ i', i' < i → OwOk f i') (fun iv _ => m - (intOf iv).toNat)
   case atStart => exact ⟨0, rfl, Nat.zero_le _, Below.refl _ _, fun i' h => absurd h (by omega)⟩
   case round =>
    obtain ⟨i, rfl, hi, hbi, how⟩ := hrel
    have HOW := Lib.hid how
    by_cases him : i < m
    ·
     obtain ⟨z, hz⟩ : ∃ z, f.ow[i]? = some z := ⟨_, List.getElem?_eq_getElem (by rw [HLM.out]; exact him)⟩
     obtain ⟨g, off, rfl, hg, hr⟩ := (HNW.out.below hbi) i z hz
     have c0 := BF.c0 (Blk.below HBFw.out hbi (Blk.lt HBFw.out))
     have k0 : (0 : Int) ≤ (i : Int) := by omega
     have k1 : (i : Int) < (m : Int) := by omega
     have HZ := Lib.hid hz
     have HBI := Lib.hid hbi
     have HBZ := Lib.hid (HBW.out.trans (hbi.mono HBW.out.size))
     clear hz hg hbi how
     by_cases q0 : z < -1
     ·
      have t0 : decide (z < -1) = true := by simpa using q0
      have HNO : Hid (¬ RightF f) := fun r => by have := (r.ow i z HZ.out).1; omega
      go_wp2_with fail
      go_ret
      exact RigG.no HNO.out HBZ.out
     ·
      have t0 : decide (z < -1) = false := by simpa using q0
      by_cases q1 : (k : Int) ≤ z
      ·
       have t1 : decide ((k : Int) ≤ z) = true := by simpa using q1
       have HNO : Hid (¬ RightF f) := fun r => by have := (r.ow i z HZ.out).2; have := HLN.out; omega
       go_wp2_with fail
       go_ret
       exact RigG.no HNO.out HBZ.out
      ·
       have t1 : decide ((k : Int) ≤ z) = false := by simpa using q1
       have HNX : Hid (∀ i', i' < i + 1 → OwOk f i') := fun i' hi' => by
        rcases Nat.lt_or_ge i' i with h | h
        ·
         exact HOW.out i' h
        ·
         obtain rfl : i' = i := by omega
         intro t ht
         rw [HZ.out] at ht
         obtain rfl := Option.some.inj ht
         have := HLN.out
         exact ⟨by omega, by omega⟩
       go_wp2_with fail
       go_roundw
       case rel => exact ⟨i + 1, by go_num, by omega, HBI.out, HNX.out⟩
       case measure => simp [intOf]; omega
    ·
     obtain rfl : i = m := by omega
     have tk : ¬ (i : Int) < (i : Int) := by omega
     have e18 := BF.c18 (Blk.below HBFw.out hbi (Blk.lt HBFw.out))
     have HBZ := Lib.hid (HBW.out.trans (hbi.mono HBW.out.size))
     have HFIN : Hid (0 ≤ f.tm → RightF f) := fun h => right_of (fun i hi => HOK.out i (by rw [HLN.out] at hi; exact hi)) (fun i hi => HOW.out i (by rw [HLM.out] at hi; exact hi)) h
     clear hbi how
     by_cases q : 0 ≤ f.tm
     ·
      have t0 : decide (0 ≤ f.tm) = true := by simpa using q
      go_wp2_with fail
      go_ret
      exact ⟨true, rfl, ⟨fun _ => HFIN.out q, fun _ => rfl⟩, HBZ.out⟩
     ·
      have t0 : decide (0 ≤ f.tm) = false := by simpa using q
      have HNO : Hid (¬ RightF f) := fun r => q r.tm
      go_wp2_with fail
      go_ret
      exact RigG.no HNO.out HBZ.out
end
end Go.Proofs.YtilaalleiiakoaaDoor
