/- A machine without queues, told plainly: its tasks, what an event does to it (layer 19). -/
import Derived.Test.YtilaalleiiakoaaDoorEp
import Derived.Test.YtilaalleiiakoaaDoorSm
import Derived.Test.YtilaalleiiakoaaDoorBu
import Derived.Test.YtilaalleiiakoaaDoorCk
import Derived.Deep.OwnRows
import Derived.Deep.DeepCutAuto
import Derived.Deep.CutBlock
import Derived.OwnWalk
import Derived.Laws.OwnMore
import Derived.Deep.MidRow
import Derived.Maps.AppendAt
import Derived.RegionTactic
import Derived.ChangeAlike
import Derived.BigRegion
namespace Go.Proofs.YtilaalleiiakoaaDoor
open Go.RowKit

/-- A task of it. -/
structure FT where
  pg : Int
  pc : Int
  r : R4
  st : Int
  on : Int
  deriving DecidableEq
def FT.new (pg : Int) : FT := ⟨pg, 0, ⟨0, 0, 0, 0⟩, 0, 0⟩
def taskC (x : FT) : List Value := [.int .i64 x.pg, .int .i64 x.pc, .int .i32 x.r.a, .int .i32 x.r.b, .int .i32 x.r.c, .int .i32 x.r.d, .int .i64 x.st, .int .i64 x.on]
theorem taskC_len (x : FT) : (taskC x).length = 8 := rfl
theorem taskC_one (x : FT) : ∀ v ∈ taskC x, v.oneCell' = true := fun v hv => by
  simp only [taskC, List.mem_cons, List.not_mem_nil, or_false] at hv
  rcases hv with rfl | rfl | rfl | rfl | rfl | rfl | rfl | rfl <;> rfl
def tsC (ts : List FT) : List Value := (ts.map taskC).flatten
theorem tsC_cons (x : FT) (r : List FT) : tsC (x :: r) = taskC x ++ tsC r := by unfold tsC; rw [List.map_cons, List.flatten_cons]
theorem tsC_len : ∀ ts : List FT, (tsC ts).length = ts.length * 8
  | [] => rfl
  | x :: t => by rw [tsC_cons, List.length_append, tsC_len t, taskC_len, List.length_cons]; omega
theorem tsC_app (a b : List FT) : tsC (a ++ b) = tsC a ++ tsC b := by unfold tsC; rw [List.map_append, List.flatten_append]
theorem tsC_one (x : FT) : tsC [x] = taskC x := by rw [tsC_cons]; simp [tsC]
theorem tsC_get : ∀ (ts : List FT) (i : Nat) (x : FT), ts[i]? = some x → ∀ j, j < 8 → (tsC ts)[i * 8 + j]? = (taskC x)[j]?
  | [], _, _, h, _, _ => by simp at h
  | y :: t, 0, x, h, j, hj => by
    simp at h; subst h
    rw [Nat.zero_mul, Nat.zero_add, tsC_cons, List.getElem?_append_left (by rw [taskC_len]; exact hj)]
  | y :: t, i + 1, x, h, j, hj => by
    rw [tsC_cons, List.getElem?_append_right (by rw [taskC_len]; omega), taskC_len, show (i + 1) * 8 + j - 8 = i * 8 + j by omega]
    exact tsC_get t i x (by simpa using h) j hj
theorem tsC_set : ∀ (ts : List FT) (i : Nat) (x y : FT), ts[i]? = some x → ∀ (j : Nat) (v : Value), j < 8 → (taskC x).set j v = taskC y → (tsC ts).set (i * 8 + j) v = tsC (ts.set i y)
  | [], _, _, _, h, _, _, _, _ => by simp at h
  | z :: t, 0, x, y, h, j, v, hj, hy => by
    simp at h; subst h
    rw [Nat.zero_mul, Nat.zero_add, tsC_cons, List.set_append_left _ _ (by rw [taskC_len]; exact hj), hy, List.set_cons_zero, tsC_cons]
  | z :: t, i + 1, x, y, h, j, v, hj, hy => by
    rw [tsC_cons, List.set_append_right _ _ (by rw [taskC_len]; omega), taskC_len, show (i + 1) * 8 + j - 8 = i * 8 + j by omega, tsC_set t i x y (by simpa using h) j v hj hy, List.set_cons_succ, tsC_cons]
theorem tsC_mem {ts : List FT} : ∀ v ∈ tsC ts, v.oneCell' = true := fun v hv => by
  unfold tsC at hv
  obtain ⟨l, hl, hv⟩ := List.mem_flatten.1 hv
  obtain ⟨x, -, rfl⟩ := List.mem_map.1 hl
  exact taskC_one x v hv
/-- A machine: its tasks, who is online, owners, time. -/
structure Fl where
  ts : List FT
  p : Nat → Bool
  ow : List Int
  tm : Int
structure EvP where
  kd : Int
  tk : Int
  cpu : Int
  a : Int
  b : Int
instance (n : Int) : Decidable (In32 n) := inferInstanceAs (Decidable (_ ∧ _))
def In64F (n : Int) : Prop := -9223372036854775808 ≤ n ∧ n ≤ 9223372036854775807
structure EvP.Ok (e : EvP) : Prop where
  kd : In64F e.kd
  tk : In64F e.tk
  cpu : In64F e.cpu
  a : In64F e.a
  b : In64F e.b
/-- A program, and where its instructions lie. -/
structure PR where
  prio : Int
  A : Option Addr
  l : List I4
  cap : Nat
def busyP (ts : List FT) (cpu : Int) : Bool := ts.any fun x => decide (x.st = 2) && decide (x.on = cpu)
def homeP (s : Int) : Bool := decide (0 ≤ s ∧ s < 8 ∧ s ≠ 2)
def waitP (s : Int) : Bool := decide (s = 3 ∨ s = 4 ∨ s = 5)
/-- Is that the instruction of that program? -/
def insP (ps : List PR) (x : FT) (op pc : Int) : Option PR :=
  if 0 ≤ x.pg ∧ pc = x.pc ∧ 0 ≤ pc then
    match ps[x.pg.toNat]? with
    | some q => if (q.l[pc.toNat]?.map fun i => i.op) = some op then some q else none
    | none => none
  else none
def doP (ps : List PR) (x : FT) (op pc : Int) : Option FT :=
  (insP ps x op pc).map fun q => { x with pc := (stepF q.prio q.l pc x.r).pc, r := (stepF q.prio q.l pc x.r).r }
/-- What an event does to its task. -/
def taskP (f : Fl) (ps : List PR) (e : EvP) (x : FT) : Option FT :=
  if e.kd = 2 then if x.st = 1 ∧ x.on = e.a ∧ hasP f.p e.cpu = true ∧ busyP f.ts e.cpu = false then some { x with st := 2, on := e.cpu } else none
  else if e.kd = 3 then if x.st = 2 ∧ x.on = e.cpu then doP ps x e.a e.b else none
  else if e.kd = 4 then if x.st = 2 ∧ x.on = e.cpu then some { x with st := 0, on := 0 } else none
  else if e.kd = 5 then if homeP x.st = true then some { x with st := 1, on := e.a } else none
  else if e.kd = 6 then if homeP x.st = true then some { x with st := 7, on := 0 } else none
  else if e.kd = 7 then if homeP x.st = true then some { x with st := 6, on := e.a } else none
  else if e.kd = 8 then if x.st = 1 ∧ x.on = e.a then some { x with st := 1, on := e.b } else none
  else if e.kd = 11 then if x.st = 0 ∧ waitP e.a = true then some { x with st := e.a, on := e.b } else none
  else if e.kd = 13 then if x.st = 0 then some { x with st := 8, on := e.a } else none
  else if e.kd = 12 then if (x.st = 2 ∧ x.on = e.cpu) ∨ x.st = 0 then some x else none
  else if e.kd = 21 then if x.st ≠ 8 ∧ 0 ≤ e.a ∧ e.a < 4 ∧ In32 e.b then some { x with r := x.r.put e.a.toNat e.b } else none
  else none
def isT (f : Fl) (t : Int) : Prop := 0 ≤ t ∧ t < (f.ts.length : Int)
instance (f : Fl) (t : Int) : Decidable (isT f t) := inferInstanceAs (Decidable (_ ∧ _))
def passP (ow : List Int) (i old new : Int) : Option (List Int) :=
  if 0 ≤ i ∧ ow[i.toNat]? = some old then some (ow.set i.toNat new) else none
/-- What an event does to a machine, if it may happen. -/
def turnP (f : Fl) (ps : List PR) (e : EvP) : Option Fl :=
  if e.kd = 17 ∨ e.kd = 18 ∨ e.kd = 19 ∨ e.kd = 20 then some f
  else if e.kd = 1 then if e.tk = (f.ts.length : Int) ∧ 0 ≤ e.a ∧ e.a < (ps.length : Int) then some { f with ts := f.ts ++ [FT.new e.a] } else none
  else if e.kd = 14 then if 0 ≤ e.cpu ∧ e.cpu < 1024 ∧ hasP f.p e.cpu = false then some { f with p := putP f.p e.cpu } else none
  else if e.kd = 15 then if hasP f.p e.cpu = true ∧ busyP f.ts e.cpu = false then some { f with p := dropP f.p e.cpu } else none
  else if e.kd = 16 then if 1 ≤ e.a ∧ e.a = f.tm + 1 then some { f with tm := e.a } else none
  else if e.kd = 9 then if isT f e.tk then (passP f.ow e.a (-1) e.tk).map fun o => { f with ow := o } else none
  else if e.kd = 10 then if isT f e.tk then (passP f.ow e.a e.tk (-1)).map fun o => { f with ow := o } else none
  else if isT f e.tk then (f.ts[e.tk.toNat]?.bind (taskP f ps e)).map fun y => { f with ts := f.ts.set e.tk.toNat y } else none
/-- What all events do, and the place of the first that may not happen. -/
def playP (ps : List PR) : Fl → List EvP → Nat → Fl × Int
  | f, [], _ => (f, -1)
  | f, e :: l, k => match turnP f ps e with
    | some g => playP ps g l (k + 1)
    | none => (f, k)
structure Fl.Ok (f : Fl) : Prop where
  tm : In64F f.tm
  r : ∀ x ∈ f.ts, x.r.Ok
  len : f.ts.length ≤ 200
  low : f.ow.length ≤ 40


theorem below_drewN {B : Nat} {a w : World} (h : Below B a w) (n : Nat) : Below B a (w.drewN n) := ⟨h.os, h.tape, h.output, h.size, h.block⟩
theorem lt_of_cell {w : World} {p : Addr} {v : Value} (h : w.cell? p = some v) : p.block < w.heap.size := by
  unfold World.cell? at h
  by_cases q : p.block < w.heap.size
  · exact q
  · rw [Array.getElem?_eq_none (by omega)] at h; cases h
theorem But.cell0 {X : Nat → Prop} {w w' : World} (h : But X w w') {b o : Nat} (hb : b < w.heap.size) (hX : ¬ X b) : w'.cell? ⟨b, o, none⟩ = w.cell? ⟨b, o, none⟩ := by
  unfold World.cell?; rw [h.block b hb hX]
theorem row_but {X : Nat → Prop} {w w' : World} {B n : Nat} {t : TypeId} {sz : Nat} {v : Value} {xs : List Value} (h : w.ownsRow B t sz v n xs) (hb : But X w w') (hX : ∀ g, v.ownBlock = some g → ¬ X g) : w'.ownsRow B t sz v n xs := by
  refine ⟨h.1, ?_⟩
  rcases h.2 with hn | ⟨g, cap, cur, rfl, hbb, hgg, rest⟩
  · exact .inl hn
  · exact .inr ⟨g, cap, cur, rfl, hbb, (hb.block g (Array.getElem?_eq_some_iff.1 hgg).1 (hX g rfl)).trans hgg, rest⟩
theorem row_type {w : World} {B n sz g : Nat} {t u : TypeId} {v : Value} {xs : List Value} {cs : Array Value} (h : w.ownsRow B t sz v n xs) (hg : v.ownBlock = some g) (hb : Blk w g u cs) : t = u := by
  rcases h.2 with ⟨rfl, _⟩ | ⟨g', cap, cur, rfl, _, hgg, _⟩
  · simp [Value.ownBlock] at hg
  · simp [Value.ownBlock] at hg
    subst hg
    have := hgg.symm.trans hb
    simp at this; exact this.2
theorem rowForm {w : World} {B n : Nat} {t : TypeId} {sz : Nat} {v : Value} {xs : List Value} (h : w.ownsRow B t sz v n xs) : (v = .slice none 0 0 ∧ n = 0) ∨ ∃ g cap, v = .slice (some ⟨g, 0, none⟩) n cap := by
  rcases h.2 with ⟨e, hn⟩ | ⟨g, cap, cur, e, _⟩
  · exact .inl ⟨e, hn⟩
  · exact .inr ⟨g, cap, e⟩
def numC (l : List Int) : List Value := l.map (Value.int .i64)
theorem numC_length (l : List Int) : (numC l).length = l.length := by simp [numC]
/-- A row of tasks that may be read. -/
def TsIn (w : World) (A : Option Addr) (l : List FT) : Prop :=
  ∀ i x, l[i]? = some x → ∃ b off, A = some ⟨b, off, none⟩ ∧ b < w.heap.size ∧ w.rangeAt b (off + i * 8) (taskC x)
theorem range_below {w w' : World} {b o : Nat} {cs : List Value} (h : w.rangeAt b o cs) (hb : Below w.heap.size w w') (hlt : b < w.heap.size) : w'.rangeAt b o cs := fun j v hj => (hb.cell (p := ⟨b, o + j, none⟩) hlt).trans (h j v hj)
theorem TsIn.below {w w' : World} {A : Option Addr} {l : List FT} (h : TsIn w A l) (hb : Below w.heap.size w w') : TsIn w' A l := fun i x hx => by
  obtain ⟨b, off, e, hlt, h0⟩ := h i x hx
  exact ⟨b, off, e, Nat.lt_of_lt_of_le hlt hb.size, range_below h0 hb hlt⟩
theorem task_cells {w : World} {b o : Nat} {x : FT} (h : w.rangeAt b o (taskC x)) : w.cell? ⟨b, o, none⟩ = some (.int .i64 x.pg) ∧ w.cell? ⟨b, o + 1, none⟩ = some (.int .i64 x.pc) ∧ w.cell? ⟨b, o + 2, none⟩ = some (.int .i32 x.r.a) ∧ w.cell? ⟨b, o + 3, none⟩ = some (.int .i32 x.r.b) ∧ w.cell? ⟨b, o + 4, none⟩ = some (.int .i32 x.r.c) ∧ w.cell? ⟨b, o + 5, none⟩ = some (.int .i32 x.r.d) ∧ w.cell? ⟨b, o + 6, none⟩ = some (.int .i64 x.st) ∧ w.cell? ⟨b, o + 7, none⟩ = some (.int .i64 x.on) :=
  ⟨h 0 _ rfl, h 1 _ rfl, h 2 _ rfl, h 3 _ rfl, h 4 _ rfl, h 5 _ rfl, h 6 _ rfl, h 7 _ rfl⟩
/-- Numbers that may be read. -/
def NumsIn (w : World) (A : Option Addr) (l : List Int) : Prop :=
  ∀ i x, l[i]? = some x → ∃ b off, A = some ⟨b, off, none⟩ ∧ b < w.heap.size ∧ w.cell? ⟨b, off + i, none⟩ = some (.int .i64 x)
theorem NumsIn.below {w w' : World} {A : Option Addr} {l : List Int} (h : NumsIn w A l) (hb : Below w.heap.size w w') : NumsIn w' A l := fun i x hx => by
  obtain ⟨b, off, e, hlt, h0⟩ := h i x hx
  exact ⟨b, off, e, Nat.lt_of_lt_of_le hlt hb.size, (hb.cell (p := ⟨b, _, none⟩) hlt).trans h0⟩
/-- A machine's tasks and owners, of the call's own. -/
structure OwnF (w : World) (B : Nat) (F O : Value) (ts : List FT) (ow : List Int) : Prop where
  tk : w.ownsRow B 45 8 F ts.length (tsC ts)
  ow : w.ownsRow B 3 1 O ow.length (numC ow)
def OwnB (F O : Value) : Nat → Prop := fun k => F.ownBlock = some k ∨ O.ownBlock = some k
section
variable {w w' : World} {B : Nat} {F O : Value} {ts : List FT} {ow : List Int}
theorem OwnF.but {X : Nat → Prop} (h : OwnF w B F O ts ow) (hb : But X w w') (hX : ∀ k, OwnB F O k → ¬ X k) : OwnF w' B F O ts ow :=
  ⟨row_but h.tk hb fun g hg => hX g (.inl hg), row_but h.ow hb fun g hg => hX g (.inr hg)⟩
theorem OwnF.below (h : OwnF w B F O ts ow) (hb : Below w.heap.size w w') : OwnF w' B F O ts ow := h.but (But.of_below (X := Nob) hb) fun _ _ q => q
theorem OwnF.lt (h : OwnF w B F O ts ow) {k : Nat} (hk : OwnB F O k) : B ≤ k ∧ k < w.heap.size := by
  rcases hk with hk | hk
  · exact h.tk.lt k hk
  · exact h.ow.lt k hk
theorem own_tsIn (h : w.ownsRow B 45 8 F ts.length (tsC ts)) : ∃ A cap, F = .slice A ts.length cap ∧ TsIn w A ts := by
  rcases rowForm h with ⟨rfl, e⟩ | ⟨g, cap, rfl⟩
  · have : ts = [] := List.length_eq_zero_iff.1 e
    subst this
    exact ⟨none, 0, rfl, fun i x hx => by simp at hx⟩
  · refine ⟨some ⟨g, 0, none⟩, cap, rfl, fun i x hx => ⟨g, 0, rfl, (h.lt g rfl).2, fun j u hj => ?_⟩⟩
    have hil := (List.getElem?_eq_some_iff.1 hx).1
    have hj8 : j < 8 := by have := (List.getElem?_eq_some_iff.1 hj).1; rwa [taskC_len] at this
    rw [show 0 + i * 8 + j = i * 8 + j by omega, h.cellAt (i * 8 + j) (by omega), tsC_get ts i x hx j hj8]
    exact hj
theorem own_numsIn (h : w.ownsRow B 3 1 O ow.length (numC ow)) : ∃ A cap, O = .slice A ow.length cap ∧ NumsIn w A ow := by
  rcases rowForm h with ⟨rfl, e⟩ | ⟨g, cap, rfl⟩
  · have : ow = [] := List.length_eq_zero_iff.1 e
    subst this
    exact ⟨none, 0, rfl, fun i x hx => by simp at hx⟩
  · refine ⟨some ⟨g, 0, none⟩, cap, rfl, fun i x hx => ⟨g, 0, rfl, (h.lt g rfl).2, ?_⟩⟩
    have hil := (List.getElem?_eq_some_iff.1 hx).1
    rw [show 0 + i = i by omega, h.cellAt i (by omega)]
    simp [numC, hx]
/-- A task's cell turned. -/
theorem OwnF.turn {g cap : Nat} (h : OwnF w B (.slice (some ⟨g, 0, none⟩) ts.length cap) O ts ow) {i : Nat} {x y : FT} (hx : ts[i]? = some x) (j : Nat) (u : Value) (hj : j < 8) (hy : (taskC x).set j u = taskC y) :
    OwnF (w.setCell ⟨g, i * 8 + j, none⟩ u) B (.slice (some ⟨g, 0, none⟩) ts.length cap) O (ts.set i y) ow := by
  have h1 := (h.tk.stored (i * 8 + j) u).1
  rw [tsC_set ts i x y hx j u hj hy] at h1
  refine ⟨by rw [List.length_set]; exact h1, row_but h.ow ((But.refl (fun k => k = g) w).set _ _ (.inl rfl)) fun k hk q => ?_⟩
  subst q
  rcases h.tk.2 with ⟨e, _⟩ | ⟨g', cap', cur, e, _, hgg, _⟩
  · cases e
  · simp only [Value.slice.injEq, Option.some.injEq, Addr.mk.injEq, and_true] at e
    obtain ⟨rfl, -⟩ := e
    exact absurd (row_type h.ow hk hgg) (by decide)
end
section
variable {w w' : World} {B g cap : Nat} {O : Value} {ts : List FT} {ow : List Int}
theorem OwnF.cells (h : OwnF w B (.slice (some ⟨g, 0, none⟩) ts.length cap) O ts ow) {i : Nat} {x : FT} (hx : ts[i]? = some x) : w.rangeAt g (i * 8) (taskC x) := fun j u hj => by
  have hil := (List.getElem?_eq_some_iff.1 hx).1
  have hj8 : j < 8 := by have := (List.getElem?_eq_some_iff.1 hj).1; rwa [taskC_len] at this
  rw [h.tk.cellAt (i * 8 + j) (by omega), tsC_get ts i x hx j hj8]
  exact hj
theorem OwnF.free (h : OwnF w B (.slice (some ⟨g, 0, none⟩) ts.length cap) O ts ow) (j : Nat) : w.frozen? ⟨g, j, none⟩ = false := h.tk.frozenAt j
/-- A task turned: what was done, and what it did. -/
def TaskW (w : World) (B g cap : Nat) (O : Value) (ts : List FT) (ow : List Int) (i : Nat) (R : Option FT) (w' : World) : Prop :=
  (R = none ∧ Below w.heap.size w w') ∨ ∃ y, R = some y ∧ OwnF w' B (.slice (some ⟨g, 0, none⟩) ts.length cap) O (ts.set i y) ow ∧ But (fun k => k = g) w w'
def TaskG (w : World) (B g cap : Nat) (O : Value) (ts : List FT) (ow : List Int) (i : Nat) (R : Option FT) (e : Ending) (w' : World) : Prop :=
  e = .returned (.bool R.isSome) ∧ TaskW w B g cap O ts ow i R w'
theorem TaskW.but {w w' : World} {B g cap : Nat} {O : Value} {ts : List FT} {ow : List Int} {i : Nat} {R : Option FT} (h : TaskW w B g cap O ts ow i R w') : But (fun k => k = g) w w' := by
  rcases h with ⟨-, b⟩ | ⟨y, -, -, b⟩
  · exact But.of_below b
  · exact b
theorem TaskW.drew {w w' : World} {B g cap : Nat} {O : Value} {ts : List FT} {ow : List Int} {i : Nat} {R : Option FT} (h : TaskW w B g cap O ts ow i R w') : TaskW w B g cap O ts ow i R w'.drew := by
  rcases h with ⟨a, b⟩ | ⟨y, a, b, c⟩
  · exact .inl ⟨a, b.drew⟩
  · exact .inr ⟨y, a, ⟨b.tk, b.ow⟩, c.drew⟩
end
/-- A machine's value. -/
def flL (F O : Value) (p : Nat → Bool) (t : Int) : List Value := F :: ((cellsOf p).toList ++ [O, .int .i64 t])
section
variable {F O : Value} {p : Nat → Bool} {t : Int}
theorem flL_len : (flL F O p t).length = 19 := by simp [flL, cellsOf]
theorem flL_0 : (flL F O p t)[0]? = some F := rfl
theorem flL_m (i : Nat) (h : i < 16) : (flL F O p t)[1 + i]? = (cellsOf p).toList[i]? := by
  unfold flL
  rw [Nat.add_comm, List.getElem?_cons_succ, List.getElem?_append_left (by simpa [cellsOf] using h)]
theorem flL_17 : (flL F O p t)[17]? = some O := by
  unfold flL
  rw [show (17 : Nat) = 16 + 1 from rfl, List.getElem?_cons_succ, List.getElem?_append_right (by simp [cellsOf])]
  simp [cellsOf]
theorem flL_18 : (flL F O p t)[18]? = some (.int .i64 t) := by
  unfold flL
  rw [show (18 : Nat) = 17 + 1 from rfl, List.getElem?_cons_succ, List.getElem?_append_right (by simp [cellsOf])]
  simp [cellsOf]
theorem flL_set0 (F' : Value) : (flL F O p t).set 0 F' = flL F' O p t := rfl
theorem flL_set18 (t' : Int) : (flL F O p t).set 18 (.int .i64 t') = flL F O p t' := by
  unfold flL
  rw [show (18 : Nat) = 17 + 1 from rfl, List.set_cons_succ, List.set_append_right _ _ (by simp [cellsOf])]
  simp [cellsOf]
theorem flL_set17 (O' : Value) : (flL F O p t).set 17 O' = flL F O' p t := by
  unfold flL
  rw [show (17 : Nat) = 16 + 1 from rfl, List.set_cons_succ, List.set_append_right _ _ (by simp [cellsOf])]
  simp [cellsOf]
end
abbrev flV (F O : Value) (p : Nat → Bool) (t : Int) : Value := .agg (flL F O p t).toArray
abbrev evV (e : EvP) : Value := .agg #[.int .i64 e.kd, .int .i64 e.tk, .int .i64 e.cpu, .int .i64 e.a, .int .i64 e.b]
/-- A box that holds a machine. -/
abbrev BF (w : World) (b : Nat) (F O : Value) (p : Nat → Bool) (t : Int) : Prop := Blk w b 30 (flL F O p t).toArray
section
variable {w : World} {b : Nat} {F O : Value} {p : Nat → Bool} {t : Int}
theorem BF.c0 (h : BF w b F O p t) : w.cell? ⟨b, 0, none⟩ = some F := by rw [h.cell, List.getElem?_toArray]; exact flL_0
theorem BF.c17 (h : BF w b F O p t) : w.cell? ⟨b, 17, none⟩ = some O := by rw [h.cell, List.getElem?_toArray]; exact flL_17
theorem BF.c18 (h : BF w b F O p t) : w.cell? ⟨b, 18, none⟩ = some (.int .i64 t) := by rw [h.cell, List.getElem?_toArray]; exact flL_18
theorem BF.all (h : BF w b F O p t) : w.rangeAt b 0 (flL F O p t) := fun j v hj => by rw [h.cell, Nat.zero_add, List.getElem?_toArray]; exact hj
theorem BF.set (h : BF w b F O p t) : w.rangeAt b 1 (cellsOf p).toList := fun j v hj => by
  have hj16 : j < 16 := by have := (List.getElem?_eq_some_iff.1 hj).1; simpa [cellsOf] using this
  rw [h.cell, List.getElem?_toArray, flL_m j hj16]; exact hj
theorem BF.free (h : BF w b F O p t) (i : Nat) : w.frozen? ⟨b, i, none⟩ = false := Blk.free h i
end
theorem infoFlat : (Tryd.prog.info? 30).map (·.size) = some 19 := by kernel_rfl
theorem infoSetS : (Tryd.prog.info? 24).map (·.size) = some 16 := by kernel_rfl
theorem infoTaskZ : (Tryd.prog.info? 45).map (fun i => (i.zero, i.size, i.bytes)) = some (some (.agg (taskC (FT.new 0)).toArray), 8, 48) := by kernel_rfl
theorem InsIn.keptB {w w' : World} {B : Nat} {A : Option Addr} {l : List I4} (h : InsIn w A l) (hb : Below B w w') (hA : l ≠ [] → ∀ a, A = some a → a.block < B) : InsIn w' A l := by
  by_cases hl : l = []
  · subst hl; exact fun i x hx => by simp at hx
  · exact h.kept hb (hA hl)
/-- Programs, and what their steps read. -/
structure Gnd (w : World) (B : Nat) (A : Option Addr) (ps : List PR) : Prop where
  tabs : Tabs w
  g : 1 < B ∧ 0 < B
  le : B ≤ w.heap.size
  ps : ∀ i q, ps[i]? = some q → ∃ b off, A = some ⟨b, off, none⟩ ∧ b < B ∧ w.cell? ⟨b, off + i * 2, none⟩ = some (.int .i64 q.prio) ∧ w.cell? ⟨b, off + i * 2 + 1, none⟩ = some (.slice q.A q.l.length q.cap) ∧ InsIn w q.A q.l ∧ (q.l ≠ [] → ∀ a, q.A = some a → a.block < B)
theorem Gnd.below {w w' : World} {B : Nat} {A : Option Addr} {ps : List PR} (h : Gnd w B A ps) (hb : Below B w w') : Gnd w' B A ps where
  tabs := ⟨fun k hk => (hb.cell (p := ⟨_, k, none⟩) h.g.1).trans (h.tabs.names k hk), (hb.cell (p := ⟨_, 0, none⟩) h.g.2).trans h.tabs.r0, (hb.cell (p := ⟨_, 1, none⟩) h.g.2).trans h.tabs.r1, (hb.cell (p := ⟨_, 2, none⟩) h.g.2).trans h.tabs.r2, Nat.lt_of_lt_of_le h.tabs.size.1 hb.size, Nat.lt_of_lt_of_le h.tabs.size.2 hb.size⟩
  g := h.g
  le := Nat.le_trans h.le hb.size
  ps i q hq := by
    obtain ⟨b, off, e, hB, c0, c1, hI, hA⟩ := h.ps i q hq
    exact ⟨b, off, e, hB, (hb.cell (p := ⟨b, _, none⟩) hB).trans c0, (hb.cell (p := ⟨b, _, none⟩) hB).trans c1, hI.keptB hb hA, hA⟩
end Go.Proofs.YtilaalleiiakoaaDoor
