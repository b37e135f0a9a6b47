/- A machine without queues, told plainly: its tasks, what an event does to it (layer 19). -/
import Derived.Test.YtdelddkpbdnckaaDoorEp
import Derived.Test.YtdelddkpbdnckaaDoorSq
namespace Go.Proofs.YtdelddkpbdnckaaDoor
open Go.RowKit

/-- A task of it. -/
structure FT where
  pg : Int
  pc : Int
  r : R4
  st : Int
  on : Int
  deriving DecidableEq
def FT.new (pg : Int) : FT := ⟨pg, 0, ⟨0, 0, 0, 0⟩, 0, 0⟩
def taskC (x : FT) : List Value := [.int .i64 x.pg, .int .i64 x.pc, .int .i32 x.r.a, .int .i32 x.r.b, .int .i32 x.r.c, .int .i32 x.r.d, .int .i64 x.st, .int .i64 x.on]
theorem taskC_len (x : FT) : (taskC x).length = 8 := rfl
theorem taskC_one (x : FT) : ∀ v ∈ taskC x, v.oneCell' = true := fun v hv => by
  simp only [taskC, List.mem_cons, List.not_mem_nil, or_false] at hv
  rcases hv with rfl | rfl | rfl | rfl | rfl | rfl | rfl | rfl <;> rfl
def tsC (ts : List FT) : List Value := (ts.map taskC).flatten
theorem tsC_cons (x : FT) (r : List FT) : tsC (x :: r) = taskC x ++ tsC r := by unfold tsC; rw [List.map_cons, List.flatten_cons]
theorem tsC_len : ∀ ts : List FT, (tsC ts).length = ts.length * 8
  | [] => rfl
  | x :: t => by rw [tsC_cons, List.length_append, tsC_len t, taskC_len, List.length_cons]; omega
theorem tsC_app (a b : List FT) : tsC (a ++ b) = tsC a ++ tsC b := by unfold tsC; rw [List.map_append, List.flatten_append]
theorem tsC_one (x : FT) : tsC [x] = taskC x := by rw [tsC_cons]; simp [tsC]
theorem tsC_get : ∀ (ts : List FT) (i : Nat) (x : FT), ts[i]? = some x → ∀ j, j < 8 → (tsC ts)[i * 8 + j]? = (taskC x)[j]?
  | [], _, _, h, _, _ => by simp at h
  | y :: t, 0, x, h, j, hj => by
    simp at h; subst h
    rw [Nat.zero_mul, Nat.zero_add, tsC_cons, List.getElem?_append_left (by rw [taskC_len]; exact hj)]
  | y :: t, i + 1, x, h, j, hj => by
    rw [tsC_cons, List.getElem?_append_right (by rw [taskC_len]; omega), taskC_len, show (i + 1) * 8 + j - 8 = i * 8 + j by omega]
    exact tsC_get t i x (by simpa using h) j hj
theorem tsC_set : ∀ (ts : List FT) (i : Nat) (x y : FT), ts[i]? = some x → ∀ (j : Nat) (v : Value), j < 8 → (taskC x).set j v = taskC y → (tsC ts).set (i * 8 + j) v = tsC (ts.set i y)
  | [], _, _, _, h, _, _, _, _ => by simp at h
  | z :: t, 0, x, y, h, j, v, hj, hy => by
    simp at h; subst h
    rw [Nat.zero_mul, Nat.zero_add, tsC_cons, List.set_append_left _ _ (by rw [taskC_len]; exact hj), hy, List.set_cons_zero, tsC_cons]
  | z :: t, i + 1, x, y, h, j, v, hj, hy => by
    rw [tsC_cons, List.set_append_right _ _ (by rw [taskC_len]; omega), taskC_len, show (i + 1) * 8 + j - 8 = i * 8 + j by omega, tsC_set t i x y (by simpa using h) j v hj hy, List.set_cons_succ, tsC_cons]
theorem tsC_mem {ts : List FT} : ∀ v ∈ tsC ts, v.oneCell' = true := fun v hv => by
  unfold tsC at hv
  obtain ⟨l, hl, hv⟩ := List.mem_flatten.1 hv
  obtain ⟨x, -, rfl⟩ := List.mem_map.1 hl
  exact taskC_one x v hv
/-- A machine: its tasks, who is online, owners, time. -/
structure Fl where
  ts : List FT
  p : Nat → Bool
  ow : List Int
  tm : Int
structure EvP where
  kd : Int
  tk : Int
  cpu : Int
  a : Int
  b : Int
instance (n : Int) : Decidable (In32 n) := inferInstanceAs (Decidable (_ ∧ _))
def In64F (n : Int) : Prop := -9223372036854775808 ≤ n ∧ n ≤ 9223372036854775807
structure EvP.Ok (e : EvP) : Prop where
  kd : In64F e.kd
  tk : In64F e.tk
  cpu : In64F e.cpu
  a : In64F e.a
  b : In64F e.b
/-- A program, and where its instructions lie. -/
structure PR where
  prio : Int
  A : Option Addr
  l : List I4
  cap : Nat
def busyP (ts : List FT) (cpu : Int) : Bool := ts.any fun x => decide (x.st = 2) && decide (x.on = cpu)
def homeP (s : Int) : Bool := decide (0 ≤ s ∧ s < 8 ∧ s ≠ 2)
def waitP (s : Int) : Bool := decide (s = 3 ∨ s = 4 ∨ s = 5)
/-- Is that the instruction of that program? -/
def insP (ps : List PR) (x : FT) (op pc : Int) : Option PR :=
  if 0 ≤ x.pg ∧ pc = x.pc ∧ 0 ≤ pc then
    match ps[x.pg.toNat]? with
    | some q => if (q.l[pc.toNat]?.map fun i => i.op) = some op then some q else none
    | none => none
  else none
def doP (ps : List PR) (x : FT) (op pc : Int) : Option FT :=
  (insP ps x op pc).map fun q => { x with pc := (stepF q.prio q.l pc x.r).pc, r := (stepF q.prio q.l pc x.r).r }
/-- What an event does to its task. -/
def taskP (f : Fl) (ps : List PR) (e : EvP) (x : FT) : Option FT :=
  if e.kd = 2 then if x.st = 1 ∧ x.on = e.a ∧ hasP f.p e.cpu = true ∧ busyP f.ts e.cpu = false then some { x with st := 2, on := e.cpu } else none
  else if e.kd = 3 then if x.st = 2 ∧ x.on = e.cpu then doP ps x e.a e.b else none
  else if e.kd = 4 then if x.st = 2 ∧ x.on = e.cpu then some { x with st := 0, on := 0 } else none
  else if e.kd = 5 then if homeP x.st = true then some { x with st := 1, on := e.a } else none
  else if e.kd = 6 then if homeP x.st = true then some { x with st := 7, on := 0 } else none
  else if e.kd = 7 then if homeP x.st = true then some { x with st := 6, on := e.a } else none
  else if e.kd = 8 then if x.st = 1 ∧ x.on = e.a then some { x with st := 1, on := e.b } else none
  else if e.kd = 11 then if x.st = 0 ∧ waitP e.a = true then some { x with st := e.a, on := e.b } else none
  else if e.kd = 13 then if x.st = 0 then some { x with st := 8, on := e.a } else none
  else if e.kd = 12 then if (x.st = 2 ∧ x.on = e.cpu) ∨ x.st = 0 then some x else none
  else if e.kd = 21 then if x.st ≠ 8 ∧ 0 ≤ e.a ∧ e.a < 4 ∧ In32 e.b then some { x with r := x.r.put e.a.toNat e.b } else none
  else none
def isT (f : Fl) (t : Int) : Prop := 0 ≤ t ∧ t < (f.ts.length : Int)
instance (f : Fl) (t : Int) : Decidable (isT f t) := inferInstanceAs (Decidable (_ ∧ _))
def passP (ow : List Int) (i old new : Int) : Option (List Int) :=
  if 0 ≤ i ∧ ow[i.toNat]? = some old then some (ow.set i.toNat new) else none
/-- What an event does to a machine, if it may happen. -/
def turnP (f : Fl) (ps : List PR) (e : EvP) : Option Fl :=
  if e.kd = 17 ∨ e.kd = 18 ∨ e.kd = 19 ∨ e.kd = 20 then some f
  else if e.kd = 1 then if e.tk = (f.ts.length : Int) ∧ 0 ≤ e.a ∧ e.a < (ps.length : Int) then some { f with ts := f.ts ++ [FT.new e.a] } else none
  else if e.kd = 14 then if 0 ≤ e.cpu ∧ e.cpu < 1024 ∧ hasP f.p e.cpu = false then some { f with p := putP f.p e.cpu } else none
  else if e.kd = 15 then if hasP f.p e.cpu = true ∧ busyP f.ts e.cpu = false then some { f with p := dropP f.p e.cpu } else none
  else if e.kd = 16 then if 1 ≤ e.a ∧ e.a = f.tm + 1 then some { f with tm := e.a } else none
  else if e.kd = 9 then if isT f e.tk then (passP f.ow e.a (-1) e.tk).map fun o => { f with ow := o } else none
  else if e.kd = 10 then if isT f e.tk then (passP f.ow e.a e.tk (-1)).map fun o => { f with ow := o } else none
  else if isT f e.tk then (f.ts[e.tk.toNat]?.bind (taskP f ps e)).map fun y => { f with ts := f.ts.set e.tk.toNat y } else none
/-- What all events do, and the place of the first that may not happen. -/
def playP (ps : List PR) : Fl → List EvP → Nat → Fl × Int
  | f, [], _ => (f, -1)
  | f, e :: l, k => match turnP f ps e with
    | some g => playP ps g l (k + 1)
    | none => (f, k)
structure Fl.Ok (f : Fl) : Prop where
  tm : In64F f.tm
  r : ∀ x ∈ f.ts, x.r.Ok
  len : f.ts.length ≤ 200
  low : f.ow.length ≤ 40
end Go.Proofs.YtdelddkpbdnckaaDoor
