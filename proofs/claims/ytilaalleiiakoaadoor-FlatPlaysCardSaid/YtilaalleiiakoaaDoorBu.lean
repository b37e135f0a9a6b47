/- What a call leaves as it was: all blocks but some. -/
import Derived.Test.YtilaalleiiakoaaDoorProg
import Derived.Deep.QuietTactic
import Derived.BigQuiet
import Derived.Maps.AppendAt
import Derived.Laws.CopyOwn
import Derived.Lib.Hide
import Derived.Laws.Rows
import Derived.Below
import Derived.WalkKit
import Derived.WalkSpells
import Derived.WalkLawsBesides
import Derived.IntWalk
import Derived.Lib.ItoaLen
import Derived.Lib.IndexMore
import Derived.Lib.AtoiAll
import Derived.Lib.LaidTab
namespace Go.Proofs.YtilaalleiiakoaaDoor
open Go.RowKit

/-- All blocks that were there are as they were, but those of X. -/
structure But (X : Nat → Prop) (w w' : World) : Prop where
  os : w'.os = w.os
  tape : w'.tape = w.tape
  output : w'.output = w.output
  size : w.heap.size ≤ w'.heap.size
  block : ∀ k, k < w.heap.size → ¬ X k → w'.heap[k]? = w.heap[k]?
theorem But.refl (X : Nat → Prop) (w : World) : But X w w := ⟨rfl, rfl, rfl, Nat.le_refl _, fun _ _ _ => rfl⟩
theorem But.step {X Y : Nat → Prop} {a b c : World} (h : But X a b) (k : But Y b c) (hY : ∀ i, i < a.heap.size → Y i → X i) : But X a c :=
  ⟨k.os.trans h.os, k.tape.trans h.tape, k.output.trans h.output, Nat.le_trans h.size k.size, fun i hi hx => (k.block i (Nat.lt_of_lt_of_le hi h.size) (fun y => hx (hY i hi y))).trans (h.block i hi hx)⟩
theorem But.trans {X : Nat → Prop} {a b c : World} (h : But X a b) (k : But X b c) : But X a c := h.step k fun _ _ y => y
theorem But.mono {X Y : Nat → Prop} {a b : World} (h : But X a b) (hX : ∀ i, i < a.heap.size → X i → Y i) : But Y a b := ⟨h.os, h.tape, h.output, h.size, fun k hk hy => h.block k hk (fun x => hy (hX k hk x))⟩
theorem But.drew {X : Nat → Prop} {a w : World} (h : But X a w) : But X a w.drew := ⟨h.os, h.tape, h.output, h.size, h.block⟩
theorem But.drewN {X : Nat → Prop} {a w : World} (h : But X a w) (n : Nat) : But X a (w.drewN n) := ⟨h.os, h.tape, h.output, h.size, h.block⟩
theorem But.alloc {X : Nat → Prop} {a w : World} (h : But X a w) (o : Obj) : But X a (w.alloc o) :=
  ⟨h.os, h.tape, h.output, Nat.le_trans h.size (by simp), fun k hk hn => (Below.heap_alloc w o k (Nat.lt_of_lt_of_le hk h.size)).trans (h.block k hk hn)⟩
theorem But.set {X : Nat → Prop} {a w : World} (h : But X a w) (p : Addr) (v : Value) (hp : X p.block ∨ a.heap.size ≤ p.block) : But X a (w.setCell p v) :=
  ⟨h.os, h.tape, h.output, by simpa using h.size, fun k hk hn => (Below.heap_setCell w p v k (by rintro rfl; rcases hp with hp | hp; exact hn hp; omega)).trans (h.block k hk hn)⟩
theorem But.grown {X : Nat → Prop} {a w w' : World} {row : Option Nat} (h : But X a w) (hg : w.grownBy w' row) (hr : ∀ k, row = some k → X k ∨ a.heap.size ≤ k) : But X a w' :=
  ⟨hg.os.trans h.os, hg.tape.trans h.tape, hg.output.trans h.output, Nat.le_trans h.size hg.size, fun k hk hn => (hg.block k (Nat.lt_of_lt_of_le hk h.size) (fun e => by rcases hr k e.symm with x | x; exact hn x; omega)).trans (h.block k hk hn)⟩
theorem But.below {X : Nat → Prop} {B : Nat} {a w : World} (h : But X a w) (hB : B ≤ a.heap.size) (hX : ∀ k, k < a.heap.size → X k → B ≤ k) : Below B a w :=
  ⟨h.os, h.tape, h.output, h.size, fun k hk => h.block k (Nat.lt_of_lt_of_le hk hB) (fun x => by have := hX k (Nat.lt_of_lt_of_le hk hB) x; omega)⟩
theorem But.of_below {X : Nat → Prop} {a w : World} (h : Below a.heap.size a w) : But X a w := ⟨h.os, h.tape, h.output, h.size, fun k hk _ => h.block k hk⟩
def Nob : Nat → Prop := fun _ => False
theorem But.nob {X : Nat → Prop} {a w : World} (h : But Nob a w) : But X a w := h.mono fun _ _ x => x.elim

/-- A block: its element type and all its cells. -/
def Blk (w : World) (g : Nat) (t : TypeId) (cs : Array Value) : Prop := w.heap[g]? = some (.cells cs t (0, 0))
section
variable {w w' : World} {g : Nat} {t : TypeId} {cs : Array Value}
theorem Blk.lt (h : Blk w g t cs) : g < w.heap.size := (Array.getElem?_eq_some_iff.1 h).1
theorem Blk.cell (h : Blk w g t cs) (i : Nat) : w.cell? ⟨g, i, none⟩ = cs[i]? := cell_of_row w g i cs t (0, 0) h
theorem Blk.has (h : Blk w g t cs) {i : Nat} (hi : i < cs.size) : ∃ v, w.cell? ⟨g, i, none⟩ = some v := ⟨cs[i], by rw [h.cell, Array.getElem?_eq_getElem hi]⟩
theorem Blk.free (h : Blk w g t cs) (i : Nat) : w.frozen? ⟨g, i, none⟩ = false := by
  unfold World.frozen?; rw [show w.heap[g]? = _ from h]; simp
theorem Blk.new (w : World) (t : TypeId) (cs : Array Value) : Blk (w.alloc (.cells cs t)) w.heap.size t cs := heap_alloc_new w _
theorem Blk.alloc (h : Blk w g t cs) (o : Obj) : Blk (w.alloc o) g t cs := (Below.heap_alloc w o g (Blk.lt h)).trans h
theorem Blk.set_ (h : Blk w g t cs) (i : Nat) (u : Value) : Blk (w.setCell ⟨g, i, none⟩ u) g t (cs.setIfInBounds i u) := heap_setCell_same w g i cs t u h
theorem Blk.far (h : Blk w g t cs) {p : Addr} (hp : g ≠ p.block) (u : Value) : Blk (w.setCell p u) g t cs := (heap_setCell_other w p g u hp).trans h
theorem Blk.but {X : Nat → Prop} (h : Blk w g t cs) (hb : But X w w') (hg : ¬ X g) : Blk w' g t cs := (hb.block g (Blk.lt h) hg).trans h
theorem Blk.below {B : Nat} (h : Blk w g t cs) (hb : Below B w w') (hg : g < B) : Blk w' g t cs := (hb.block g hg).trans h
end

/-- An instruction. -/
structure I4 where
  op : Int
  a : Int
  b : Int
  n : Int
  deriving DecidableEq
def I4.zero : I4 := ⟨0, 0, 0, 0⟩
/-- An instruction's name. -/
def nmL : Nat → List UInt8
  | 1 => [115, 101, 116]
  | 2 => [97, 100, 100]
  | 3 => [115, 117, 98]
  | 4 => [106, 117, 109, 112]
  | 5 => [106, 110, 122]
  | 6 => [121, 105, 101, 108, 100]
  | 7 => [115, 112, 97, 119, 110]
  | 8 => [106, 111, 105, 110]
  | 9 => [108, 111, 99, 107]
  | 10 => [117, 110, 108, 111, 99, 107]
  | 11 => [115, 108, 101, 101, 112]
  | 12 => [109, 97, 115, 107]
  | 13 => [111, 117, 116]
  | 14 => [101, 120, 105, 116]
  | _ => []
def nameL (op : Int) : List UInt8 := nmL op.toNat
def nameS (op : Int) : ByteArray := ⟨(nameL op).toArray⟩
def hasA (op : Int) : Bool := decide (op ≠ 4 ∧ op ≠ 6)
def hasB (op : Int) : Bool := decide (op = 2 ∨ op = 3 ∨ op = 8)
def hasN (op : Int) : Bool := decide (op = 1 ∨ op = 4 ∨ op = 5 ∨ op = 7 ∨ op = 9 ∨ op = 10 ∨ op = 12)
/-- May a number stand for a register? -/
def regOk (r : Int) (one : Bool) : Bool := if one then decide (0 ≤ r ∧ r < 4) else decide (r = 0)
/-- What is wrong with an instruction's number. -/
def numE (op n places : Int) : Int :=
  if op = 1 then 0
  else if op = 4 ∨ op = 5 then (if n < 0 ∨ places - 1 < n then 32 else 0)
  else if op = 7 ∨ op = 12 ∨ op = 9 ∨ op = 10 then (if n < 0 ∨ 15 < n then 26 else 0)
  else (if n < 0 ∨ 0 < n then 26 else 0)
/-- What is wrong first with an instruction. -/
def insE (x : I4) (places : Int) : Int :=
  if x.op < 1 ∨ 14 < x.op then 30
  else if regOk x.a (hasA x.op) = false ∨ regOk x.b (hasB x.op) = false then 31
  else numE x.op x.n places
/-- The first one from a place on with which something is wrong. -/
def codeE (places : Int) : List I4 → Nat → Int × Nat
  | [], _ => (0, 0)
  | x :: l, i => if insE x places = 0 then codeE places l (i + 1) else (insE x places, i)
def lastOp : List I4 → Int
  | [] => 0
  | [x] => x.op
  | _ :: y :: l => lastOp (y :: l)
/-- What is wrong with a program. -/
def progE (prio : Int) (l : List I4) : Int × Nat :=
  if prio < 0 ∨ 3 < prio then (26, 0)
  else if l.length = 0 ∨ 64 < l.length then (33, 0)
  else if (codeE l.length l 0).1 = 0 then (if lastOp l = 4 ∨ lastOp l = 14 then (0, 0) else (32, l.length - 1))
  else codeE l.length l 0
/-- An instruction's line, a program's text. -/
def insL (x : I4) : List UInt8 :=
  nameL x.op ++ ((if hasA x.op then [32, 114] ++ Lib.itoa x.a else []) ++ ((if hasB x.op then [32, 114] ++ Lib.itoa x.b else []) ++ (if hasN x.op then [32] ++ Lib.itoa x.n else [])))
def lineL (x : I4) : List UInt8 := 9 :: insL x
def headL (prio : Int) : List UInt8 := [112, 114, 111, 103, 32] ++ Lib.itoa prio
def bodyL (l : List I4) : List UInt8 := l.flatMap fun x => lineL x ++ [10]
def textL (prio : Int) (l : List I4) : List UInt8 := headL prio ++ [10] ++ bodyL l
/-- An instruction that a text may have. -/
structure Okay (x : I4) : Prop where
  op : 1 ≤ x.op ∧ x.op ≤ 14
  a : regOk x.a (hasA x.op) = true
  b : regOk x.b (hasB x.op) = true
  n : hasN x.op = false → x.n = 0
  w : -2147483648 ≤ x.n ∧ x.n ≤ 2147483647
theorem nameL_none {op : Int} (h : op < 1 ∨ 14 < op) : nameL op = [] := by
  unfold nameL
  have : op.toNat = 0 ∨ 14 < op.toNat := by omega
  rcases this with h | h
  · rw [h]; rfl
  · obtain ⟨k, hk⟩ : ∃ k, op.toNat = k + 15 := ⟨op.toNat - 15, by omega⟩
    rw [hk]; rfl
theorem nameL_some {op : Int} (h : 1 ≤ op ∧ op ≤ 14) : nameL op ≠ [] := by
  obtain ⟨k, rfl⟩ : ∃ k : Nat, op = k := ⟨op.toNat, by omega⟩
  obtain ⟨h1, h2⟩ := h
  have : k = 1 ∨ k = 2 ∨ k = 3 ∨ k = 4 ∨ k = 5 ∨ k = 6 ∨ k = 7 ∨ k = 8 ∨ k = 9 ∨ k = 10 ∨ k = 11 ∨ k = 12 ∨ k = 13 ∨ k = 14 := by omega
  rcases this with h | h | h | h | h | h | h | h | h | h | h | h | h | h <;> subst h <;> decide
theorem nameL_len (op : Int) : (nameL op).length ≤ 6 := by
  unfold nameL
  generalize op.toNat = k
  unfold nmL
  split <;> simp
theorem lastOp_snoc (l : List I4) (x : I4) : lastOp (l ++ [x]) = x.op := by
  induction l with
  | nil => rfl
  | cons y l ih =>
    cases l with
    | nil => rfl
    | cons z l => simpa [lastOp] using ih
theorem codeE_snoc (places : Int) : ∀ (l : List I4) (x : I4) (i : Nat), (codeE places l i).1 = 0 → codeE places (l ++ [x]) i = if insE x places = 0 then (0, 0) else (insE x places, i + l.length)
  | [], x, i, _ => by simp [codeE]
  | y :: l, x, i, h => by
    unfold codeE at h
    by_cases hy : insE y places = 0
    · rw [if_pos hy] at h
      have := codeE_snoc places l x (i + 1) h
      simp only [List.cons_append, codeE, if_pos hy, this, List.length_cons]
      rw [show i + 1 + l.length = i + (l.length + 1) by omega]
    · rw [if_neg hy] at h
      exact absurd h hy
/-- Behind the first fault nothing turns. -/
theorem codeE_more (places : Int) : ∀ (l r : List I4) (i : Nat), (codeE places l i).1 ≠ 0 → codeE places (l ++ r) i = codeE places l i
  | [], _, _, h => absurd rfl h
  | y :: l, r, i, h => by
    unfold codeE at h
    by_cases hy : insE y places = 0
    · rw [if_pos hy] at h
      simp only [List.cons_append, codeE, if_pos hy]
      exact codeE_more places l r (i + 1) h
    · simp only [List.cons_append, codeE, if_neg hy]
theorem codeE_hit {places : Int} {l : List I4} {k : Nat} {x : I4} (h : (codeE places (l.take k) 0).1 = 0) (hx : l[k]? = some x) (he : insE x places ≠ 0) : codeE places l 0 = (insE x places, k) := by
  have hk : k < l.length := (List.getElem?_eq_some_iff.1 hx).1
  have hx' : l[k] = x := (List.getElem?_eq_some_iff.1 hx).2
  have e : l = (l.take k ++ [x]) ++ l.drop (k + 1) := by
    rw [← hx', List.take_append_getElem, List.take_append_drop]
  have hs := codeE_snoc places (l.take k) x 0 h
  rw [if_neg he, Nat.zero_add, List.length_take, Nat.min_eq_left (by omega)] at hs
  rw [e, codeE_more places _ _ 0 (by rw [hs]; exact he), hs]
theorem codeE_on {places : Int} {l : List I4} {k : Nat} {x : I4} (h : (codeE places (l.take k) 0).1 = 0) (hx : l[k]? = some x) (he : insE x places = 0) : (codeE places (l.take (k + 1)) 0).1 = 0 := by
  have hk : k < l.length := (List.getElem?_eq_some_iff.1 hx).1
  have hx' : l[k] = x := (List.getElem?_eq_some_iff.1 hx).2
  rw [← List.take_append_getElem hk, hx', codeE_snoc places _ x 0 h, if_pos he]
theorem lastOp_at {l : List I4} {x : I4} (hx : l[l.length - 1]? = some x) : lastOp l = x.op := by
  have hk : l.length - 1 < l.length := (List.getElem?_eq_some_iff.1 hx).1
  have hx' : l[l.length - 1] = x := (List.getElem?_eq_some_iff.1 hx).2
  have e : l = l.take (l.length - 1) ++ [x] := by
    have := List.take_append_getElem hk
    rw [hx', show l.length - 1 + 1 = l.length by omega, List.take_length] at this
    exact this.symm
  rw [e]; exact lastOp_snoc _ _
theorem progE_size {prio : Int} {l : List I4} (h : prio < 0 ∨ 3 < prio) : progE prio l = (26, 0) := if_pos h
theorem progE_len {prio : Int} {l : List I4} (h : ¬ (prio < 0 ∨ 3 < prio)) (hl : l.length = 0 ∨ 64 < l.length) : progE prio l = (33, 0) := by unfold progE; rw [if_neg h, if_pos hl]
theorem progE_code {prio : Int} {l : List I4} (h : ¬ (prio < 0 ∨ 3 < prio)) (hl : ¬ (l.length = 0 ∨ 64 < l.length)) {e : Int} {k : Nat} (hc : codeE l.length l 0 = (e, k)) (he : e ≠ 0) : progE prio l = (e, k) := by
  unfold progE; rw [if_neg h, if_neg hl, hc, if_neg he]
theorem progE_last {prio : Int} {l : List I4} (h : ¬ (prio < 0 ∨ 3 < prio)) (hl : ¬ (l.length = 0 ∨ 64 < l.length)) (hc : (codeE l.length l 0).1 = 0) : progE prio l = if lastOp l = 4 ∨ lastOp l = 14 then (0, 0) else (32, l.length - 1) := by
  unfold progE; rw [if_neg h, if_neg hl, if_pos hc]


structure Tabs (w : World) : Prop where
  names : ∀ k : Nat, k < 15 → w.cell? ⟨1, k, none⟩ = some (.string ⟨(nmL k).toArray⟩)
  r0 : w.cell? ⟨0, 0, none⟩ = some (.int .i64 14)
  r1 : w.cell? ⟨0, 1, none⟩ = some (.int .i64 0)
  r2 : w.cell? ⟨0, 2, none⟩ = some (.int .i32 (-1))
  size : 1 < w.heap.size ∧ 0 < w.heap.size
theorem Tabs.on {w w' : World} (h : Tabs w) (hb : Below w.heap.size w w') : Tabs w' where
  names k hk := (hb.cell (p := ⟨_, k, none⟩) h.size.1).trans (h.names k hk)
  r0 := (hb.cell (p := ⟨_, 0, none⟩) h.size.2).trans h.r0
  r1 := (hb.cell (p := ⟨_, 1, none⟩) h.size.2).trans h.r1
  r2 := (hb.cell (p := ⟨_, 2, none⟩) h.size.2).trans h.r2
  size := ⟨Nat.lt_of_lt_of_le h.size.1 hb.size, Nat.lt_of_lt_of_le h.size.2 hb.size⟩
theorem Tabs.drewN {w : World} (h : Tabs w) (n : Nat) : Tabs (w.drewN n) := h.on ⟨rfl, rfl, rfl, Nat.le_refl _, fun _ _ => rfl⟩
theorem Tabs.alloc {w : World} (h : Tabs w) (o : Obj) : Tabs (w.alloc o) := h.on ((Below.refl _ _).alloc (Nat.le_refl _) o)
end Go.Proofs.YtilaalleiiakoaaDoor
