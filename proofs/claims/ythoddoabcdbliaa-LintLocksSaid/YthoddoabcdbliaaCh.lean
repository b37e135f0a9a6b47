/- A program's instructions as they lie in memory. -/
import Derived.Test.YthoddoabcdbliaaBu
import Derived.Test.YthoddoabcdbliaaPl
import Derived.OwnWalk
import Derived.Deep.DeepCutAuto
namespace Go.Proofs.Ythoddoabcdbliaa
open Go.RowKit

/-- A number of Go's int. -/
def In64 (n : Int) : Prop := -9223372036854775808 ≤ n ∧ n ≤ 9223372036854775807
structure Fits (x : I4) : Prop where
  op : In64 x.op
  a : In64 x.a
  b : In64 x.b
  n : -2147483648 ≤ x.n ∧ x.n ≤ 2147483647
/-- A slice's instructions. -/
def InsIn (w : World) (A : Option Addr) (l : List I4) : Prop :=
  ∀ i x, l[i]? = some x → Fits x ∧ ∃ b off, A = some ⟨b, off, none⟩ ∧ b < w.heap.size ∧ w.cell? ⟨b, off + i * 4, none⟩ = some (.int .i64 x.op) ∧ w.cell? ⟨b, off + i * 4 + 1, none⟩ = some (.int .i64 x.a) ∧ w.cell? ⟨b, off + i * 4 + 2, none⟩ = some (.int .i64 x.b) ∧ w.cell? ⟨b, off + i * 4 + 3, none⟩ = some (.int .i32 x.n)
theorem InsIn.kept {w w' : World} {B : Nat} {A : Option Addr} {l : List I4} (h : InsIn w A l) (hb : Below B w w') (hA : ∀ a, A = some a → a.block < B) : InsIn w' A l := fun i x hx => by
  obtain ⟨f, b, off, e, hlt, h0, h1, h2, h3⟩ := h i x hx
  have hB : b < B := hA _ e
  exact ⟨f, b, off, e, Nat.lt_of_lt_of_le hlt hb.size, (hb.cell (p := ⟨b, _, none⟩) hB).trans h0, (hb.cell (p := ⟨b, _, none⟩) hB).trans h1, (hb.cell (p := ⟨b, _, none⟩) hB).trans h2, (hb.cell (p := ⟨b, _, none⟩) hB).trans h3⟩
theorem InsIn.below {w w' : World} {A : Option Addr} {l : List I4} (h : InsIn w A l) (hb : Below w.heap.size w w') : InsIn w' A l := fun i x hx => by
  obtain ⟨f, b, off, e, hlt, h0, h1, h2, h3⟩ := h i x hx
  exact ⟨f, b, off, e, Nat.lt_of_lt_of_le hlt hb.size, (hb.cell (p := ⟨b, _, none⟩) hlt).trans h0, (hb.cell (p := ⟨b, _, none⟩) hlt).trans h1, (hb.cell (p := ⟨b, _, none⟩) hlt).trans h2, (hb.cell (p := ⟨b, _, none⟩) hlt).trans h3⟩
abbrev insV (x : I4) : Value := .agg #[.int .i64 x.op, .int .i64 x.a, .int .i64 x.b, .int .i32 x.n]
def GotB (B : Nat) (v : Value) (w : World) (e : Ending) (w' : World) : Prop := e = .returned v ∧ Below B w w'
def CheckP (prio : Int) (l : List I4) (w : World) (e : Ending) (w' : World) : Prop :=
  e = .returned (.tuple #[.int .i64 (progE prio l).1, .int .i64 ((progE prio l).2 : Nat)]) ∧ Below w.heap.size w w'
theorem CheckP.mk {prio : Int} {l : List I4} {w w' : World} {e : Ending} {a : Int} {k : Nat} (h : progE prio l = (a, k)) (he : e = .returned (.tuple #[.int .i64 a, .int .i64 (k : Nat)])) (hb : Below w.heap.size w w') : CheckP prio l w e w' := by
  unfold CheckP; rw [h]; exact ⟨he, hb⟩
end Go.Proofs.Ythoddoabcdbliaa
