/- lint's isPlace; rows of numbers. -/
import Derived.Test.YthoddoabcdbliaaLp
import Derived.Test.YthoddoabcdbliaaCh
import Derived.Deep.DeepCutAuto
namespace Go.Proofs.Ythoddoabcdbliaa
open Go.RowKit

theorem below_drewN {B : Nat} {a w : World} (h : Below B a w) (n : Nat) : Below B a (w.drewN n) := ⟨h.os, h.tape, h.output, h.size, h.block⟩
set_option maxHeartbeats 1000000 in
theorem isPlace_any (prio : Int) (A : Option Addr) (n cap : Nat) (k : Int) (w : World) (hn : n ≤ 64) :
    Calls Try.prog 23 #[.agg #[.int .i64 prio, .slice A n cap], .int .i64 k] w (GotB w.heap.size (.bool (decide (0 ≤ k ∧ k < n))) w) := by
  have hb : Below w.heap.size w (w.alloc (.cells #[.int .i64 prio, .slice A n cap] 24)) := (Below.refl _ _).alloc (Nat.le_refl _) _
  have HB := Lib.hid hb; clear hb
  obtain ⟨q, hq⟩ : ∃ q, decide (0 ≤ k ∧ k < (n : Int)) = q := ⟨_, rfl⟩
  rw [hq]
  have hm : (n : Int) ≤ 64 := by omega
  by_cases h0 : 0 ≤ k
  · have t0 : decide ((0 : Int) ≤ k) = true := by simpa using h0
    have t : decide (k < (n : Int)) = q := by rw [← hq, decide_eq_decide]; omega
    clear hq
    go_enter Try.func23, Try.ntmps23
    go_wp2
    go_ret
    exact ⟨rfl, HB.out⟩
  · have t0 : decide ((0 : Int) ≤ k) = false := by simpa using h0
    have t : q = false := by rw [← hq, decide_eq_false_iff_not]; omega
    subst t
    clear hq
    go_enter Try.func23, Try.ntmps23
    go_wp2
    go_ret
    exact ⟨rfl, HB.out⟩
/-- A slice's numbers. -/
def NumsIn (w : World) (A : Option Addr) (l : List Int) : Prop :=
  ∀ i x, l[i]? = some x → ∃ b off, A = some ⟨b, off, none⟩ ∧ b < w.heap.size ∧ w.cell? ⟨b, off + i, none⟩ = some (.int .i64 x)
theorem NumsIn.below {w w' : World} {A : Option Addr} {l : List Int} (h : NumsIn w A l) (hb : Below w.heap.size w w') : NumsIn w' A l := fun i x hx => by
  obtain ⟨b, off, e, hlt, h0⟩ := h i x hx
  exact ⟨b, off, e, Nat.lt_of_lt_of_le hlt hb.size, (hb.cell (p := ⟨b, _, none⟩) hlt).trans h0⟩
def NextP (l : List Int) (w : World) (e : Ending) (w' : World) : Prop :=
  ∃ A cap, e = .returned (.slice A l.length cap) ∧ NumsIn w' A l ∧ Below w.heap.size w w' ∧ ∀ a, A = some a → w.heap.size ≤ a.block
end Go.Proofs.Ythoddoabcdbliaa
