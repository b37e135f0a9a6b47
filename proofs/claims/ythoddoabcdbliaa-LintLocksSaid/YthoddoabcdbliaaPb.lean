/- Out of a program's places: the document's Goes, and Next. -/
import Derived.Test.YthoddoabcdbliaaPa
namespace Go.Proofs.Ythoddoabcdbliaa
open Go.RowKit

set_option maxRecDepth 100000 in
set_option maxHeartbeats 4000000 in
theorem goes_out (prio : Int) (A : Option Addr) (n cap : Nat) (k tg : Int) (w : World) (hk : ¬ (0 ≤ k ∧ k < (n : Int))) (hl : n ≤ 64) :
    Calls Try.prog 8 #[.agg #[.int .i64 prio, .slice A n cap], .int .i64 k, .int .i64 tg] w (GotB w.heap.size (.bool false) w) := by
  have hb : Below w.heap.size w (w.alloc (.cells #[.int .i64 prio, .slice A n cap] 24)) := (Below.refl _ _).alloc (Nat.le_refl _) _
  have HB := Lib.hid hb; clear hb
  have hm : (n : Int) ≤ 64 := by omega
  by_cases h0 : k < 0
  · have t0 : decide (k < (0 : Int)) = true := by simpa using h0
    go_enter Try.func8, Try.ntmps8
    go_wp2
    go_ret
    exact ⟨rfl, HB.out⟩
  · have t0 : decide (k < (0 : Int)) = false := by simpa using h0
    have t1 : decide ((n : Int) ≤ k) = true := by simp; omega
    go_enter Try.func8, Try.ntmps8
    go_wp2
    go_ret
    exact ⟨rfl, HB.out⟩
set_option maxRecDepth 100000 in
set_option maxHeartbeats 4000000 in
theorem next_out (prio : Int) (A : Option Addr) (n cap : Nat) (k : Int) (w : World) (hk : ¬ (0 ≤ k ∧ k < (n : Int))) (hl : n ≤ 64) :
    Calls Try.prog 12 #[.agg #[.int .i64 prio, .slice A n cap], .int .i64 k] w (NextP [] w) := by
  have hb := Blk.new w 24 #[.int .i64 prio, .slice A n cap]
  have hB : Below w.heap.size w (w.alloc (.cells #[.int .i64 prio, .slice A n cap] 24)) := (Below.refl _ _).alloc (Nat.le_refl _) _
  have HP := isPlace_any prio A n cap k (w.alloc (.cells #[.int .i64 prio, .slice A n cap] 24)) hl
  rw [decide_eq_false hk] at HP
  have HP := Lib.hid HP
  have HB := Lib.hid hb; have HBB := Lib.hid hB
  clear hb hB
  have x0 := HB.out.cell 0; have x1 := HB.out.cell 1
  simp only [List.getElem?_toArray, List.getElem?_cons_zero, List.getElem?_cons_succ] at x0 x1
  go_enter Try.func12, Try.ntmps12
  go_wp2_with fail
  refine HP.out.mono ?_
  rintro e w2 ⟨rfl, h2⟩
  have HBB2 := Lib.hid (HBB.out.trans (h2.mono HBB.out.size))
  clear h2 x0 x1 HB HBB HP
  go_wp2_with fail
  go_ret
  exact ⟨none, 0, rfl, fun i x hx => by simp at hx, HBB2.out, fun a ha => by cases ha⟩
end Go.Proofs.Ythoddoabcdbliaa
