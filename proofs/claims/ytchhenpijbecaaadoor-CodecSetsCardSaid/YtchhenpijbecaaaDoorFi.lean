/- The least worker of a set: math/bits.TrailingZeros64, cpuset.First, Next, rowEnd. -/
import Derived.Test.YtchhenpijbecaaaDoorSl
import Derived.Shelf.Spec.TrailingZeros
import Derived.Lib.AppendIntMem
namespace Go.Proofs.YtchhenpijbecaaaDoor
open Go.RowKit

/-- The library's table holds what its initialiser lays. -/
def Tabs (w : World) : Prop := Lib.TabIs Tryd.prog w "math/bits.deBruijn64tab" .u8 (Lib.deBruijn64tab.map fun n : Nat => (n : Int)) ∧ 1 ≤ w.heap.size
theorem gTab64 : Tryd.prog.globalNamed "math/bits.deBruijn64tab" = some 0 := by kernel_rfl
theorem Tabs.below {w w' : World} {B : Nat} (h : Tabs w) (hb : Below B w w') (hB : 1 ≤ B) : Tabs w' :=
  ⟨var?_below hb gTab64 (by omega) h.1, Nat.le_trans h.2 hb.size⟩
theorem Tabs.on {w w' : World} (h : Tabs w) (hb : Below w.heap.size w w') : Tabs w' := h.below hb h.2
theorem Tabs.cell64 {w : World} (h : Tabs w) (j : Nat) (hj : j < 64) : w.cell? ⟨0, j, none⟩ = some (.int .u8 (Lib.deBruijn64tab.getD j 0 : Nat)) := by
  have h1 := h.1.cell gTab64 j (by simpa [Lib.deBruijn64tab] using hj)
  rw [h1]
  have hj' : j < Lib.deBruijn64tab.length := by simpa [Lib.deBruijn64tab] using hj
  simp only [List.getD_eq_getElem?_getD, List.getElem?_map, List.getElem?_eq_getElem hj', Option.map_some, Option.getD_some]

set_option maxHeartbeats 1000000 in
theorem tz_core (x k idx : Nat) (w : World) (hx0 : ((x : Int) == 0) = false)
    (key : IntKind.u64.wrap (bits BinOp.and IntKind.u64 (x : Int) (IntKind.u64.wrap (-(x : Int))) * 285870213051353865) / 288230376151711744 = (idx : Int))
    (hi : idx < 64) (hk : k < 64) (hcell : w.cell? ⟨0, idx, none⟩ = some (.int .u8 k)) :
    Calls Tryd.prog 44 #[.int .u64 x] w fun e w' => e = .returned (.int .i64 k) ∧ w = w' := by
  go_enter Tryd.func44, Tryd.ntmps44
  go_wp2_with (simp only [key])
  go_ret
  exact ⟨rfl, rfl⟩
/-- math/bits.TrailingZeros64, at every x that is not 0. -/
theorem tz_any (x : Nat) (hx : x < 18446744073709551616) (hx0 : x ≠ 0) (w : World) (hT : Tabs w) :
    Calls Tryd.prog 44 #[.int .u64 x] w fun e w' => e = .returned (.int .i64 (Lib.ctz 64 x)) ∧ w = w' := by
  obtain ⟨hlow, hk⟩ := Lib.lowest_bit 64 x hx0 hx
  obtain ⟨hi, htab⟩ := Lib.deBruijn64_at _ hk
  have hcell := hT.cell64 _ hi
  rw [htab] at hcell
  exact tz_core x _ _ w (by simp; omega) (tz64_key x _ hx hx0 hlow) hi hk hcell
theorem ctz_bits (x : Nat) (hx : x < 2 ^ 64) (hx0 : x ≠ 0) : Lib.ctz 64 x < 64 ∧ x.testBit (Lib.ctz 64 x) = true ∧ ∀ j, j < Lib.ctz 64 x → x.testBit j = false := by
  obtain ⟨m, hm, hlt⟩ := Lib.ctzFrom_spec 64 x (by omega) hx
  have e : Lib.ctz 64 x = Lib.ctzFrom 64 x := by unfold Lib.ctz; rw [if_neg hx0]
  rw [e]
  generalize Lib.ctzFrom 64 x = c at *
  refine ⟨hlt, ?_, fun j hj => ?_⟩
  · rw [hm, Nat.testBit_two_pow_mul]; simp
  · rw [hm, Nat.testBit_two_pow_mul]; simp; omega

/-- The least worker. -/
def firstO (p : Nat → Bool) : Option Nat := (List.range 1024).find? p
theorem firstO_some {p : Nat → Bool} {n : Nat} (hn : n < 1024) (h : p n = true) (hl : ∀ j, j < n → p j = false) : firstO p = some n :=
  List.find?_range_eq_some.2 ⟨h, by simpa using hn, fun j hj => by rw [hl j hj]; rfl⟩
theorem firstO_none {p : Nat → Bool} (h : ∀ j, j < 1024 → p j = false) : firstO p = none :=
  List.find?_range_eq_none.2 fun j hj => by rw [h j hj]; rfl
theorem firstO_spec {p : Nat → Bool} {n : Nat} (h : firstO p = some n) : n < 1024 ∧ p n = true ∧ ∀ j, j < n → p j = false := by
  obtain ⟨h1, h2, h3⟩ := List.find?_range_eq_some.1 h
  exact ⟨by simpa using h2, h1, fun j hj => by simpa using h3 j hj⟩
theorem firstO_congr {p q : Nat → Bool} (h : ∀ n, n < 1024 → p n = q n) : firstO p = firstO q := by
  unfold firstO
  have : ∀ l : List Nat, (∀ n ∈ l, n < 1024) → l.find? p = l.find? q := fun l hl => by
    induction l with
    | nil => rfl
    | cons a l ih =>
      rw [List.find?_cons, List.find?_cons, h a (hl a (by simp)), ih fun n hn => hl n (by simp [hn])]
  exact this _ fun n hn => by simpa using hn
def optV (o : Option Nat) : Value := .tuple #[.int .i64 (o.getD 0 : Nat), .bool o.isSome]

theorem ret_pair {a b : Int} {c : Bool} (h : a = b) : Ending.returned (.tuple #[.int .i64 a, .bool c]) = Ending.returned (.tuple #[.int .i64 b, .bool c]) := by rw [h]
set_option maxRecDepth 100000 in
set_option maxHeartbeats 1000000 in
/-- cpuset.First. -/
theorem first_any (p : Nat → Bool) (w : World) (hT : Tabs w) :
    Calls Tryd.prog 40 #[.agg (cellsOf p)] w fun e w' => e = .returned (optV (firstO p)) ∧ Below w.heap.size w w' := by
  have hT1 : Tabs (w.alloc (.cells (cellsOf p) 33)) := hT.on ((Below.refl _ _).alloc (Nat.le_refl _) _)
  have TT := Lib.hid hT1; clear hT1
  have hg : (w.alloc (.cells (cellsOf p) 33)).heap[w.heap.size]? = some (.cells (cellsOf p) 33 (0, 0)) := heap_alloc_new _ _
  have HG := Lib.hid hg; clear hg
  have HB := Lib.hid ((Below.refl w.heap.size w).alloc (Nat.le_refl _) (.cells (cellsOf p) 33))
  go_enter Tryd.func40, Tryd.ntmps40
  go_wp2
  go_loop [5] (fun i => ∃ k : Nat, k ≤ 16 ∧ i = .int .i64 k ∧ ∀ j, j < 64 * k → p j = false) (fun i => 16 - (intOf i).toNat)
  case atStart => exact ⟨0, by omega, rfl, fun j hj => by omega⟩
  case round =>
    obtain ⟨k, hk, rfl, hz⟩ := hrel
    have HZ := Lib.hid hz; clear hz
    by_cases hlt : k < 16
    · have hc := cellsOf_get p k hlt
      by_cases hw : word p k = 0
      · have hne : ((word p k : Int) != 0) = false := by simp; omega
        have HW := Lib.hid hw; clear hw
        go_wp2
        go_round
        case rel =>
          refine ⟨k + 1, by omega, by go_num, fun j hj => ?_⟩
          by_cases e : j < 64 * k
          · exact HZ.out j e
          · have := word_eq_zero.1 HW.out (j - 64 * k) (by omega)
            rwa [show 64 * k + (j - 64 * k) = j by omega] at this
        case measure => simp [intOf]; omega
      · have hne : ((word p k : Int) != 0) = true := by simp; omega
        obtain ⟨c1, c2, c3⟩ := ctz_bits (word p k) (word_lt p k) hw
        have hfirst : firstO p = some (64 * k + Lib.ctz 64 (word p k)) := by
          refine firstO_some (by omega) ?_ fun j hj => ?_
          · rw [word_testBit] at c2; simpa [c1] using c2
          · by_cases e : j < 64 * k
            · exact HZ.out j e
            · have := c3 (j - 64 * k) (by omega)
              rw [word_testBit, show 64 * k + (j - 64 * k) = j by omega] at this
              simpa [show j - 64 * k < 64 by omega] using this
        have HF := Lib.hid hfirst
        have hw' := Lib.hid hw
        have hwl := Lib.hid (word_lt' p k)
        clear hfirst hw c2 c3
        go_wp2_with (go_at_call 44; refine (tz_any _ hwl.out hw'.out _ TT.out).mono ?_; rintro e w' ⟨rfl, rfl⟩)
        go_ret2
        refine ⟨?_, HB.out⟩
        rw [HF.out]
        exact ret_pair (by show _ = ((64 * k + Lib.ctz 64 (word p k) : Nat) : Int); omega)
    · obtain rfl : k = 16 := by omega
      have hn : firstO p = none := firstO_none fun j hj => HZ.out j (by omega)
      have HN := Lib.hid hn; clear hn
      go_wp2
      go_ret2
      exact ⟨by rw [HN.out] <;> rfl, HB.out⟩

/-- The workers of p from f on. -/
def fromP (p : Nat → Bool) (f : Int) : Nat → Bool := fun n => p n && decide (f ≤ (n : Int))
theorem from_range (p : Nat → Bool) (f : Int) : cellsOf (fun n => p n && rangeP f 1023 n) = cellsOf (fromP p f) :=
  cellsOf_congr fun n hn => by unfold fromP rangeP; congr 1; rw [decide_eq_decide]; omega
set_option maxHeartbeats 1000000 in
/-- cpuset.Next. -/
theorem next_any (p : Nat → Bool) (f : Int) (w : World) (hT : Tabs w) :
    Calls Tryd.prog 41 #[.agg (cellsOf p), .int .i64 f] w fun e w' => e = .returned (optV (firstO (fromP p f))) ∧ Below w.heap.size w w' := by
  have hT1 : Tabs (w.alloc (.cells (cellsOf p) 33)) := hT.on ((Below.refl _ _).alloc (Nat.le_refl _) _)
  have TT := Lib.hid hT1; clear hT1
  have hg : (w.alloc (.cells (cellsOf p) 33)).heap[w.heap.size]? = some (.cells (cellsOf p) 33 (0, 0)) := heap_alloc_new _ _
  have G0 := Lib.hid hg; clear hg
  have HB := Lib.hid ((Below.refl w.heap.size w).alloc (Nat.le_refl _) (.cells (cellsOf p) 33))
  have hA : Hid (∀ w', Calls Tryd.prog 45 #[.agg (cellsOf p), .agg (cellsOf (rangeP f 1023))] w' fun e w'' => e = .returned (.agg (cellsOf (fromP p f))) ∧ Below w'.heap.size w' w'') := fun w' => by
    have := and_any p (rangeP f 1023) w'; rw [from_range] at this; exact this
  go_enter Tryd.func41, Tryd.ntmps41
  go_wp2_with fail
  refine wp_region_cls (by kernel_rfl) (by kernel_rfl) ?_
  repeat
    first
    | go_big_quiet_skip
    | (go_big_quiet_want
       first
       | (refine quiet_load_set _ rfl _ _ rfl (fun w' h => by first | exact h.blk (by simp) G0.out) ?_; go_simp; go_big_quiet_on)
       | (go_big_quiet_op
          first
          | go_big_quiet_on
          | (refine ⟨_, fun _ _ => rfl, ?_⟩; go_big_quiet_on)
          | (refine ⟨_, fun w' h => quiet_call h (by simp) (range_any f 1023 w'), ?_⟩; go_big_quiet_on)
          | (refine ⟨_, fun w' h => quiet_call h (by simp) (hA.out w'), ?_⟩; go_big_quiet_on)
          | (refine ⟨_, fun w' h => quiet_call h (by simp) (first_any (fromP p f) w' (TT.out.below h.bl (by have := hT.2; simp <;> omega))), ?_⟩; unfold optV; go_big_quiet_on)))
  refine wpQuiet_nil ?_
  intro w2 h2
  go_wp2
  go_ret2
  exact ⟨rfl, HB.out.trans (h2.bl.mono (by simp))⟩

/-- The row of neighbours in p that i begins has its last one at e. -/
def RowEnd (p : Nat → Bool) (i e : Nat) : Prop := i ≤ e ∧ e < 1024 ∧ (∀ j, i ≤ j → j ≤ e → p j = true) ∧ hasP p ((e : Int) + 1) = false
end Go.Proofs.YtchhenpijbecaaaDoor
