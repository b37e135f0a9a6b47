/- math/bits.OnesCount64. -/
import Derived.Test.YtekahmfchpgmfaaOm
import Derived.Test.YtekahmfchpgmfaaSq
import Derived.Laws.Bits128
namespace Go.Proofs.Ytekahmfchpgmfaa
open Go.RowKit

set_option maxHeartbeats 400000 in
theorem ones_core (x a b c d e f r : Nat) (w : World)
    (k1 : IntKind.u64.wrap (bits BinOp.and IntKind.u64 ((x : Int) / 2) 6148914691236517205 + bits BinOp.and IntKind.u64 (x : Int) 6148914691236517205) = (a : Int))
    (k2 : IntKind.u64.wrap (bits BinOp.and IntKind.u64 ((a : Int) / 4) 3689348814741910323 + bits BinOp.and IntKind.u64 (a : Int) 3689348814741910323) = (b : Int))
    (k3 : bits BinOp.and IntKind.u64 (IntKind.u64.wrap ((b : Int) / 16 + (b : Int))) 1085102592571150095 = (c : Int))
    (k4 : IntKind.u64.wrap ((c : Int) + (c : Int) / 256) = (d : Int)) (k5 : IntKind.u64.wrap ((d : Int) + (d : Int) / 65536) = (e : Int)) (k6 : IntKind.u64.wrap ((e : Int) + (e : Int) / 4294967296) = (f : Int))
    (k7 : bits BinOp.and IntKind.i64 (wrap64 (f : Int)) 127 = (r : Int)) :
    Calls Try.prog 75 #[.int .u64 x] w fun y w' => y = .returned (.int .i64 r) ∧ w = w' := by
  go_enter Try.func75, Try.ntmps75
  go_wp2
  go_ret
  exact ⟨rfl, rfl⟩
theorem wrapU (n : Nat) (h : n < 18446744073709551616) : IntKind.u64.wrap (n : Int) = (n : Int) := by
  rw [IntKind.wrap_u64]
  omega
/-- math/bits.OnesCount64, at every x. -/
theorem ones_any (x : Nat) (hx : x < 18446744073709551616) (w : World) :
    Calls Try.prog 75 #[.int .u64 x] w fun y w' => y = .returned (.int .i64 (ones x)) ∧ w = w' := by
  have b1 : sw1 x ≤ 12297829382473034410 := by
    have h1 := Nat.and_le_right (n := x / 2) (m := 6148914691236517205); have h2 := Nat.and_le_right (n := x) (m := 6148914691236517205); unfold sw1; omega
  have b2 : sw2 (sw1 x) ≤ 7378697629483820646 := by
    have h1 := Nat.and_le_right (n := sw1 x / 4) (m := 3689348814741910323); have h2 := Nat.and_le_right (n := sw1 x) (m := 3689348814741910323); unfold sw2; omega
  have b3 : sw3 (sw2 (sw1 x)) ≤ 1085102592571150095 := Nat.and_le_right
  have a1 : ∀ y m : Nat, y < 18446744073709551616 → m < 18446744073709551616 → bits BinOp.and IntKind.u64 (y : Int) (m : Int) = ((y &&& m : Nat) : Int) := fun y m => u64_and_nat y m
  refine ones_core x (sw1 x) (sw2 (sw1 x)) (sw3 (sw2 (sw1 x))) (sw4 (sw3 (sw2 (sw1 x)))) (sw5 (sw4 (sw3 (sw2 (sw1 x))))) (sw6 (sw5 (sw4 (sw3 (sw2 (sw1 x)))))) (ones x) w ?_ ?_ ?_ ?_ ?_ ?_ ?_
  · have e1 := a1 (x / 2) 6148914691236517205 (by omega) (by decide)
    have e2 := a1 x 6148914691236517205 hx (by decide)
    rw [show ((x : Int) / 2) = ((x / 2 : Nat) : Int) from rfl]
    refine (congrArg IntKind.u64.wrap (show _ = ((sw1 x : Nat) : Int) from ?_)).trans (wrapU _ (by omega))
    rw [show ((sw1 x : Nat) : Int) = ((x / 2 &&& 6148914691236517205 : Nat) : Int) + ((x &&& 6148914691236517205 : Nat) : Int) from rfl, ← e1, ← e2]; rfl
  · generalize sw1 x = y at *
    have e1 := a1 (y / 4) 3689348814741910323 (by omega) (by decide)
    have e2 := a1 y 3689348814741910323 (by omega) (by decide)
    rw [show ((y : Int) / 4) = ((y / 4 : Nat) : Int) from rfl]
    refine (congrArg IntKind.u64.wrap (show _ = ((sw2 y : Nat) : Int) from ?_)).trans (wrapU _ (by omega))
    rw [show ((sw2 y : Nat) : Int) = ((y / 4 &&& 3689348814741910323 : Nat) : Int) + ((y &&& 3689348814741910323 : Nat) : Int) from rfl, ← e1, ← e2]; rfl
  · generalize sw2 (sw1 x) = y at *
    rw [show ((y : Int) / 16 + (y : Int)) = ((y / 16 + y : Nat) : Int) from rfl, wrapU _ (by omega)]
    exact a1 (y / 16 + y) 1085102592571150095 (by omega) (by decide)
  · generalize sw3 (sw2 (sw1 x)) = y at *
    exact wrapU (sw4 y) (by unfold sw4; omega)
  · generalize sw3 (sw2 (sw1 x)) = y at *
    exact wrapU (sw5 (sw4 y)) (by unfold sw5 sw4; omega)
  · generalize sw3 (sw2 (sw1 x)) = y at *
    exact wrapU (sw6 (sw5 (sw4 y))) (by unfold sw6 sw5 sw4; omega)
  · have h : sw6 (sw5 (sw4 (sw3 (sw2 (sw1 x))))) < 9223372036854775808 := by
      generalize sw3 (sw2 (sw1 x)) = y at *
      unfold sw6 sw5 sw4; omega
    rw [show ones x = sw6 (sw5 (sw4 (sw3 (sw2 (sw1 x))))) % 128 from rfl]
    generalize sw6 (sw5 (sw4 (sw3 (sw2 (sw1 x))))) = y at *
    have hw : wrap64 (y : Int) = (y : Int) := by unfold wrap64; omega
    rw [hw, i64_and127]; rfl
/-- math/bits.OnesCount64 at a set's word. -/
theorem ones_set (p : Nat → Bool) (k : Nat) (w : World) :
    Calls Try.prog 75 #[.int .u64 (word p k)] w fun y w' => y = .returned (.int .i64 (cnt (fun j => p (64 * k + j)) 64)) ∧ w = w' := by
  have h := ones_any (word p k) (word_lt' p k) w
  rwa [show word p k = wordB (fun j => p (64 * k + j)) 64 from rfl, ones_word] at h
end Go.Proofs.Ytekahmfchpgmfaa
