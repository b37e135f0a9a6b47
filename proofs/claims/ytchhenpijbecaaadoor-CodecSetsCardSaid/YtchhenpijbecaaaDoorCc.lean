/- layer 31 (codec): what numbers stand for, as the code and the document reckon it. -/
import Derived.Test.YtchhenpijbecaaaDoorCb
import Derived.Test.YtchhenpijbecaaaDoorBu
import Derived.Test.YtchhenpijbecaaaDoorFr
import Derived.ChangeSlices
import Derived.ArgAppend
import Derived.Lib.Zigzag
namespace Go.Proofs.YtchhenpijbecaaaDoor
open Go.ChangeShapes Go.WideShapes Go.ChangeAt Go.RowKit
set_option maxRecDepth 100000

theorem infoByte : (Tryd.prog.info? 5).map (fun i => (i.zero, i.size, i.bytes)) = some (some (.int .u8 0), 1, 1) := by kernel_rfl
theorem or_one (m : Nat) (h : m < 9223372036854775808) : bits .or .u64 ((m : Int) * 2) 1 = (m : Int) * 2 + 1 :=
  bits_join .u64 64 (by decide) wraps_u64 1 _ _ (by omega) (by omega) (by omega) (by decide) (by decide) (by decide)
theorem or_128 (a : Nat) (h : a < 256) : bits .or .u8 (a : Int) 128 = ((a % 128 + 128 : Nat) : Int) := by
  have e := (bits_nat .u8 8 (by decide) (fun n h0 h1 => by simp [IntKind.wrap, IntKind.bits, IntKind.signed]; omega) a 128 (by omega) (by decide)).2
  have f : ∀ x < 256, x ||| 128 = x % 128 + 128 := by decide +kernel
  rw [f a h] at e
  exact e
theorem not_128 (a : Nat) (h : a < 256) : bits .andNot .u8 (a : Int) 128 = ((a % 128 : Nat) : Int) := by
  have e := u8_andNot_nat a 128 h (by decide)
  have f : ∀ x < 256, x &&& (255 - 128) = x % 128 := by decide +kernel
  rw [f a h] at e
  exact e
theorem fold_any (n : Int) (hn : B64 n) (w : World) : Calls Tryd.prog 39 #[.int .i64 n] w fun e w' => e = .returned (.int .u64 (foldN n : Nat)) ∧ w = w' := by
  unfold B64 at hn
  go_enter Tryd.func39, Tryd.ntmps39
  by_cases h0 : n < 0
  · obtain ⟨m, rfl⟩ : ∃ m : Nat, n = -(m : Int) - 1 := ⟨(-n - 1).toNat, by omega⟩
    have e1 : (foldN (-(m : Int) - 1) : Int) = m * 2 + 1 := by unfold foldN; rw [if_pos h0]; omega
    have hm : m < 9223372036854775808 := by omega
    have e2 : bits .xor .i64 (-1) (-(m : Int) - 1) = (m : Int) := by
      show IntKind.i64.wrap ((BitVec.ofInt 64 (-1) ^^^ BitVec.ofInt 64 (-(m : Int) - 1)).toNat : Int) = _
      have h1 : (BitVec.ofInt 64 (-1)).toNat = 2 ^ 64 - 1 := by decide
      have h2 : (BitVec.ofInt 64 (-(m : Int) - 1)).toNat = 2 ^ 64 - 1 - m := by rw [BitVec.toNat_ofInt]; omega
      rw [BitVec.toNat_xor, h1, h2, Lib.xor_ones64 _ (by omega), IntKind.wrap_i64]
      omega
    have e3 := or_one m hm
    have e4 : IntKind.u64.wrap (m : Int) = m := wraps_u64 _ (by omega) (by omega)
    have e5 : IntKind.u64.wrap ((m : Int) * 2) = m * 2 := wraps_u64 _ (by omega) (by omega)
    go_wp2
    go_ret
    exact ⟨rfl, rfl⟩
  · have e1 : (foldN n : Int) = 2 * n := by unfold foldN; rw [if_neg h0]; omega
    go_wp2
    go_ret
    rw [Int.mul_comm 2]; exact ⟨rfl, rfl⟩
theorem unfold_any (u : Nat) (hu : u < 18446744073709551616) (w : World) : Calls Tryd.prog 27 #[.int .u64 u] w fun e w' => e = .returned (.int .i64 (unfoldI u)) ∧ w = w' := by
  have e0 : bits .and .u64 (u : Int) 1 = ((u % 2 : Nat) : Int) := by rw [Lib.u64_and1 _ (by omega) (by omega)]; omega
  go_enter Tryd.func27, Tryd.ntmps27
  by_cases h : u % 2 = 1
  · have h1 : (((u % 2 : Nat) : Int) == 1) = true := by rw [h]; rfl
    have e2 : bits .xor .i64 (-1) ((u : Int) / 2) = -((u : Int) / 2) - 1 := by have := Lib.i64_not (u / 2) (by omega); exact_mod_cast this
    have e : unfoldI u = -((u : Int) / 2) - 1 := by unfold unfoldI; rw [if_pos h]; omega
    go_wp2_with (simp only [e0, h1])
    go_ret
    exact ⟨rfl, rfl⟩
  · have h1 : (((u % 2 : Nat) : Int) == 1) = false := by rw [show u % 2 = 0 by omega]; rfl
    go_wp2_with (simp only [e0, h1])
    go_ret
    have e : unfoldI u = (u : Int) / 2 := by unfold unfoldI; rw [if_neg h]; omega
    exact ⟨by rw [e]; rfl, rfl⟩
end Go.Proofs.YtchhenpijbecaaaDoor
