/- A load one tick later, plainly (layer 15): its bounds, that it rises with both, and where it comes to rest. -/
import Derived.Test.YtefmhfjjahloeaaBu
namespace Go.Proofs.Ytefmhfjjahloeaa

/-- The number nearest to n from 0 to m. -/
def inN (n m : Int) : Int := min (max n 0) m
/-- One tick. -/
def nextN (old now : Int) : Int := min (max (inN old 1048576 - inN old 1048576 / 4 + inN now 16384 * 64) 0) 1048576
theorem inN_bd {n m : Int} (hm : 0 ≤ m) : 0 ≤ inN n m ∧ inN n m ≤ m := by unfold inN; omega
theorem nextN_bd (old now : Int) : 0 ≤ nextN old now ∧ nextN old now ≤ 1048576 := by unfold nextN; omega
theorem nextN_mono {a b n m : Int} (h : a ≤ b) (k : n ≤ m) : nextN a n ≤ nextN b m := by
  unfold nextN inN; omega
theorem nextN_0 {x : Int} (h0 : 0 ≤ x) (h1 : x ≤ 1048576) : nextN x 0 = x - x / 4 := by unfold nextN inN; omega
theorem nextN_t {x t : Int} (h0 : 0 ≤ x) (h1 : x ≤ 1048576) (t0 : 0 ≤ t) (t1 : t < 1000) : nextN x t = x - x / 4 + 64 * t := by unfold nextN inN; omega
/-- From above, and from below. -/
def fallA : Nat → Nat
  | 0 => 1048576
  | k + 1 => fallA k - fallA k / 4
def fallB : Nat → Nat
  | 0 => 1048576
  | k + 1 => fallB k - (fallB k + 3) / 4
theorem fallA_99 : fallA 99 = 3 := by decide +kernel
theorem fallB_99 : fallB 99 = 0 := by decide +kernel
def goN (x t : Int) : Nat → Int
  | 0 => x
  | k + 1 => nextN (goN x t k) t
theorem goN_bd (x t : Int) (k : Nat) : 0 ≤ goN x t (k + 1) ∧ goN x t (k + 1) ≤ 1048576 := nextN_bd _ _
theorem goN_near (x t : Int) (t0 : 0 ≤ t) (t1 : t < 1000) : ∀ k : Nat, goN x t (k + 1) ≤ 256 * t + fallA k ∧ 256 * t ≤ goN x t (k + 1) + fallB k
  | 0 => by have := goN_bd x t 0; have a : fallA 0 = 1048576 := rfl; have b : fallB 0 = 1048576 := rfl; omega
  | k + 1 => by
    have h := goN_near x t t0 t1 k
    have hb := goN_bd x t k
    have e : goN x t (k + 2) = nextN (goN x t (k + 1)) t := rfl
    rw [e, nextN_t hb.1 hb.2 t0 t1]
    have a : fallA (k + 1) = fallA k - fallA k / 4 := rfl
    have b : fallB (k + 1) = fallB k - (fallB k + 3) / 4 := rfl
    omega
theorem goN_100 (x t : Int) (t0 : 0 ≤ t) (t1 : t < 1000) : 256 * t ≤ goN x t 100 ∧ goN x t 100 < 256 * t + 4 := by
  have h := goN_near x t t0 t1 99
  rw [fallA_99, fallB_99] at h
  have e : goN x t (99 + 1) = goN x t 100 := rfl
  rw [e] at h
  omega
theorem goN_100_0 (x : Int) : 0 ≤ goN x 0 100 ∧ goN x 0 100 < 4 := by
  have := goN_100 x 0 (by omega) (by omega); omega
end Go.Proofs.Ytefmhfjjahloeaa
