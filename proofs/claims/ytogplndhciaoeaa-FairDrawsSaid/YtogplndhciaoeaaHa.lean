/- layer 33 (fair): numbers of 64 bits; the document's powers of two; its Draws. -/
import Derived.Test.YtogplndhciaoeaaFf
import Derived.Laws.Bits64
namespace Go.Proofs.Ytogplndhciaoeaa
open Go.RowKit
set_option maxRecDepth 100000

/-- a number of 64 bits. -/
def U64 (x : Int) : Prop := 0 ≤ x ∧ x < 18446744073709551616
theorem wrap_U64 (x : Int) : U64 (IntKind.u64.wrap x) := by rw [IntKind.wrap_u64]; unfold U64; omega
theorem div_U64 {x : Int} (h : U64 x) (k : Int) (hk : 0 < k) : U64 (x / k) := by
  unfold U64 at *
  refine ⟨Int.ediv_nonneg h.1 (by omega), Int.lt_of_le_of_lt (Int.ediv_le_self k h.1) h.2⟩
theorem xor_U64 {x y : Int} (hx : U64 x) (hy : U64 y) : U64 (bits BinOp.xor IntKind.u64 x y) := by
  obtain ⟨a, rfl⟩ : ∃ a : Nat, x = a := ⟨x.toNat, by unfold U64 at hx; omega⟩
  obtain ⟨b, rfl⟩ : ∃ b : Nat, y = b := ⟨y.toNat, by unfold U64 at hy; omega⟩
  unfold U64 at *
  have ha : a < 2 ^ 64 := by omega
  have hb : b < 2 ^ 64 := by omega
  rw [bits_xor_u64_nat a b (by omega) (by omega)]
  have := Nat.xor_lt_two_pow ha hb
  omega
theorem mix_U64 (z : Int) : U64 (mixF z) := by
  unfold mixF
  exact xor_U64 (wrap_U64 _) (div_U64 (wrap_U64 _) _ (by omega))
theorem draws_U64 (s : Int) (k : Nat) : ∀ x ∈ drawsL s k, U64 x := fun x hx => by
  obtain ⟨i, _, rfl⟩ := List.mem_map.1 hx
  exact mix_U64 _
theorem div_step (z : Int) (i : Nat) : z / ((2 ^ i : Nat) : Int) / 2 = z / ((2 ^ (i + 1) : Nat) : Int) := by
  rw [Int.ediv_ediv_of_nonneg (Int.natCast_nonneg _), Nat.pow_succ]; push_cast; rfl
set_option maxHeartbeats 4000000 in
theorem by_any (z : Int) (hz : U64 z) (k : Nat) (hk : k ≤ 64) (w : World) : Calls Try.prog 32 #[.int .u64 z, .int .i64 k] w fun e w' => e = .returned (.int .u64 (z / ((2 ^ k : Nat) : Int))) ∧ w = w' := by
  have HZ := Lib.hid hz
  obtain ⟨R, hR⟩ : ∃ R, z / ((2 ^ k : Nat) : Int) = R := ⟨_, rfl⟩
  rw [hR]
  have HRR := Lib.hid hR
  clear hz hR
  go_enter Try.func32, Try.ntmps32
  go_wp2_with fail
  go_loopw [0, 5] (fun zv iv wr => ∃ i : Nat, zv = .int .u64 (z / ((2 ^ i : Nat) : Int)) ∧ iv = .int .i64 i ∧ i ≤ k ∧ w = wr) (fun _ iv _ => k - (intOf iv).toNat)
  case atStart => exact ⟨0, by simp, rfl, Nat.zero_le _, rfl⟩
  case round =>
    obtain ⟨i, rfl, rfl, hi, rfl⟩ := hrel
    have HN : Hid (U64 (z / ((2 ^ i : Nat) : Int))) := div_U64 HZ.out _ (by have : 0 < 2 ^ i := Nat.two_pow_pos i; exact Int.natCast_pos.2 this)
    have HS := Lib.hid (div_step z i)
    have HF : Hid (i = k → z / ((2 ^ i : Nat) : Int) = R) := fun h => by rw [h]; exact HRR.out
    generalize z / ((2 ^ i : Nat) : Int) = y at *
    by_cases hlt : i < k
    · have i0 : (i : Int) < (k : Int) := by omega
      go_wp2_with fail
      go_roundw
      case rel =>
        refine ⟨i + 1, ?_, rfl, by omega, trivial⟩
        have h := HN.out
        unfold U64 at h
        rw [← HS.out, Int.tdiv_eq_ediv_of_nonneg h.1, IntKind.wrap_u64]
        congr 1; omega
      case measure => simp [intOf]; omega
    · obtain rfl : i = k := by omega
      have hy : y = R := HF.out rfl
      subst hy
      go_wp2_with fail
      go_ret
      exact ⟨rfl, rfl⟩
set_option maxHeartbeats 8000000 in
theorem refdraws_any (s n : Int) (hs : U64 s) (N : Nat) (hN : (min n 4096).toNat = N) (w : World) :
    Calls Try.prog 9 #[.int .u64 s, .int .i64 n] w fun e w' => ∃ v, e = .returned v ∧ OwnU w.heap.size w' v (drawsL s N) ∧ Below w.heap.size w w' := by
  have hN' : (n ≤ 4096 ∧ n.toNat = N) ∨ (4096 < n ∧ 4096 = N) := by
    rw [Int.min_def] at hN
    split at hN
    · exact .inl ⟨by omega, hN⟩
    · exact .inr ⟨by omega, by omega⟩
  have HS := Lib.hid hs
  clear hN hs
  go_enter Try.func9, Try.ntmps9
  go_wp2_with fail
  go_loopw [5, 6, 7] (fun rv sv iv wr => ∃ k : Nat, sv = .int .u64 (stF s k) ∧ iv = .int .i64 k ∧ k ≤ N ∧ OwnU w.heap.size wr rv (drawsL s k) ∧ Below w.heap.size w wr) (fun _ _ iv _ => N - (intOf iv).toNat)
  case atStart => exact ⟨0, rfl, rfl, Nat.zero_le _, World.ownsRow_nil _ _ _ _, Below.refl _ _⟩
  case round =>
    obtain ⟨k, rfl, rfl, hk, ho, hb⟩ := hrel
    have HO := Lib.hid ho; have HB := Lib.hid hb
    clear ho hb
    by_cases hlt : k < N
    · have k1 : (k : Int) < n := by omega
      have k2 : (k : Int) < 4096 := by omega
      have HLL : Hid ((drawsL s k).length ≤ 100000) := by show _ ≤ _; rw [drawsL_len]; omega
      have HD : Hid (drawsL s (k + 1) = drawsL s k ++ [mixF (IntKind.u64.wrap (stF s k + 11400714819323198485))]) := drawsL_succ s k
      have HZ : Hid (stF s (k + 1) = IntKind.u64.wrap (stF s k + 11400714819323198485)) := rfl
      generalize stF s k = z at *
      obtain ⟨a, ha⟩ : ∃ a, IntKind.u64.wrap (z + 11400714819323198485) = a := ⟨_, rfl⟩
      obtain ⟨b, hb⟩ : ∃ b, IntKind.u64.wrap (bits BinOp.xor IntKind.u64 a (a / 1073741824) * 13787848793156543929) = b := ⟨_, rfl⟩
      obtain ⟨c, hc⟩ : ∃ c, IntKind.u64.wrap (bits BinOp.xor IntKind.u64 b (b / 134217728) * 10723151780598845931) = c := ⟨_, rfl⟩
      have HY : Hid (mixF a = bits BinOp.xor IntKind.u64 c (c / 2147483648)) := by show _ = _; rw [← hc, ← hb]; rfl
      have HBA : Hid (Calls Try.prog 32 #[.int .u64 a, .int .i64 30] wr fun e w' => e = .returned (.int .u64 (a / 1073741824)) ∧ wr = w') := by_any a (by rw [← ha]; exact wrap_U64 _) 30 (by omega) wr
      have HBB : Hid (Calls Try.prog 32 #[.int .u64 b, .int .i64 27] wr fun e w' => e = .returned (.int .u64 (b / 134217728)) ∧ wr = w') := by_any b (by rw [← hb]; exact wrap_U64 _) 27 (by omega) wr
      have HBC : Hid (Calls Try.prog 32 #[.int .u64 c, .int .i64 31] wr fun e w' => e = .returned (.int .u64 (c / 2147483648)) ∧ wr = w') := by_any c (by rw [← hc]; exact wrap_U64 _) 31 (by omega) wr
      rw [ha] at HD HZ
      subst hc
      subst hb
      subst ha
      obtain ⟨y, hy⟩ : ∃ y, mixF (IntKind.u64.wrap (z + 11400714819323198485)) = y := ⟨_, rfl⟩
      rw [hy] at HD HY
      have HY' := Lib.hid HY.out.symm
      clear HY hy
      go_wp2_with (first
        | (go_at_call 32; (with_reducible refine HBA.out.mono ?_); rintro e w3 ⟨rfl, rfl⟩)
        | (go_at_call 32; (with_reducible refine HBB.out.mono ?_); rintro e w3 ⟨rfl, rfl⟩)
        | (go_at_call 32; (with_reducible refine HBC.out.mono ?_); rintro e w3 ⟨rfl, rfl⟩)
        | (with_reducible (show wpList _ _ _ _ _ _); rw [HY'.out]; refine app_u rfl (.tmp 32) (.tmp 37) rfl w.heap.size _ (drawsL s k) rfl (HO.out.alloc _) wr.heap.size 1 y rfl ((Blk.new wr _ _).cell 0) HLL.out (by have := HB.out.size; simp; omega) ?_; intro v5 w5 ho5 hg5; have HO5 := Lib.hid ho5; have HG5 := Lib.hid hg5; clear ho5 hg5))
      go_roundw
      case rel =>
        refine ⟨k + 1, by rw [HZ.out], rfl, by omega, by rw [HD.out]; exact HO5.out, ?_⟩
        have h1 : Below w.heap.size w (wr.alloc (.cells #[.int .u64 y] 22)) := HB.out.alloc HB.out.size _
        exact h1.grown HG5.out (by simp; have := HB.out.size; omega) (fun r e => (HO.out.lt r e).1)
      case measure => simp [intOf]; omega
    · obtain rfl : k = N := by omega
      by_cases hkn : (k : Int) < n
      · have k2 : ¬ (k : Int) < 4096 := by omega
        go_wp2_with fail
        go_ret
        exact ⟨_, rfl, HO.out, HB.out⟩
      · go_wp2_with fail
        go_ret
        exact ⟨_, rfl, HO.out, HB.out⟩
end Go.Proofs.Ytogplndhciaoeaa
