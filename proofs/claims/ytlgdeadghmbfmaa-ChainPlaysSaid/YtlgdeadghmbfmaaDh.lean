/- ChainPlays' walk. -/
import Derived.Test.YtlgdeadghmbfmaaDg
import Derived.Test.YtlgdeadghmbfmaaOp
namespace Go.Proofs.Ytlgdeadghmbfmaa
open Go.RowKit

theorem infoRow7 : (Try.prog.info? 27).map (fun i => (i.zero, i.size, i.bytes)) = some (some (.slice none 0 0), 1, 24) := by kernel_rfl
theorem make_rows7 (w : World) (N : Nat) (z : Int) (hz : z = N) (hN : N ≤ 65536) : ∃ Z : List Value, (Instr.makeSlice 70 (.int .i64 z) (.int .i64 z)).run Try.prog w = .ok (.slice (some ⟨w.heap.size, 0, none⟩) N N) (w.alloc (.cells Z.toArray 27)) ∧ Z.length = N ∧ ∀ i, i < N → Z[i]? = some (.slice none 0 0) := by
  subst hz
  obtain ⟨i0, hi0, hz0, hz1, hz2⟩ := info_parts infoRow7
  have := run_makeSlice (P := Try.prog) w 70 27 i0 (.slice none 0 0) Try.underlying70 hi0 hz0 .i64 .i64 N N (by omega) (by omega) (by rw [hz1]; simp; omega) (by rw [hz2]; omega) (by omega)
  simp only [Int.toNat_natCast, hz1, Nat.mul_one] at this
  have hc : madeCells (Value.slice none 0 0).cells N = (List.replicate N (Value.slice none 0 0)).toArray := Array.toList_inj.1 (by rw [show (Value.slice none 0 0).cells = #[.slice none 0 0] from rfl, toList_madeCells_one])
  rw [hc] at this
  exact ⟨_, this, by simp, fun i hi => by rw [List.getElem?_replicate, if_pos hi]⟩
set_option maxRecDepth 100000 in
set_option maxHeartbeats 4000000 in
theorem plays7_any (u v : Nat) (A : Option Addr) (len cap : Nat) (K : Nat → Nat) (I X : Nat → Int) (w : World) (hu : u < 18446744073709551616) (hv : v < 18446744073709551616) (hcap : len ≤ cap) (hI : OpsIn w A len K I X) :
    Calls Try.prog 11 #[.int .u64 u, .int .u64 v, .slice A len cap] w fun e w' => e = .returned (.bool true) ∧ Below w.heap.size w w' := by
  go_enter Try.func11, Try.ntmps11
  go_upto_region 1 with fail
  go_cut [7, 8] (fun s t wx => ∃ n m : Nat, n < 13 ∧ m < 7 ∧ s = .int .i64 n ∧ t = .int .i64 m ∧ wx = w)
  case first =>
    go_wp2_with fail
    all_goals
      go_meet
      exact ⟨u % 13, v % 7, Nat.mod_lt _ (by decide), Nat.mod_lt _ (by decide), congrArg _ (by omega), congrArg _ (by omega), rfl⟩
  case rest =>
    obtain ⟨n, m, hn, hm, rfl, rfl, hwx⟩ := hcut
    obtain rfl := hwx.symm
    go_upto_region 2 with fail
    go_cut [2] (fun t wx => ∃ N : Nat, N ≤ 50 ∧ N ≤ len ∧ t = .slice A N cap ∧ wx = w)
    case first =>
      by_cases h50 : len ≤ 50
      · have t0 : ¬ (50 : Int) < len := by omega
        have t1 : (0 : Int) ≤ len := by omega
        have t2 : (len : Int) ≤ cap := by omega
        go_wp2_with fail
        go_meet
        exact ⟨len, h50, Nat.le_refl _, by rw [show (min (len : Int) 50).toNat = len by omega], rfl⟩
      · have t0 : (50 : Int) < len := by omega
        have t2 : (50 : Int) ≤ cap := by omega
        have t3 : 50 ≤ cap := by omega
        go_wp2_with fail
        go_meet
        exact ⟨50, Nat.le_refl _, by omega, by rw [show (min (len : Int) 50).toNat = 50 by omega], rfl⟩
    case rest =>
      obtain ⟨N, hN1, hN2, rfl, hwx⟩ := hcut
      obtain rfl := hwx.symm
      have HI := Lib.hid (hI.less hN2); clear hI hcap hN2
      go_wp2_with fail
      refine (newc_any n m n m (by omega) (by omega) w).mono ?_
      rintro e w1 ⟨b, gl, gn, rfl, hC, hG, hsep⟩
      obtain ⟨Z, hmk, hZ, hZ0⟩ := make_rows7 w1 m m rfl (by omega)
      have HC := Lib.hid hC; have HG := Lib.hid hG; have HS := Lib.hid hsep; have HZ := Lib.hid hZ; have HZ0 := Lib.hid hZ0
      clear hC hG hsep hZ hZ0
      go_wp2_with fail
      have hbut : But Nob w1 ((w1.alloc (.cells Z.toArray 27)).alloc (.cells #[.int .i64 n, .slice (some ⟨w1.heap.size, 0, none⟩) m m] 72)) := ((But.refl _ _).alloc _).alloc _
      have hown : ∀ k, Own3 b gl gn k → k < w1.heap.size := fun k hk => HC.out.lt hk
      have hrb : Blk ((w1.alloc (.cells Z.toArray 27)).alloc (.cells #[.int .i64 n, .slice (some ⟨w1.heap.size, 0, none⟩) m m] 72)) (w1.heap.size + 1) 72 #[.int .i64 n, .slice (some ⟨w1.heap.size, 0, none⟩) m m] := by
        have := Blk.new (w1.alloc (.cells Z.toArray 27)) 72 #[.int .i64 n, .slice (some ⟨w1.heap.size, 0, none⟩) m m]
        rwa [World.size_alloc] at this
      have hT : Two b gl gn (w1.heap.size + 1) w1.heap.size n m (fun _ => []) ((w1.alloc (.cells Z.toArray 27)).alloc (.cells #[.int .i64 n, .slice (some ⟨w1.heap.size, 0, none⟩) m m] 72)) := by
        refine ⟨HC.out.but hbut fun _ _ q => q, ⟨by omega, by omega, .inr (.inl rfl), .inr (.inr rfl), by omega, hrb, ?_⟩, fun q => by have := hown _ q; omega, fun q => by have := hown _ q; omega⟩
        exact ⟨fun _ => .slice none 0 0, Z.toArray, by simp [HZ.out], (Blk.new _ _ _).alloc _, fun k hk => by simpa using HZ0.out k hk, fun k hk => rowIn_nil _ _⟩
      have hB : Below w.heap.size w ((w1.alloc (.cells Z.toArray 27)).alloc (.cells #[.int .i64 n, .slice (some ⟨w1.heap.size, 0, none⟩) m m] 72)) := (HG.out.trans hbut).below (Nat.le_refl _) fun _ _ q => q.elim
      have hO : ∀ k, TN b gl gn (w1.heap.size + 1) w1.heap.size k → w.heap.size ≤ k := fun k hk => by
        have := HG.out.size
        rcases hk with q | rfl | rfl
        · exact HS.out k q
        · omega
        · omega
      have HT := Lib.hid hT; have HB := Lib.hid hB; have HO := Lib.hid hO
      clear hbut hown hrb hT hB hO HC HG HS HZ HZ0 hmk
      generalize w1.heap.size = gL at *
      generalize (w1.alloc (.cells Z.toArray 27)).alloc (.cells #[.int .i64 n, .slice (some ⟨gL, 0, none⟩) m m] 72) = w2 at *
      refine (alike7_any HT.out).mono ?_
      rintro e w3 ⟨rfl, h3⟩
      have HT3 := Lib.hid (HT.out.nob h3); have HB3 := Lib.hid (HB.out.trans (h3.below HB.out.size fun _ _ x => x.elim))
      clear h3 HT HB
      go_wp2_with fail
      go_loopw [42] (fun t wr => ∃ (k : Nat) (ls : Nat → List Nat), k ≤ N ∧ t = .int .i64 k ∧ Two b gl gn (gL + 1) gL n m ls wr ∧ Below w.heap.size w wr) (fun t _ => N - (intOf t).toNat)
      case atStart => exact ⟨0, _, Nat.zero_le _, rfl, HT3.out, HB3.out⟩
      case round =>
        obtain ⟨k, ls, hk, rfl, hT, hB⟩ := hrel
        by_cases hlt : k < N
        · obtain ⟨bb, off, rfl, hbb, hc0, hc1, hc2⟩ := (HI.out.below hB) k hlt
          have k0 : (0 : Int) ≤ (k : Int) := by omega
          have k1 : (k : Int) < (N : Int) := by omega
          have hG1 : But Nob wr (wr.alloc (.cells #[.int .u64 (K k), .int .i64 (I k), .int .i64 (X k)] 75)) := (But.refl _ _).alloc _
          have HT := Lib.hid (hT.nob hG1); have HB := Lib.hid (hB.alloc hB.size (.cells #[.int .u64 (K k), .int .i64 (I k), .int .i64 (X k)] 75))
          have hbx := Blk.new wr 75 #[.int .u64 (K k), .int .i64 (I k), .int .i64 (X k)]
          have x0 := hbx.cell 0; have x1 := hbx.cell 1; have x2 := hbx.cell 2
          simp only [List.getElem?_toArray, List.getElem?_cons_zero, List.getElem?_cons_succ] at x0 x1 x2
          clear hT hB hG1 hbx
          go_wp2_with fail
          refine (do7_any (K k) (I k) (X k) HT.out).mono ?_
          rintro e w5 ⟨rfl, ls5, h5, hG5⟩
          have HT5 := Lib.hid h5
          have HB5 := Lib.hid (HB.out.trans (hG5.below HB.out.size fun q _ hq => HO.out q hq))
          clear h5 hG5 HT HB x0 x1 x2 hc0 hc1 hc2
          go_wp2_with fail
          refine (alike7_any HT5.out).mono ?_
          rintro e w6 ⟨rfl, h6⟩
          have HT6 := Lib.hid (HT5.out.nob h6); have HB6 := Lib.hid (HB5.out.trans (h6.below HB5.out.size fun _ _ x => x.elim))
          clear h6 HT5 HB5
          go_wp2_with fail
          go_roundw
          case rel => exact ⟨k + 1, ls5, by omega, by go_num, HT6.out, HB6.out⟩
          case measure => simp [intOf]; omega
        · have t : ¬ (k : Int) < (N : Int) := by omega
          have t' : decide (k < N) = false := by simp; omega
          have HB := Lib.hid hB; clear hB hT
          go_wp2_with (go_at_call 44; (with_reducible refine (lives7_any _).mono ?_); rintro e w9 ⟨rfl, h9⟩; have H9 := Lib.hid h9; clear h9)
          go_ret
          exact ⟨rfl, HB.out.trans (H9.out.mono HB.out.size)⟩
end Go.Proofs.Ytlgdeadghmbfmaa
