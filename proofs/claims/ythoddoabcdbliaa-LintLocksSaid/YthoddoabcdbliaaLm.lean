/- The library's IndexFunc and DeleteFunc over rows of places. -/
import Derived.Test.YthoddoabcdbliaaLn
import Derived.Deep.QuietTactic
import Derived.Lib.SliceRun
import Derived.BigQuiet
namespace Go.Proofs.Ythoddoabcdbliaa
open Go.RowKit

set_option maxHeartbeats 1000000 in
theorem notPlace_any (g : Nat) (prio : Int) (A : Option Addr) (n cap : Nat) (y : Int) (w : World) (hn : n ≤ 64) (hg : Blk w g 24 #[.int .i64 prio, .slice A n cap]) (h : 0 ≤ y ∧ y < (n : Int)) :
    Calls Try.prog 26 #[.int .i64 y, .pointer (some ⟨g, 0, none⟩)] w (GotB w.heap.size (.bool false) w) := by
  have HP := isPlace_any prio A n cap y w hn
  rw [decide_eq_true h] at HP
  have HP := Lib.hid HP
  have g0 := hg.cell 0; have g1 := hg.cell 1
  simp only [List.getElem?_toArray, List.getElem?_cons_zero, List.getElem?_cons_succ] at g0 g1
  clear hg h
  go_enter Try.func26, Try.ntmps26
  go_wp2_with (go_at_call 23; (with_reducible refine HP.out.mono ?_); rintro e w2 ⟨rfl, h2⟩; have H2 := Lib.hid h2; clear h2)
  go_ret
  exact ⟨rfl, H2.out⟩
set_option maxRecDepth 100000 in
set_option maxHeartbeats 4000000 in
theorem indexFunc_none (g : Nat) (prio : Int) (A : Option Addr) (n cap : Nat) (B : Option Addr) (ys : List Int) (cap' : Nat) (w : World) (hn : n ≤ 64) (hg : Blk w g 24 #[.int .i64 prio, .slice A n cap]) (hY : NumsIn w B ys) (hy : ∀ y ∈ ys, 0 ≤ y ∧ y < (n : Int)) (hl : ys.length ≤ 2) :
    Calls Try.prog 37 #[.slice B ys.length cap', .func (.func 26) #[] #[.pointer (some ⟨g, 0, none⟩)]] w (GotB w.heap.size (.int .i64 (-1)) w) := by
  obtain ⟨m, hm⟩ : ∃ m, ys.length = m := ⟨_, rfl⟩
  have HM := Lib.hid hm
  rw [hm] at hl ⊢
  have HG := Lib.hid hg; have HY := Lib.hid hY; have HYY := Lib.hid hy
  clear hm hg hY hy
  go_enter Try.func37, Try.ntmps37
  go_wp2_with fail
  go_loopw [8] (fun i wr => ∃ k : Nat, k ≤ m ∧ i = .int .i64 k ∧ Below w.heap.size w wr) (fun i _ => m - (intOf i).toNat)
  case atStart => exact ⟨0, Nat.zero_le _, rfl, Below.refl _ _⟩
  case round =>
    obtain ⟨k, hk, rfl, hb⟩ := hrel
    have HB := Lib.hid hb
    by_cases hlt : k < m
    · obtain ⟨y, hy⟩ : ∃ y, ys[k]? = some y := ⟨_, List.getElem?_eq_getElem (by rw [HM.out]; exact hlt)⟩
      obtain ⟨bb, off, rfl, -, c0⟩ := (HY.out.below hb) k y hy
      obtain ⟨y0, y1⟩ := HYY.out y (List.mem_of_getElem? hy)
      have hg := HG.out.below hb HG.out.lt
      have g0 := hg.cell 0; have g1 := hg.cell 1
      simp only [List.getElem?_toArray, List.getElem?_cons_zero, List.getElem?_cons_succ] at g0 g1
      have HP := Lib.hid (notPlace_any g prio A n cap y wr hn hg ⟨y0, y1⟩)
      have k0 : (0 : Int) ≤ (k : Int) := by omega
      have k1 : (k : Int) < (m : Int) := by omega
      clear hb hy hg
      go_wp2_with fail
      refine HP.out.mono ?_
      rintro e w2 ⟨rfl, h2⟩
      have HB2 := Lib.hid (HB.out.trans (h2.mono HB.out.size))
      clear h2
      go_wp2_with fail
      go_roundw
      case rel => exact ⟨k + 1, by omega, by go_num, HB2.out⟩
      case measure => simp [intOf]; omega
    · have t : ¬ (k : Int) < (m : Int) := by omega
      go_wp2_with fail
      go_ret
      exact ⟨rfl, HB.out⟩
set_option maxRecDepth 100000 in
set_option maxHeartbeats 4000000 in
theorem deleteFunc_none (g : Nat) (prio : Int) (A : Option Addr) (n cap : Nat) (B : Option Addr) (ys : List Int) (cap' : Nat) (w : World) (hn : n ≤ 64) (hg : Blk w g 24 #[.int .i64 prio, .slice A n cap]) (hY : NumsIn w B ys) (hy : ∀ y ∈ ys, 0 ≤ y ∧ y < (n : Int)) (hl : ys.length ≤ 2) :
    Calls Try.prog 25 #[.slice B ys.length cap', .func (.func 26) #[] #[.pointer (some ⟨g, 0, none⟩)]] w (GotB w.heap.size (.slice B ys.length cap') w) := by
  have HI := Lib.hid (indexFunc_none g prio A n cap B ys cap' w hn hg hY hy hl)
  clear hn hg hY hy hl
  generalize ys.length = m at *
  go_enter Try.func25, Try.ntmps25
  go_wp2_with (go_at_call 37; (with_reducible refine HI.out.mono ?_); rintro e w2 ⟨rfl, h2⟩; have H2 := Lib.hid h2; clear h2)
  go_ret
  exact ⟨rfl, H2.out⟩
set_option maxRecDepth 100000 in
set_option maxHeartbeats 4000000 in
theorem compact_ne (g : Nat) (a b : Int) (w : World) (hg : Blk w g 3 #[.int .i64 a, .int .i64 b]) (h : a ≠ b) :
    Calls Try.prog 24 #[.slice (some ⟨g, 0, none⟩) 2 2] w fun e w' => e = .returned (.slice (some ⟨g, 0, none⟩) 2 2) ∧ Below w.heap.size w w' := by
  have HG := Lib.hid hg
  clear hg
  have t : (b == a) = false := by simpa using fun e : b = a => h e.symm
  clear h
  go_enter Try.func24, Try.ntmps24
  go_wp2_with fail
  go_loopw [3] (fun i wr => (i = .int .i64 1 ∨ i = .int .i64 2) ∧ Below w.heap.size w wr) (fun i _ => 2 - (intOf i).toNat)
  case atStart => exact ⟨.inl rfl, Below.refl _ _⟩
  case round =>
    obtain ⟨hi, hb⟩ := hrel
    have HB := Lib.hid hb
    have hg := HG.out.below hb HG.out.lt
    have g0 := hg.cell 0; have g1 := hg.cell 1
    simp only [List.getElem?_toArray, List.getElem?_cons_zero, List.getElem?_cons_succ] at g0 g1
    clear hb hg
    rcases hi with rfl | rfl
    · go_wp2_with fail
      go_quiet (fail)
      go_wp2_with fail
      go_roundw
      case rel => exact ⟨.inr rfl, below_drewN HB.out _⟩
      case measure => decide
    · go_wp2_with fail
      go_ret
      exact ⟨rfl, HB.out⟩
theorem zeroInt (w : World) : (zeroValue 3).run Try.prog w = .ok (.int .i64 0) w := by kernel_rfl
set_option maxRecDepth 100000 in
set_option maxHeartbeats 4000000 in
theorem compact_eq (g : Nat) (a : Int) (w : World) (hg : Blk w g 3 #[.int .i64 a, .int .i64 a]) :
    Calls Try.prog 24 #[.slice (some ⟨g, 0, none⟩) 2 2] w fun e w' => e = .returned (.slice (some ⟨g, 0, none⟩) 1 2) ∧ But (fun k => k = g) w w' ∧ Blk w' g 3 #[.int .i64 a, .int .i64 0] := by
  have HG := Lib.hid hg
  clear hg
  have t : (a == a) = true := by simp
  go_enter Try.func24, Try.ntmps24
  go_wp2_with fail
  go_loopw [3] (fun i wr => i = .int .i64 1 ∧ wr = w) (fun i _ => 2 - (intOf i).toNat)
  case atStart => exact ⟨rfl, rfl⟩
  case round =>
    obtain ⟨rfl, rfl⟩ := hrel
    have g0 := HG.out.cell 0; have g1 := HG.out.cell 1
    simp only [List.getElem?_toArray, List.getElem?_cons_zero, List.getElem?_cons_succ] at g0 g1
    go_wp2_with fail
    go_quiet (fail)
    go_wp2_with fail
    have HG2 : Hid (Blk (wr.drewN nq) g 3 #[.int .i64 a, .int .i64 a]) := HG.out
    have HB2 : Hid (But (fun k => k = g) wr (wr.drewN nq)) := (But.refl _ _).drewN _
    clear HG g0 g1
    generalize wr.drewN nq = W2 at *
    go_loopw [3, 5] (fun i j wx => i = .int .i64 1 ∧ j = .int .i64 1 ∧ wx = W2) (fun i _ _ => 1 - (intOf i).toNat)
    case atStart => exact ⟨rfl, rfl, rfl⟩
    case round =>
      obtain ⟨rfl, rfl, rfl⟩ := hrel
      have g0 := HG2.out.cell 0; have g1 := HG2.out.cell 1; have gf := HG2.out.free 1
      simp only [List.getElem?_toArray, List.getElem?_cons_zero, List.getElem?_cons_succ] at g0 g1
      have hcl : ∀ ty, (Builtin.clear_ #[27] ty #[.slice (some ⟨g, 1, none⟩) 1 1]).run Try.prog wr = .ok (.tuple #[]) (wr.setCells g 1 [.int .i64 0]) := fun ty =>
        Lib.run_clear_slice wr 27 3 ty (.int .i64 0) Try.underlying27 zeroInt rfl rfl g 1 1 1 (by omega) (fun j hj => by
          obtain rfl : j = 0 := by omega
          rw [Nat.add_zero, g1]; rfl) (fun j hj => by
          obtain rfl : j = 0 := by omega
          exact gf)
      have HB3 : Hid (But (fun k => k = g) wr (wr.setCells g 1 [.int .i64 0])) := (But.refl _ _).set ⟨g, 1, none⟩ _ (.inl rfl)
      have HG3 : Hid (Blk (wr.setCells g 1 [.int .i64 0]) g 3 #[.int .i64 a, .int .i64 0]) := HG2.out.set_ 1 _
      go_wp2_with fail
      go_ret
      exact ⟨rfl, HB2.out.trans HB3.out, HG3.out⟩
end Go.Proofs.Ythoddoabcdbliaa
