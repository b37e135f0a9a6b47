/- McsGoes' walk. -/
import Derived.Test.YtckdabokaelnoaaMl
import Derived.Test.YtckdabokaelnoaaMr
import Derived.Test.YtckdabokaelnoaaMp
import Derived.Deep.CutBlock
namespace Go.Proofs.Ytckdabokaelnoaa
open Go.RowKit

theorem begT_not {D : Lk} {k : Int} (h : stI D k ≠ 2) : begT D k 2 5 = D := by
  unfold begT; rw [if_neg]
  rintro ⟨a, c⟩
  exact h (by unfold stI; rw [if_pos a, c]; rfl)
/-- The lock as McsGoes sees it: whatever was done. -/
def LdG (w0 : World) (b : Nat) (D : Lk) (w : World) : Prop := LdM w0 b D w ∧ Good D
theorem LdG.take {w0 : World} {b : Nat} {D : Lk} {w : World} (k : Int) (h : LdG w0 b D w) : Calls Try.prog 42 #[.pointer (some ⟨b, 0, none⟩), .int .i64 k] w fun e w' => e = .returned (.int .i64 (begE D k 0)) ∧ LdG w0 b (begT D k 0 0) w' ∧ But (OneB b) w w' :=
  (take_ldm k h.1).mono fun _ _ ⟨e, h1, h2⟩ => ⟨e, ⟨h1, ⟨h1.nice, ex_begT h.2.row k 0 0 (.inl ⟨rfl, rfl⟩)⟩⟩, h2⟩
theorem LdG.give {w0 : World} {b : Nat} {D : Lk} {w : World} (k : Int) (h : LdG w0 b D w) : Calls Try.prog 44 #[.pointer (some ⟨b, 0, none⟩), .int .i64 k] w fun e w' => e = .returned (.int .i64 (begE D k 2)) ∧ LdG w0 b (begT D k 2 5) w' ∧ But (OneB b) w w' :=
  (give_ldm k h.1).mono fun _ _ ⟨e, h1, h2⟩ => ⟨e, ⟨h1, ⟨h1.nice, ex_begT h.2.row k 2 5 (.inr ⟨rfl, rfl⟩)⟩⟩, h2⟩
theorem LdG.step {w0 : World} {b : Nat} {D : Lk} {w : World} (k : Int) (h : LdG w0 b D w) : Calls Try.prog 45 #[.pointer (some ⟨b, 0, none⟩), .int .i64 k] w fun e w' => e = .returned (.tuple #[.bool (stpB D k), .int .i64 (stpE D k)]) ∧ LdG w0 b (stpT D k) w' ∧ But (OneB b) w w' :=
  (step_ldm k h.1).mono fun _ _ ⟨e, h1, h2⟩ => ⟨e, ⟨h1, ⟨h1.nice, ex_stpT h.1.nice h.2.row k⟩⟩, h2⟩
theorem LdG.nob {w0 : World} {b : Nat} {D : Lk} {w w' : World} (h : LdG w0 b D w) (hb : But Nob w w') : LdG w0 b D w' := ⟨h.1.nob hb, h.2⟩
theorem good_new {n : Nat} (h1 : 1 ≤ n) (h2 : n ≤ 16) : Good (newL n) := ⟨nice_new h1 h2, [], qinv_new n⟩
set_option maxRecDepth 100000 in
set_option maxHeartbeats 8000000 in
theorem goes29_any (p : Int) (A : Option Addr) (len cap : Nat) (K : Nat → Nat) (I : Nat → Int) (w : World) (_ : len ≤ cap) (hI : OpsM w A len K I) :
    Calls Try.prog 13 #[.int .i64 p, .slice A len cap] w fun e w' => e = .returned (.bool true) ∧ Below w.heap.size w w' := by
  obtain ⟨n, hn⟩ : ∃ n : Nat, min (max p 1) 16 = (n : Int) := ⟨(min (max p 1) 16).toNat, by omega⟩
  have P := Lib.hid (new_ldm p n hn w)
  have hG0 : Hid (Good (newL n)) := good_new (by omega) (by omega)
  have HI := Lib.hid hI
  clear hI hn
  go_enter Try.func13, Try.ntmps13
  go_wp2_with fail
  refine P.out.mono ?_
  rintro e w1 ⟨b, rfl, h1⟩
  have H1 : Hid (LdG w b (newL n) w1) := ⟨h1, hG0.out⟩
  clear h1 P hG0
  go_upto_block 0 with fail
  go_cut [] (fun wx => ∃ D, LdG w b D wx)
  case first =>
    go_wp2_with fail
    go_loopw [19] (fun iv wr => ∃ (i : Nat) (D : Lk), iv = .int .i64 i ∧ i ≤ len ∧ LdG w b D wr) (fun iv _ => len - (intOf iv).toNat)
    case atStart => exact ⟨0, _, rfl, Nat.zero_le _, H1.out⟩
    case round =>
      obtain ⟨i, D, rfl, hi, hS⟩ := hrel
      by_cases hlt : i < len
      · obtain ⟨bb, off, rfl, hbb, hc0, hc1⟩ := (HI.out.below hS.1.below) i hlt
        have k0 : (0 : Int) ≤ (i : Int) := by omega
        have k1 : (i : Int) < (len : Int) := by omega
        by_cases h200 : 200 ≤ i
        · have t2 : (200 : Int) ≤ (i : Int) := by omega
          have HS := Lib.hid (hS.nob ((But.refl Nob wr).alloc (.cells #[.int .u64 (K i), .int .i64 (I i)] 87)))
          clear hS H1
          go_wp2_with fail
          go_meet
          exact ⟨_, HS.out⟩
        · have t2 : ¬ (200 : Int) ≤ (i : Int) := by omega
          have HS := Lib.hid (hS.nob ((But.refl Nob wr).alloc (.cells #[.int .u64 (K i), .int .i64 (I i)] 87)))
          have hX := Blk.new wr 87 #[.int .u64 (K i), .int .i64 (I i)]
          have x0 := hX.cell 0; have x1 := hX.cell 1
          simp only [List.getElem?_toArray, List.getElem?_cons_zero, List.getElem?_cons_succ] at x0 x1
          clear hS H1 hX
          have HX0 := Lib.hid x0; have HX1 := Lib.hid x1
          obtain ⟨r, hr⟩ : ∃ r, K i % 6 = r := ⟨_, rfl⟩
          have hr6 : r < 6 := by omega
          have e1 : (K i : Int) % 6 = (r : Int) := by omega
          rcases (by omega : r = 0 ∨ r = 1 ∨ 2 ≤ r) with rfl | rfl | h2
          · have P := Lib.hid (HS.out.take (I i))
            clear HS
            go_wp2_with (first
              | (go_at_call 42; (with_reducible refine P.out.mono ?_); rintro e w3 ⟨rfl, h3, -⟩; have H3 := Lib.hid h3; clear h3))
            go_roundw
            case rel => exact ⟨i + 1, _, by go_num, by omega, H3.out⟩
            case measure => simp [intOf]; omega
          · have P := Lib.hid (HS.out.give (I i))
            clear HS
            go_wp2_with (first
              | (go_at_call 44; (with_reducible refine P.out.mono ?_); rintro e w3 ⟨rfl, h3, -⟩; have H3 := Lib.hid h3; clear h3))
            go_roundw
            case rel => exact ⟨i + 1, _, by go_num, by omega, H3.out⟩
            case measure => simp [intOf]; omega
          · have P := Lib.hid (HS.out.step (I i))
            have r0 : (r == 0) = false := by simp; omega
            have r1 : (r == 1) = false := by simp; omega
            have r2 : ((r : Int) == 0) = false := by simp; omega
            have r3 : ((r : Int) == 1) = false := by simp; omega
            clear HS
            go_wp2_with (first
              | (go_at_call 45; (with_reducible refine P.out.mono ?_); rintro e w3 ⟨rfl, h3, -⟩; have H3 := Lib.hid h3; clear h3))
            go_roundw
            case rel => exact ⟨i + 1, _, by go_num, by omega, H3.out⟩
            case measure => simp [intOf]; omega
      · obtain rfl : i = len := by omega
        have HS := Lib.hid hS; clear hS H1
        go_wp2_with fail
        go_meet
        exact ⟨_, HS.out⟩
  case rest =>
    obtain ⟨D, h2⟩ := hcut
    rename World => w2
    have H2 := Lib.hid h2; clear h2 H1 HI
    go_wp2_with fail
    go_loopw [8, 46] (fun sv iv wr => ∃ (r : Nat) (u : Value), u = sv ∧ iv = .int .i64 r ∧ r ≤ 200 ∧ LdM w b (roundT D r) wr) (fun _ iv _ => 200 - (intOf iv).toNat)
    case atStart => exact ⟨0, _, rfl, rfl, by omega, H2.out.1⟩
    case round =>
      obtain ⟨r, us, rfl, rfl, hr, hS⟩ := hrel
      have HG : Hid (Good D) := H2.out.2
      have HS := Lib.hid hS; clear hS H2
      by_cases hlt : r < 200
      · have t47 : decide ((r : Int) < 200) = true := by simp; omega
        have t48 : (r : Int) < 200 := by omega
        go_wp2_with fail
        go_loopw [8, 48] (fun sv iv wr => ∃ (i : Nat) (u : Value), u = sv ∧ iv = .int .i64 i ∧ i ≤ 16 ∧ LdM w b (sweepT (roundT D r) i) wr) (fun _ iv _ => 16 - (intOf iv).toNat)
        case atStart => exact ⟨0, _, rfl, rfl, by omega, HS.out⟩
        case round =>
          rename_i wr0 _ _ _ _ _ _
          obtain ⟨i, us, rfl, rfl, hi, hT⟩ := hrel
          clear HS
          by_cases hl2 : i < 16
          · have k0 : (0 : Int) ≤ (i : Int) := by omega
            have k1 : (i : Int) < 16 := by omega
            have PS := Lib.hid (state_ldm (i : Int) hT)
            by_cases h2 : stI (sweepT (roundT D r) i) i = 2
            · rw [h2] at PS
              have PG := Lib.hid (give_ldm (i : Int) hT)
              clear hT h2
              go_wp2_with (first
                | (go_at_call 47; (with_reducible refine PS.out.mono ?_); rintro e wq ⟨rfl, rfl⟩)
                | (go_at_call 44; (with_reducible refine PG.out.mono ?_); rintro e w3 ⟨rfl, h3, -⟩; have PT := Lib.hid (step_ldm (i : Int) h3); clear h3)
                | (go_at_call 45; (with_reducible refine PT.out.mono ?_); rintro e w4 ⟨rfl, h4, -⟩; have H4 := Lib.hid h4; clear h4))
              go_roundw
              case rel => exact ⟨i + 1, _, rfl, by go_num, by omega, H4.out⟩
              case measure => simp [intOf]; omega
            · have b2 : (stI (sweepT (roundT D r) i) i == 2) = false := by simpa using h2
              have PT := Lib.hid (step_ldm (i : Int) hT)
              have hturn : Hid (stpT (sweepT (roundT D r) i) i = sweepT (roundT D r) (i + 1)) := by
                show _ = turnT (sweepT (roundT D r) i) i
                unfold turnT; rw [begT_not h2]
              clear hT h2
              generalize stI (sweepT (roundT D r) i) i = z at *
              go_wp2_with (first
                | (go_at_call 47; (with_reducible refine PS.out.mono ?_); rintro e wq ⟨rfl, rfl⟩)
                | (go_at_call 45; (with_reducible refine PT.out.mono ?_); rintro e w4 ⟨rfl, h4, -⟩; have H4 := Lib.hid h4; clear h4))
              go_roundw
              case rel => exact ⟨i + 1, _, rfl, by go_num, by omega, by rw [← hturn.out]; exact H4.out⟩
              case measure => simp [intOf]; omega
          · obtain rfl : i = 16 := by omega
            have HT := Lib.hid hT; clear hT
            go_wp2_with fail
            go_roundw
            case rel => exact ⟨r + 1, _, rfl, by go_num, by omega, HT.out⟩
            case measure => simp [intOf]; omega
      · have hr2 : r = 200 := by omega
        have hout : Hid (∀ who : Int, stI (roundT D r) who ≤ 0) := by rw [hr2]; exact all_out HG.out
        have t47 : decide ((r : Int) < 200) = false := by simp; omega
        have t48 : ¬ (r : Int) < 200 := by omega
        clear HG hlt hr hr2
        generalize roundT D r = E at *
        go_wp2_with fail
        go_loopw [9, 63] (fun sv iv wr => ∃ (i : Nat) (u : Value), u = sv ∧ iv = .int .i64 i ∧ i ≤ 16 ∧ LdM w b E wr) (fun _ iv _ => 16 - (intOf iv).toNat)
        case atStart => exact ⟨0, _, rfl, rfl, by omega, HS.out⟩
        case round =>
          obtain ⟨i, us, rfl, rfl, hi, hT⟩ := hrel
          clear HS
          by_cases hl2 : i < 16
          · have k0 : (0 : Int) ≤ (i : Int) := by omega
            have k1 : (i : Int) < 16 := by omega
            have PS := Lib.hid (state_ldm (i : Int) hT)
            have hz := hout.out (i : Int)
            have HT := Lib.hid hT; clear hT
            generalize stI E i = z at *
            have hz2 : ¬ 0 < z := by omega
            have hz3 : decide (0 < z) = false := by simpa using hz
            go_wp2_with (first
              | (go_at_call 47; (with_reducible refine PS.out.mono ?_); rintro e wq ⟨rfl, rfl⟩))
            go_roundw
            case rel => exact ⟨i + 1, _, rfl, by go_num, by omega, HT.out⟩
            case measure => simp [intOf]; omega
          · obtain rfl : i = 16 := by omega
            have HB : Hid (Below w.heap.size w wr) := hT.below
            clear hT hout
            go_upto_region 32 with (first
              | (go_at_call 45; (with_reducible refine (mStep_nil 0).mono ?_); rintro e wq ⟨rfl, rfl⟩)
              | (go_at_call 48; (with_reducible refine mhold_nil.mono ?_); rintro e wq ⟨rfl, rfl⟩))
            go_wp2_with (first
              | (go_at_call 42; (with_reducible refine (mtake_nil 0).mono ?_); rintro e wt ⟨rfl, ht⟩; have HT1 := Lib.hid ht; clear ht)
              | (go_at_call 44; (with_reducible refine (mgive_nil 0).mono ?_); rintro e wg ⟨rfl, hg⟩; have HT2 := Lib.hid hg; clear hg)
              | (go_at_call 47; (with_reducible refine (mstate_no 0 (mis_nil 0)).mono ?_); rintro e wq ⟨rfl, rfl⟩)
              | (go_at_call 49; (with_reducible refine (lives29_any _).mono ?_); rintro e wl ⟨rfl, hl⟩; have HT3 := Lib.hid hl; clear hl))
            go_ret
            have b1 := HB.out.trans (HT1.out.below (Nat.le_refl _) (fun _ _ q => q.elim) |>.mono HB.out.size)
            have b2 := b1.trans (HT2.out.below (Nat.le_refl _) (fun _ _ q => q.elim) |>.mono b1.size)
            exact ⟨rfl, b2.trans (HT3.out.mono b2.size)⟩
end Go.Proofs.Ytckdabokaelnoaa
