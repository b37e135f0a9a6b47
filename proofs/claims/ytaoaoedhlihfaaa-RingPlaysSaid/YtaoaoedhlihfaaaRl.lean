/- RingPlays' walk. -/
import Derived.Test.YtaoaoedhlihfaaaRj
import Derived.Test.YtaoaoedhlihfaaaOp
import Derived.Deep.DeepCutAuto
import Derived.Deep.RegionHeld3
namespace Go.Proofs.Ytaoaoedhlihfaaa
open Go.RowKit

theorem refRoom_any (room : Int) (R : Nat) (hR : min (max room 0) 4096 = (R : Int)) (w : World) :
    Calls Try.prog 17 #[.int .i64 room] w fun e w' => e = .returned (.int .i64 R) ∧ w = w' := by
  by_cases h0 : room < 0
  · obtain rfl : R = 0 := by omega
    go_enter Try.func17, Try.ntmps17
    go_wp2
    go_ret
    exact ⟨rfl, rfl⟩
  · by_cases h1 : 4096 < room
    · obtain rfl : R = 4096 := by omega
      go_enter Try.func17, Try.ntmps17
      go_wp2
      go_ret
      exact ⟨rfl, rfl⟩
    · obtain rfl : room = (R : Int) := by omega
      go_enter Try.func17, Try.ntmps17
      go_wp2
      go_ret
      exact ⟨rfl, rfl⟩
theorem alike_pair {b : Nat} {G : Option Nat} {room : Nat} {A : Option Addr} {len cap : Nat} {z : Nat → Int} {w : World} (fr : Int) (h : Pair b G room A len cap z w) :
    Calls Try.prog 19 #[.pointer (some ⟨b, 0, none⟩), .slice A len cap, .int .i64 fr] w fun e w' => e = .returned (.bool true) ∧ But Nob w w' :=
  alike_any (some b) G room A len cap z fr w (by have := h.len_le; omega) h.sl.ints h.rg
set_option maxRecDepth 100000 in
set_option maxHeartbeats 4000000 in
theorem plays5_any (room fr : Int) (A : Option Addr) (len cap : Nat) (K : Nat → Nat) (I X : Nat → Int) (w : World) (hcap : len ≤ cap) (hI : OpsIn w A len K I X) :
    Calls Try.prog 3 #[.int .i64 room, .int .i64 fr, .slice A len cap] w fun e w' => e = .returned (.bool true) ∧ Below w.heap.size w w' := by
  obtain ⟨R, hR⟩ : ∃ R : Nat, min (max room 0) 4096 = (R : Int) := ⟨(min (max room 0) 4096).toNat, by omega⟩
  have HR := Lib.hid hR; clear hR
  go_enter Try.func3, Try.ntmps3
  go_upto_region 1 with fail
  go_cut [2] (fun t wx => ∃ N : Nat, N ≤ 60 ∧ N ≤ len ∧ t = .slice A N cap ∧ wx = w)
  case first =>
    by_cases h60 : len ≤ 60
    · have t0 : ¬ (60 : Int) < len := by omega
      have t1 : (0 : Int) ≤ len := by omega
      have t2 : (len : Int) ≤ cap := by omega
      go_wp2_with fail
      go_meet
      exact ⟨len, h60, Nat.le_refl _, rfl, rfl⟩
    · have t0 : (60 : Int) < len := by omega
      have t2 : (60 : Int) ≤ cap := by omega
      have t3 : 60 ≤ cap := by omega
      go_wp2_with fail
      go_meet
      exact ⟨60, Nat.le_refl _, by omega, rfl, rfl⟩
  case rest =>
    obtain ⟨N, hN1, hN2, rfl, hwx⟩ := hcut
    obtain rfl := hwx.symm
    have HI := Lib.hid (hI.less hN2); clear hI hcap hN2
    go_wp2_with fail
    refine (new_any room R HR.out w).mono ?_
    rintro e w1 ⟨rfl, hR1, hG1⟩
    have hrm := room_any w.heap.size R w1 hR1.head.2
    have HRM := Lib.hid hrm
    have tq : ((R : Int) != (R : Int)) = false := by simp
    have hPair : Pair w.heap.size none R none 0 0 (fun _ => 0) w1 := ⟨hR1, ⟨Nat.le_refl _, .inl ⟨rfl, rfl⟩⟩, fun g e => by cases e⟩
    have HP := Lib.hid hPair; have HG1 := Lib.hid hG1; clear hR1 hrm hPair hG1
    go_wp2_with (first
      | (go_at_call 16; (with_reducible refine HRM.out.mono ?_); rintro e wq ⟨rfl, rfl⟩)
      | (go_at_call 17; (with_reducible refine (refRoom_any room R HR.out _).mono ?_); rintro e wq ⟨rfl, rfl⟩))
    go_loopw [31, 8] (fun t v wr => ∃ (k : Nat) (A' : Option Addr) (len' cap' : Nat) (z' : Nat → Int) (G : Option Nat), k ≤ N ∧ t = .int .i64 k ∧ v = .slice A' len' cap' ∧ Pair w.heap.size G R A' len' cap' z' wr ∧ (∀ q, Own2 w.heap.size G q → w.heap.size ≤ q) ∧ Below w.heap.size w wr) (fun t _ _ => N - (intOf t).toNat)
    case atStart => exact ⟨0, none, 0, 0, _, none, Nat.zero_le _, rfl, rfl, HP.out, own2_none (Nat.le_refl _), HG1.out.below (Nat.le_refl _) fun _ _ x => x.elim⟩
    case round =>
      obtain ⟨k, A', len', cap', z', G, hk, rfl, rfl, hP, hown, hB⟩ := hrel
      by_cases hlt : k < N
      · obtain ⟨bb, off, rfl, hbb, hc0, hc1, hc2⟩ := (HI.out.below hB) k hlt
        have k0 : (0 : Int) ≤ (k : Int) := by omega
        have k1 : (k : Int) < (N : Int) := by omega
        have HP' := Lib.hid hP; have HO := Lib.hid hown; have HB := Lib.hid hB; clear hP hown hB
        have hlt8 := HP'.out.rg.lt
        have hbx := Blk.new wr 30 #[.int .u64 (K k), .int .i64 (I k), .int .i64 (X k)]
        have x0 := hbx.cell 0; have x1 := hbx.cell 1; have x2 := hbx.cell 2
        simp only [List.getElem?_toArray, List.getElem?_cons_zero, List.getElem?_cons_succ] at x0 x1 x2
        have hG2 : But Nob wr (wr.alloc (.cells #[.int .u64 (K k), .int .i64 (I k), .int .i64 (X k)] 30)) := (But.refl _ _).alloc _
        have HP2 := Lib.hid (HP'.out.but hG2)
        have HB2 := Lib.hid (HB.out.alloc HB.out.size (.cells #[.int .u64 (K k), .int .i64 (I k), .int .i64 (X k)] 30))
        have HSZ : Hid (wr.heap.size < (wr.alloc (.cells #[.int .u64 (K k), .int .i64 (I k), .int .i64 (X k)] 30)).heap.size) := by show _ < _; simp
        have HBX := Lib.hid hbx
        have hnb : ¬ Own2 w.heap.size G wr.heap.size := fun q => by have := HP'.out.own_lt q; omega
        clear hbx hG2 hlt8
        go_wp2_with fail
        clear hc0 hc1 hc2
        generalize wr.alloc (.cells #[.int .u64 (K k), .int .i64 (I k), .int .i64 (X k)] 30) = w4 at *
        have n0 := World.new_ne w4 _ x0
        go_region_held3 (fun W => W.cell? ⟨wr.heap.size, 0, none⟩ = some (.int .u64 (K k)) ∧ W.cell? ⟨wr.heap.size, 1, none⟩ = some (.int .i64 (I k)) ∧ W.cell? ⟨wr.heap.size, 2, none⟩ = some (.int .i64 (X k))) (first | go_keep | exact ⟨y0, y1, y2⟩)
          (first
            | (go_at_call 17; (with_reducible refine (refRoom_any room R HR.out _).mono ?_); rintro e wq ⟨rfl, rfl⟩)
            | (go_at_call 18; refine (do_any w.heap.size G R A' len' cap' z' (K k) (I k) (X k) _ (HP2.out.but (But.refl _ _).drew)).mono ?_; rintro e w5 ⟨A2, len2, cap2, z2, G2, rfl, hP5, hG5, hO5⟩; have hb5 := (show Blk w4.drew wr.heap.size 30 _ from HBX.out).but hG5 hnb; have y0 := hb5.cell 0; have y1 := hb5.cell 1; have y2 := hb5.cell 2; simp only [List.getElem?_toArray, List.getElem?_cons_zero, List.getElem?_cons_succ] at y0 y1 y2; clear hb5; have HP5 := Lib.hid hP5; have HG5 := Lib.hid hG5; have HO5 := Lib.hid hO5; clear hP5 hG5 hO5))
        clear y0 y1 y2
        go_wp2_with fail
        refine (alike_pair 0 HP5.out).mono ?_
        rintro e w6 ⟨rfl, h6⟩
        have HP6 := Lib.hid (HP5.out.but h6); have H6 := Lib.hid h6; clear h6
        go_wp2_with fail
        refine (alike_pair fr HP6.out).mono ?_
        rintro e w7 ⟨rfl, h7⟩
        have HP7 := Lib.hid (HP6.out.but h7); have H7 := Lib.hid h7; clear h7
        go_wp2_with fail
        go_roundw
        case rel =>
          refine ⟨k + 1, A2, len2, cap2, z2, G2, by omega, by go_num, rfl, HP7.out, fun q hq => ?_, ?_⟩
          · rcases HO5.out q hq with r | r
            · exact HO.out q r
            · exact Nat.le_trans HB2.out.size r
          · have b5 : Below w.heap.size w w5 := HB2.out.trans ((HG5.out.below (B := w.heap.size) (show w.heap.size ≤ w4.heap.size from HB2.out.size) fun q _ hq => HO.out q hq : Below w.heap.size w4.drew w5) |> fun q => ⟨q.os, q.tape, q.output, q.size, q.block⟩)
            exact (b5.trans (H6.out.below b5.size fun _ _ x => x.elim)).trans (H7.out.below (Nat.le_trans b5.size H6.out.size) fun _ _ x => x.elim)
        case measure => simp [intOf]; omega
      · have hkN : k = N := by omega
        have t : ¬ (k : Int) < (N : Int) := by omega
        have t' : decide (k < N) = false := by simp; omega
        have HP' := Lib.hid hP; have HB := Lib.hid hB; clear hP hB hown hkN
        go_wp2_with fail
        refine (alike_pair fr HP'.out).mono ?_
        rintro e w6 ⟨rfl, h6⟩
        have H6 := Lib.hid h6; clear h6
        go_wp2_with (go_at_call 20; (with_reducible refine (lives5_any _).mono ?_); rintro e w9 ⟨rfl, h9⟩; have H9 := Lib.hid h9; clear h9)
        go_ret
        have b6 := HB.out.trans (H6.out.below HB.out.size fun _ _ x => x.elim)
        exact ⟨rfl, b6.trans (H9.out.mono b6.size)⟩
end Go.Proofs.Ytaoaoedhlihfaaa
