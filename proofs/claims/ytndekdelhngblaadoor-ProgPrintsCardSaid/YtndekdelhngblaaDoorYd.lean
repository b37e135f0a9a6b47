/- The document's Ins of layer 9. -/
import Derived.Test.YtndekdelhngblaaDoorYb
import Derived.Deep.DeepCutAuto
namespace Go.Proofs.YtndekdelhngblaaDoor
open Go.RowKit

def lnA (x : I4) : List UInt8 := nameL x.op ++ (if hasA x.op then [32, 114] ++ Lib.itoa x.a else [])
def lnB (x : I4) : List UInt8 := lnA x ++ (if hasB x.op then [32, 114] ++ Lib.itoa x.b else [])
theorem lnN (x : I4) : lnB x ++ (if hasN x.op then [32] ++ Lib.itoa x.n else []) = insL x := by unfold lnB lnA insL; simp
theorem ln_len (x : I4) (h : Fits x) : (lnA x).length ≤ 60 ∧ (lnB x).length ≤ 90 ∧ (Lib.itoa x.a).length ≤ 21 ∧ (Lib.itoa x.b).length ≤ 21 ∧ (Lib.itoa x.n).length ≤ 21 ∧ (insL x).length ≤ 130 := by
  have h1 := Lib.itoa_length_le x.a h.a.1 h.a.2
  have h2 := Lib.itoa_length_le x.b h.b.1 h.b.2
  have h3 := Lib.itoa_length_le x.n (by have := h.n; omega) (by have := h.n; omega)
  have h4 := nameL_len x.op
  unfold insL lnB lnA
  cases hasA x.op <;> cases hasB x.op <;> cases hasN x.op <;> simp <;> omega
/-- What lies in memory while the document's line is made. -/
structure DI (w : World) (x : I4) (W : World) : Prop where
  ins : Blk W w.heap.size 38 #[.int .i64 x.op, .int .i64 x.a, .int .i64 x.b, .int .i32 x.n]
  old : Below w.heap.size w W
theorem DI.below {w : World} {x : I4} {W W' : World} (h : DI w x W) (hb : Below W.heap.size W W') : DI w x W' := ⟨h.ins.below hb h.ins.lt, h.old.trans (hb.mono h.old.size)⟩
theorem DI.cells {w : World} {x : I4} {W : World} (h : DI w x W) : W.cell? ⟨w.heap.size, 0, none⟩ = some (.int .i64 x.op) ∧ W.cell? ⟨w.heap.size, 1, none⟩ = some (.int .i64 x.a) ∧ W.cell? ⟨w.heap.size, 2, none⟩ = some (.int .i64 x.b) ∧ W.cell? ⟨w.heap.size, 3, none⟩ = some (.int .i32 x.n) :=
  ⟨h.ins.cell 0, h.ins.cell 1, h.ins.cell 2, h.ins.cell 3⟩
theorem shape_has (op : Int) :
    (∀ W, Calls Tryd.prog 21 #[.string (shapeS op), .int .u8 65] W fun e w' => e = .returned (.bool (hasA op)) ∧ W = w') ∧
    (∀ W, Calls Tryd.prog 21 #[.string (shapeS op), .int .u8 66] W fun e w' => e = .returned (.bool (hasB op)) ∧ W = w') ∧
    (∀ W, Calls Tryd.prog 21 #[.string (shapeS op), .int .u8 78] W fun e w' => e = .returned (.bool (hasN op)) ∧ W = w') := by
  by_cases h : op < 1 ∨ 14 < op
  · have hS : shapeS op = ⟨#[65]⟩ := by unfold shapeS; rw [if_neg (by omega), if_neg (by omega), if_neg (by omega), if_neg (by omega)]
    have a : hasA op = true := by simp [hasA]; omega
    have b : hasB op = false := by simp [hasB]; omega
    have n : hasN op = false := by simp [hasN]; omega
    rw [hS, a, b, n]
    exact ⟨hasA_A, hasB_A, hasN_A⟩
  · exact has_shape op h
set_option maxRecDepth 100000 in
set_option maxHeartbeats 4000000 in
theorem refIns_any (x : I4) (ft : Fits x) (w : World) : Calls Tryd.prog 25 #[insV x] w (GotB w.heap.size (.string ⟨(insL x).toArray⟩) w) := by
  have hln := ln_len x ft
  have hlnN := lnN x
  obtain ⟨op, a, b, n⟩ := x
  obtain ⟨f0, f1, f2, f3⟩ := ft
  dsimp only at f0 f1 f2 f3
  obtain ⟨s1, s2, s3⟩ := shape_has op
  obtain ⟨bA, hbA⟩ : ∃ x, hasA op = x := ⟨_, rfl⟩
  obtain ⟨bB, hbB⟩ : ∃ x, hasB op = x := ⟨_, rfl⟩
  obtain ⟨bN, hbN⟩ : ∃ x, hasN op = x := ⟨_, rfl⟩
  rw [hbA] at s1; rw [hbB] at s2; rw [hbN] at s3
  have S1 := Lib.hid s1; have S2 := Lib.hid s2; have S3 := Lib.hid s3
  have HbA := Lib.hid hbA; have HbB := Lib.hid hbB; have HbN := Lib.hid hbN
  have HLN := Lib.hid hln; have HLNN := Lib.hid hlnN
  have hD0 : DI w ⟨op, a, b, n⟩ (w.alloc (.cells #[.int .i64 op, .int .i64 a, .int .i64 b, .int .i32 n] 38)) := ⟨Blk.new _ _ _, (Below.refl _ _).alloc (Nat.le_refl _) _⟩
  obtain ⟨y0, y1, y2, y3⟩ := hD0.cells
  dsimp only at y0 y1 y2 y3
  have HN := Lib.hid (refName_any op (w.alloc (.cells #[.int .i64 op, .int .i64 a, .int .i64 b, .int .i32 n] 38)))
  have HSH := Lib.hid (shape_any op (w.alloc (.cells #[.int .i64 op, .int .i64 a, .int .i64 b, .int .i32 n] 38)))
  have HD0 := Lib.hid hD0
  obtain ⟨S, hS⟩ : ∃ S, shapeS op = S := ⟨_, rfl⟩
  rw [hS] at S1 S2 S3 HSH
  clear s1 s2 s3 hbA hbB hbN hln hlnN hD0 hS
  unfold nameS at HN
  go_enter Tryd.func25, Tryd.ntmps25
  go_upto_region 3 with (first
    | (go_at_call 10; (with_reducible refine HN.out.mono ?_); rintro e wq ⟨rfl, rfl⟩)
    | (go_at_call 19; (with_reducible refine HSH.out.mono ?_); rintro e w4 ⟨rfl, h4⟩; have H4 := Lib.hid h4; clear h4))
  have HP0 := Lib.hid (HD0.out.below H4.out)
  clear y0 y1 y2 y3 HD0 H4 HN HSH
  generalize w4 = W0 at *
  generalize hP0 : nameL op = P0 at *
  go_upto_if 12 with (go_at_call 21; (with_reducible refine (S1.out _).mono ?_); rintro e wq ⟨rfl, rfl⟩)
  go_cut [3] (fun v wx => v = .string ⟨(lnA ⟨op, a, b, n⟩).toArray⟩ ∧ DI w ⟨op, a, b, n⟩ wx)
  case first =>
    have hw : lnA ⟨op, a, b, n⟩ = P0 ++ (if bA then [32, 114] ++ Lib.itoa a else []) := by unfold lnA; rw [show (⟨op, a, b, n⟩ : I4).op = op from rfl, hP0, HbA.out]
    cases bA with
    | false =>
      go_wp2_with fail
      go_meet
      exact ⟨by rw [hw]; simp, HP0.out⟩
    | true =>
      have hl1 : (Lib.itoa a).length ≤ 21 := HLN.out.2.2.1
      have hl2 : P0.length ≤ 90 := by have := nameL_len op; rw [hP0] at this; omega
      have hc1 : ¬ 9223372036854775807 < 2 + (Lib.itoa a).length := by omega
      have hc2 : ¬ 9223372036854775807 < P0.length + (2 + (Lib.itoa a).length) := by omega
      obtain ⟨y0, y1, y2, y3⟩ := HP0.out.cells
      dsimp only at y0 y1 y2 y3
      have HC := Lib.hid (refDec_any a f1 W0)
      have HW := Lib.hid hw
      clear y0 y2 y3 hl1 hl2 hw
      go_wp2_with (go_at_call 24; (with_reducible refine HC.out.mono ?_); rintro e w4 ⟨rfl, h4⟩; have H4 := Lib.hid h4; clear h4 y1)
      go_meet
      refine ⟨?_, HP0.out.below H4.out⟩
      rw [HW.out]
      simp only [↓reduceIte]
      show Value.string (⟨P0.toArray⟩ ++ (⟨([32, 114] : List UInt8).toArray⟩ ++ ⟨(Lib.itoa a).toArray⟩)) = _
      rw [mk_app, mk_app]
  case rest =>
    obtain ⟨rfl, hcut⟩ := hcut
    have HP1 := Lib.hid hcut
    clear hcut HP0
    generalize wc = W1 at *
    generalize hP1 : lnA ⟨op, a, b, n⟩ = P1 at *
    go_upto_if 20 with (go_at_call 21; (with_reducible refine (S2.out _).mono ?_); rintro e wq ⟨rfl, rfl⟩)
    go_cut [3] (fun v wx => v = .string ⟨(lnB ⟨op, a, b, n⟩).toArray⟩ ∧ DI w ⟨op, a, b, n⟩ wx)
    case first =>
      have hw : lnB ⟨op, a, b, n⟩ = P1 ++ (if bB then [32, 114] ++ Lib.itoa b else []) := by unfold lnB; rw [hP1, show (⟨op, a, b, n⟩ : I4).op = op from rfl, HbB.out]
      cases bB with
      | false =>
        go_wp2_with fail
        go_meet
        exact ⟨by rw [hw]; simp, HP1.out⟩
      | true =>
        have hl1 : (Lib.itoa b).length ≤ 21 := HLN.out.2.2.2.1
        have hl2 : P1.length ≤ 90 := by have := HLN.out.1; omega
        have hc1 : ¬ 9223372036854775807 < 2 + (Lib.itoa b).length := by omega
        have hc2 : ¬ 9223372036854775807 < P1.length + (2 + (Lib.itoa b).length) := by omega
        obtain ⟨y0, y1, y2, y3⟩ := HP1.out.cells
        dsimp only at y0 y1 y2 y3
        have HC := Lib.hid (refDec_any b f2 W1)
        have HW := Lib.hid hw
        clear y0 y1 y3 hl1 hl2 hw
        go_wp2_with (go_at_call 24; (with_reducible refine HC.out.mono ?_); rintro e w4 ⟨rfl, h4⟩; have H4 := Lib.hid h4; clear h4 y2)
        go_meet
        refine ⟨?_, HP1.out.below H4.out⟩
        rw [HW.out]
        simp only [↓reduceIte]
        show Value.string (⟨P1.toArray⟩ ++ (⟨([32, 114] : List UInt8).toArray⟩ ++ ⟨(Lib.itoa b).toArray⟩)) = _
        rw [mk_app, mk_app]
    case rest =>
      obtain ⟨rfl, hcut⟩ := hcut
      have HP2 := Lib.hid hcut
      clear hcut HP1
      generalize wc = W2 at *
      generalize hP2 : lnB ⟨op, a, b, n⟩ = P2 at *
      go_upto_if 28 with (go_at_call 21; (with_reducible refine (S3.out _).mono ?_); rintro e wq ⟨rfl, rfl⟩)
      go_cut [3] (fun v wx => v = .string ⟨(insL ⟨op, a, b, n⟩).toArray⟩ ∧ DI w ⟨op, a, b, n⟩ wx)
      case first =>
        have hw : insL ⟨op, a, b, n⟩ = P2 ++ (if bN then [32] ++ Lib.itoa n else []) := by rw [← HLNN.out, HbN.out]
        cases bN with
        | false =>
          go_wp2_with fail
          go_meet
          exact ⟨by rw [hw]; simp, HP2.out⟩
        | true =>
          have hl1 : (Lib.itoa n).length ≤ 21 := HLN.out.2.2.2.2.1
          have hl2 : P2.length ≤ 90 := by have := HLN.out.2.1; omega
          have hc1 : ¬ 9223372036854775807 < 1 + (Lib.itoa n).length := by omega
          have hc2 : ¬ 9223372036854775807 < P2.length + (1 + (Lib.itoa n).length) := by omega
          obtain ⟨y0, y1, y2, y3⟩ := HP2.out.cells
          dsimp only at y0 y1 y2 y3
          have qn : IntKind.i64.wrap n = n := IntWalk.i64_in _ (by omega)
          have HC := Lib.hid (refDec_any n (show In64 n by unfold In64; omega) W2)
          have HW := Lib.hid hw
          clear y0 y1 y2 hl1 hl2 hw
          go_wp2_with (go_at_call 24; (with_reducible refine HC.out.mono ?_); rintro e w4 ⟨rfl, h4⟩; have H4 := Lib.hid h4; clear h4 y3)
          go_meet
          refine ⟨?_, HP2.out.below H4.out⟩
          rw [HW.out]
          simp only [↓reduceIte]
          show Value.string (⟨P2.toArray⟩ ++ (⟨([32] : List UInt8).toArray⟩ ++ ⟨(Lib.itoa n).toArray⟩)) = _
          rw [mk_app, mk_app]
      case rest =>
        obtain ⟨rfl, hcut⟩ := hcut
        have HP3 := Lib.hid hcut
        clear hcut HP2
        generalize wc = W3 at *
        go_wp2_with fail
        go_ret
        exact ⟨rfl, HP3.out.old⟩
end Go.Proofs.YtndekdelhngblaaDoor
