/- layer 33 (fair): FairDraws' walk; two numbers among the arguments. -/
import Derived.Test.YtogplndhciaoeaaHd
import Derived.Test.YtogplndhciaoeaaFo
import Derived.Deep.Cut
namespace Go.Proofs.Ytogplndhciaoeaa
open Go.RowKit Go.Maps Go.ChangeShapes Go.WideShapes Go.ChangeAt
set_option maxRecDepth 100000

theorem u64_wf {x : Int} (h : (Lit.int .u64 x).wf = true) : U64 x := by
  unfold Lit.wf at h
  have h1 : IntKind.u64.min = 0 := by decide
  have h2 : IntKind.u64.max = 18446744073709551615 := by decide
  simp [h1, h2] at h
  unfold U64; omega
theorem open_int2w {H : Type} {enc : TypeId × Value → H} {w : World} {base b0 : Nat} {spare : Nat → Bool} {held : Bool} {r : Reach} {v : Value} {d : DataW H} {ps : List MemPlace}
    (hv : Value.okWide Try.prog w r b0 24 v) (h : DataW.Trod enc Try.prog w base spare held 24 v d ps) : ∃ a b : Int, v = .agg #[.int .i64 a, .int .i64 b] ∧ W64 a ∧ W64 b := by
  have hc : Try.prog.cellsOf 24 = 2 := by kernel_rfl
  unfold Value.okWide at hv
  rw [Try.underlying24] at hv
  obtain ⟨cs, rfl, hs, _⟩ := hv
  rw [hc] at hs
  obtain ⟨fuel, hf⟩ := h
  obtain ⟨c0, c1, rfl⟩ : ∃ a b, cs = #[a, b] := by
    obtain ⟨l⟩ := cs
    match l, hs with
    | [a, b], _ => exact ⟨a, b, rfl⟩
  obtain ⟨xs, m, _, _, _, hxl, hi⟩ := DataW.trod_array Try.underlying24 hf
  have g0 := hi 0 (by omega)
  have g1 := hi 1 (by omega)
  rw [show Try.prog.cellsOf 3 = 1 by kernel_rfl] at g0 g1
  rw [List.getElem?_eq_getElem (by omega)] at g0 g1
  obtain ⟨n0, e0, _, f0⟩ := DataW.trod_int Try.underlying3 g0
  obtain ⟨n1, e1, _, f1⟩ := DataW.trod_int Try.underlying3 g1
  simp only [Value.cells, Nat.mul_one, List.drop_zero, List.drop_succ_cons, List.take_succ_cons, List.take_zero, List.cons.injEq, and_true] at e0 e1
  subst e0; subst e1
  exact ⟨n0, n1, rfl, f0, f1⟩
set_option maxHeartbeats 16000000 in
theorem draws33_any (s : Int) (hs : U64 s) (A : Option Addr) (cpus : List Int) (m cap : Nat) (hm : cpus.length = m) (hc : m ≤ cap) (progs nn : Int) (hp : W64 progs) (w : World) (hN : RowN w.heap.size w A cpus) :
    Calls Try.prog 3 #[.int .u64 s, .slice A m cap, .agg #[.int .i64 progs, .int .i64 nn]] w fun e w' => e = .returned (.bool true) ∧ Below w.heap.size w w' := by
  obtain ⟨c, hc'⟩ : ∃ c, c = min m 60 := ⟨_, rfl⟩
  obtain ⟨n, hn'⟩ : ∃ n, n = min nn 300 := ⟨_, rfl⟩
  have q1 : (m ≤ 60 ∧ c = m) ∨ (60 < m ∧ c = 60) := by omega
  have q2 : (nn ≤ 300 ∧ n = nn) ∨ (300 < nn ∧ n = 300) := by omega
  have HL : Hid ((cpus.take c).length = c) := by show _ = _; rw [List.length_take]; omega
  have HR := Lib.hid (hN.take c)
  have hc60 : c ≤ 60 := by omega
  have hn300 : n ≤ 300 := by omega
  have HS := Lib.hid hs; have HP := Lib.hid hp
  clear hm hN hc' hn' hs hp
  generalize cpus.take c = cs at *
  obtain ⟨N, hNN⟩ : ∃ N, (min n 4096).toNat = N := ⟨_, rfl⟩
  have HNN := Lib.hid hNN
  have hN300 : N ≤ 300 := by rw [Int.min_def] at hNN; split at hNN <;> omega
  clear hNN
  have hbl : Below w.heap.size w (w.alloc (.cells #[.int .i64 progs, .int .i64 nn] 24)) := (Below.refl _ _).alloc (Nat.le_refl _) _
  have k0 := Blk.new w 24 #[.int .i64 progs, .int .i64 nn]
  have c0 : (w.alloc (.cells #[.int .i64 progs, .int .i64 nn] 24)).cell? ⟨w.heap.size, 0, none⟩ = some (.int .i64 progs) := k0.cell 0
  have c1 : (w.alloc (.cells #[.int .i64 progs, .int .i64 nn] 24)).cell? ⟨w.heap.size, 1, none⟩ = some (.int .i64 nn) := k0.cell 1
  clear k0
  have HBL := Lib.hid hbl
  clear hbl
  go_enter Try.func3, Try.ntmps3
  go_upto_region 1 with fail
  generalize w.alloc (.cells #[.int .i64 progs, .int .i64 nn] 24) = V at *
  go_cut [1] (fun t wx => t = .slice A c cap ∧ V = wx)
  case first =>
    clear c0 c1
    by_cases hm60 : m ≤ 60
    · obtain rfl : c = m := by omega
      have t0 : ¬ (60 : Int) < (c : Int) := by omega
      have t1 : (c : Int) ≤ 60 := by omega
      clear q1 q2
      go_wp2_with fail
      go_meet
      exact ⟨rfl, rfl⟩
    · obtain rfl : c = 60 := by omega
      have t0 : (60 : Int) < (m : Int) := by omega
      have t2 : (60 : Int) ≤ (cap : Int) := by omega
      have t3 : 60 ≤ cap := by omega
      clear q1 q2
      go_wp2_with fail
      go_meet
      exact ⟨rfl, rfl⟩
  case rest =>
    obtain ⟨rfl, rfl⟩ := hcut
    clear q1 hc
    go_upto_region 2 with fail
    go_cut [7, 8] (fun pv nv wx => pv = .int .i64 progs ∧ nv = .int .i64 n ∧ Below w.heap.size w wx)
    case first =>
      have HD := HBL.out.drew
      by_cases hn3 : nn ≤ 300
      · obtain rfl : n = nn := by omega
        clear q2
        have t0 : ¬ (300 : Int) < n := by omega
        go_region
        go_wp2_with fail
        go_meet
        exact ⟨rfl, rfl, HD⟩
      · obtain rfl : n = 300 := by omega
        clear q2
        have t0 : (300 : Int) < nn := by omega
        go_region
        go_wp2_with fail
        go_meet
        exact ⟨rfl, rfl, HD⟩
    case rest =>
      obtain ⟨rfl, rfl, hb⟩ := hcut
      clear c0 c1 q2 HBL
      rename World => w0
      have HB0 := Lib.hid hb
      clear hb
      have HDA : Hid (∀ W, Calls Try.prog 8 #[.int .u64 s, .int .i64 n] W fun e w' => ∃ A1 c1, e = .returned (.slice A1 N c1) ∧ RowU w'.heap.size w' A1 (drawsL s N) ∧ Below W.heap.size W w') := fun W => by
        refine (draws_any s n N HNN.out W).mono ?_
        rintro e w' ⟨v, rfl, ho, hb⟩
        obtain ⟨A1, c1, rfl, -, hr⟩ := ownU_row ho
        rw [drawsL_len]; exact ⟨A1, c1, rfl, hr, hb⟩
      have HDB : Hid (∀ W, Calls Try.prog 9 #[.int .u64 s, .int .i64 n] W fun e w' => ∃ A1 c1, e = .returned (.slice A1 N c1) ∧ RowU w'.heap.size w' A1 (drawsL s N) ∧ Below W.heap.size W w') := fun W => by
        refine (refdraws_any s n HS.out N HNN.out W).mono ?_
        rintro e w' ⟨v, rfl, ho, hb⟩
        obtain ⟨A1, c1, rfl, -, hr⟩ := ownU_row ho
        rw [drawsL_len]; exact ⟨A1, c1, rfl, hr, hb⟩
      have HSA : Hid (∀ W, Below w.heap.size w W → Calls Try.prog 11 #[.int .u64 s, .slice A c cap, .int .i64 progs, .int .i64 n] W fun e w' => ∃ A1 c1, e = .returned (.slice A1 N c1) ∧ RowsE w'.heap.size w' A1 (scriptL s cs progs N) ∧ Below W.heap.size W w') := fun W h => by
        refine (script_any s A cs c cap HL.out (by omega) progs n HP.out N HNN.out W ((HR.out.below h).mono h.size)).mono ?_
        rintro e w' ⟨v, rfl, ho, hb⟩
        obtain ⟨A1, c1, rfl, -, hr⟩ := ownE ho
        rw [scriptL_len]; exact ⟨A1, c1, rfl, hr, hb⟩
      have HSB : Hid (∀ W, Below w.heap.size w W → Calls Try.prog 12 #[.int .u64 s, .slice A c cap, .int .i64 progs, .int .i64 n] W fun e w' => ∃ A1 c1, e = .returned (.slice A1 N c1) ∧ RowsE w'.heap.size w' A1 (scriptL s cs progs N) ∧ Below W.heap.size W w') := fun W h => by
        refine (refscript_any s HS.out A cs c cap HL.out (by omega) progs n HP.out N HNN.out W ((HR.out.below h).mono h.size)).mono ?_
        rintro e w' ⟨v, rfl, ho, hb⟩
        obtain ⟨A1, c1, rfl, -, hr⟩ := ownE ho
        rw [scriptL_len]; exact ⟨A1, c1, rfl, hr, hb⟩
      have HDL := Lib.hid (drawsL_len s N)
      have HSL := Lib.hid (scriptL_len s cs progs N)
      generalize drawsL s N = D at *
      generalize scriptL s cs progs N = SC at *
      have t0 : ((N : Int) != (N : Int)) = false := by simp
      have HLV := Lib.hid lives33_any
      go_wp2_with (first
        | (go_at_call 8; (with_reducible refine (HDA.out _).mono ?_); rintro e w1 ⟨A1, c1, rfl, hr1, hb1⟩; have HR1 := Lib.hid hr1; have HB1 := Lib.hid (HB0.out.trans (hb1.mono HB0.out.size)); clear hr1 hb1)
        | (go_at_call 9; (with_reducible refine (HDB.out _).mono ?_); rintro e w2 ⟨A3, c3, rfl, hr2, hb2⟩; have HR3 := Lib.hid hr2; have HR2 := Lib.hid ((HR1.out.below hb2).mono hb2.size); have HB2 := Lib.hid (HB1.out.trans (hb2.mono HB1.out.size)); clear hr2 hb2))
      clear t0
      go_loopw [35] (fun iv wr => ∃ k : Nat, iv = .int .i64 k ∧ k ≤ N ∧ Below w2.heap.size w2 wr) (fun iv _ => N - (intOf iv).toNat)
      case atStart => exact ⟨0, rfl, Nat.zero_le _, Below.refl _ _⟩
      case round =>
        obtain ⟨k, rfl, hk, hb⟩ := hrel
        have HB := Lib.hid hb
        by_cases hlt : k < N
        · obtain ⟨b, o, rfl, -, c1⟩ := (HR2.out.below hb) k (by rw [HDL.out]; exact hlt)
          obtain ⟨b', o', rfl, -, c2⟩ := (HR3.out.below hb) k (by rw [HDL.out]; exact hlt)
          generalize D[k]'(by rw [HDL.out]; exact hlt) = z at *
          have k0 : (0 : Int) ≤ (k : Int) := by omega
          have k1 : (k : Int) < (N : Int) := by omega
          have t1 : (z != z) = false := by simp
          clear hb
          go_upto_region 9 with fail
          go_region
          go_wp2_with fail
          go_roundw
          case rel => exact ⟨k + 1, by go_num, by omega, HB.out.os, HB.out.tape, HB.out.output, HB.out.size, HB.out.block⟩
          case measure => simp [intOf]; omega
        · obtain rfl : k = N := by omega
          clear hb
          have HBW := Lib.hid (HB2.out.trans (HB.out.mono HB2.out.size))
          have HSM : Hid (∀ W A1 A2 c1 c2, RowsE W.heap.size W A1 SC → RowsE W.heap.size W A2 SC → Calls Try.prog 10 #[.slice A1 k c1, .slice A2 k c2] W fun e w' => e = .returned (.bool true) ∧ Below W.heap.size W w') := fun W A1 A2 c1 c2 h1 h2 => sameE_any A1 A2 SC k c1 c2 HSL.out (by omega) W h1 h2
          go_wp2_with (first
            | (go_at_call 11; (with_reducible refine (HSA.out _ HBW.out).mono ?_); rintro e w3 ⟨A5, c5, rfl, hr5, hb5⟩; have HR5 := Lib.hid hr5; have HB5 := Lib.hid (HBW.out.trans (hb5.mono HBW.out.size)); clear hr5 hb5)
            | (go_at_call 12; (with_reducible refine (HSB.out _ HB5.out).mono ?_); rintro e w4 ⟨A6, c6, rfl, hr6, hb6⟩; have HR6 := Lib.hid hr6; have HR7 := Lib.hid ((HR5.out.below hb6).mono hb6.size); have HB6 := Lib.hid (HB5.out.trans (hb6.mono HB5.out.size)); clear hr6 hb6)
            | (go_at_call 10; (with_reducible refine (HSM.out _ _ _ _ _ HR7.out HR6.out).mono ?_); rintro e w5 ⟨rfl, hb7⟩; have HB7 := Lib.hid (HB6.out.trans (hb7.mono HB6.out.size)); clear hb7)
            | (go_at_call 13; (with_reducible refine (HLV.out _).mono ?_); rintro e w6 ⟨rfl, hb8⟩; have HB8 := Lib.hid (HB7.out.trans (hb8.mono HB7.out.size)); clear hb8))
          go_ret
          exact ⟨rfl, HB8.out⟩
end Go.Proofs.Ytogplndhciaoeaa
