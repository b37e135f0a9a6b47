/- TableNobody's walk. -/
import Derived.Test.YtdlncbndhljhfaaTn
import Derived.Test.YtdlncbndhljhfaaTh
import Derived.Test.YtdlncbndhljhfaaTd
namespace Go.Proofs.Ytdlncbndhljhfaa
open Go.RowKit

/-- A task, loaded whole where a guard lets it. -/
theorem load_guarded {ops : Array Oper} {rest : List Oper} {op : Oper} {a : Act} {w : World} {Q : Exit → Act → World → Prop} (hw : Region.wanted op (yielded ops a.tmps) = true) (x : Operand) (ho : op.op = .load 38 x)
    (b : Nat) (hx : a.eval x = .pointer (some ⟨b, 0, none⟩)) (cs : List Value) (hc : w.rangeAt b 0 cs) (hi : (Try.prog.info? 38).map (·.size) = some cs.length)
    (h : wpList Try.prog ops Q rest (a.put op.dst (.agg cs.toArray)) w) : wpList Try.prog ops Q (op :: rest) a w :=
  wpList_step fun K hK => by rw [if_pos hw]; exact wp_load_mid 38 x ho b 0 hx cs _ hc Try.underlying38 rfl hi (hK _ _ h)
theorem load_halt {ops : Array Oper} {rest : List Oper} {op : Oper} {a : Act} {w : World} {Q : Exit → Act → World → Prop} {g : Nat × Bool} (_ : op.guard = some g) (x : Operand) (_ : op.op = .load 38 x) (h : Hid (wpList Try.prog ops Q (op :: rest) a w)) : wpList Try.prog ops Q (op :: rest) a w := h.out
set_option maxRecDepth 100000 in
set_option maxHeartbeats 16000000 in
theorem nobody12_any (cs : List Value) (i k : Int) (w : World) (ho : OkT cs) :
    Calls Try.prog 5 #[.agg cs.toArray, .int .i64 i, .int .i64 k] w (GotB w.heap.size (.bool true) w) := by
  have hB : Below w.heap.size w (w.alloc (.cells cs.toArray 38)) := (Below.refl _ _).alloc (Nat.le_refl _) _
  have HI := Lib.hid (infoT.trans (congrArg some ho.len.symm))
  have HX1 := Lib.hid (BT.new w cs); have HB1 := Lib.hid hB
  have HG := Lib.hid (tget_nil i)
  have HLV := Lib.hid lives12_any
  have HM := Lib.hid (refMay_any cs ho)
  have HJ : Hid (∀ W : World, Calls Try.prog 21 #[.pointer none, .int .i64 i, .int .i64 k] W fun e w' => e = .returned (.int .i64 3) ∧ W = w') := fun W => join_none i k 0 (tlen_nil W) (.inl (inB_no (by omega)))
  have HJD : Hid (∀ W : World, Calls Try.prog 24 #[.pointer none, .int .i64 k] W fun e w' => e = .returned (.slice none 0 0) ∧ W = w') := fun W => joined_none k W (has_nil k W)
  have HIN := Lib.hid (fun W => tin_nil 1 k W); have HCO := Lib.hid (fun W => tcount_nil 1 W); have HRO := Lib.hid troom_nil
  have HLE : Hid (∀ W : World, Calls Try.prog 23 #[.pointer none] W fun e w' => e = .returned (.int .i64 0) ∧ W = w') := tlen_nil
  have HSE : Hid (∀ W : World, Calls Try.prog 20 #[.pointer none, .int .i64 i, .agg cs.toArray] W (GotB W.heap.size (.int .i64 3) W)) := fun W => tset_none i 0 cs W (inB_no (by omega)) fun W' _ => tlen_nil W'
  obtain ⟨q, hq⟩ : ∃ q, mayT cs = q := ⟨_, rfl⟩
  have HAD : Hid (∀ W : World, Calls Try.prog 19 #[.pointer none, .agg cs.toArray] W (GotB W.heap.size (.tuple #[.int .i64 0, .int .i64 (if q then 4 else 1)]) W)) := fun W => by
    cases q with
    | false => exact add_bad cs ho hq W
    | true => exact add_full cs ho hq 0 0 (Nat.le_refl _) W (fun W' _ => tlen_nil W') (fun W' _ => troom_nil W')
  rw [hq] at HM
  have HZS : Hid (zT.toArray.size = 29 ∧ zT.toArray.all (·.oneCell') = true) := ⟨rfl, all_oneCell_toArray zT_ok.one⟩
  clear hB hq ho
  cases q
  all_goals
    simp only [Bool.false_eq_true, ↓reduceIte] at HAD
    go_enter Try.func5, Try.ntmps5
    go_wp2_with fail
    obtain ⟨XB, hXB⟩ : ∃ k, w.heap.size = k := ⟨_, rfl⟩
    rw [hXB] at HX1 HB1 ⊢
    have HXE := Lib.hid hXB
    clear hXB
    refine (HG.out _).mono ?_
    rintro e w2 ⟨rfl, h2⟩
    dsimp only
    have HX2 : Hid (BT w2 XB cs) := HX1.out.below h2 (Blk.lt HX1.out)
    have HB2 := Lib.hid (HB1.out.trans (h2.mono (HXE.out ▸ HB1.out.size)))
    clear h2 HX1 HB1 HG
    generalize zT = Z at *
    have z1 := HZS.out.1; have z2 := HZS.out.2
    have hst := run_storeCells_new (P := Try.prog) w2 38 #[.int .i64 0, .int .i64 0, .int .i32 0, .int .i32 0, .int .i32 0, .int .i32 0, .int .i64 0, .int .u64 0, .int .u64 0, .int .u64 0, .int .u64 0, .int .u64 0, .int .u64 0, .int .u64 0, .int .u64 0, .int .u64 0, .int .u64 0, .int .u64 0, .int .u64 0, .int .u64 0, .int .u64 0, .int .u64 0, .int .u64 0, .int .i64 0, .int .i64 0, .int .i64 0, .int .i64 0, .int .i64 0, .int .i64 0] Z.toArray (infoT.trans (congrArg some z1.symm)) z1.symm z2
    have hzl : Z.length = 29 := by simpa using z1
    have hz3 : Below w2.heap.size w2 (w2.alloc (.cells Z.toArray 38)) := (Below.refl _ _).alloc (Nat.le_refl _) _
    have HX3 : Hid (BT (w2.alloc (.cells Z.toArray 38)) XB cs) := HX2.out.below hz3 (Blk.lt HX2.out)
    have HB3 := Lib.hid (HB2.out.trans (hz3.mono (HXE.out ▸ HB2.out.size)))
    clear hz3 z1 z2 HX2 HB2 HZS
    go_wp2_with (with_reducible (show wpList _ _ _ _ _ _); refine wpList_load_mid rfl 38 (.tmp 3) rfl XB 0 rfl cs _ HX3.out.range Try.underlying38 rfl HI.out ?_)
    refine (HAD.out _).mono ?_
    rintro e w4 ⟨rfl, h4⟩
    dsimp only
    have HX4 : Hid (BT w4 XB cs) := HX3.out.below h4 (Blk.lt HX3.out)
    have HB4 := Lib.hid (HB3.out.trans (h4.mono (HXE.out ▸ HB3.out.size)))
    clear h4 HX3 HB3 HAD hst hzl
    generalize w2.heap.size = g2 at *
    go_wp2_with (with_reducible (show wpList _ _ _ _ _ _); refine wpList_load_mid rfl 38 (.tmp 3) rfl XB 0 rfl cs _ HX4.out.range Try.underlying38 rfl HI.out ?_)
    refine (HM.out _).mono ?_
    rintro e w5 ⟨rfl, h5⟩
    dsimp only
    have HX5 : Hid (BT w5 XB cs) := HX4.out.below h5 (Blk.lt HX4.out)
    have HB5 := Lib.hid (HB4.out.trans (h5.mono (HXE.out ▸ HB4.out.size)))
    clear h5 HX4 HB4 HM
    go_wp2_with (with_reducible (show wpList _ _ _ _ _ _); refine load_halt rfl (.tmp 3) rfl ?_)
    refine Lib.hid ?_
    refine load_guarded (by rfl) (.tmp 3) rfl XB rfl cs HX5.out.range HI.out ?_
    go_wp2_with fail
    refine (HSE.out _).mono ?_
    rintro e w6 ⟨rfl, h6⟩
    dsimp only
    have HB6 := Lib.hid (HB5.out.trans (h6.mono (HXE.out ▸ HB5.out.size)))
    clear h6 HX5 HB5 HSE
    go_wp2_with (first
      | (go_at_call 21; (with_reducible refine (HJ.out _).mono ?_); rintro e wq ⟨rfl, rfl⟩)
      | (go_at_call 24; (with_reducible refine (HJD.out _).mono ?_); rintro e wq ⟨rfl, rfl⟩)
      | (go_at_call 25; (with_reducible refine (HIN.out _).mono ?_); rintro e wq ⟨rfl, rfl⟩)
      | (go_at_call 23; (with_reducible refine (HLE.out _).mono ?_); rintro e wq ⟨rfl, rfl⟩)
      | (go_at_call 12; (with_reducible refine (HRO.out _).mono ?_); rintro e wq ⟨rfl, rfl⟩)
      | (go_at_call 26; (with_reducible refine (HCO.out _).mono ?_); rintro e wq ⟨rfl, rfl⟩)
      | (go_at_call 17; (with_reducible refine (HLV.out _).mono ?_); rintro e w9 ⟨rfl, h9⟩; have H9 := Lib.hid h9; clear h9))
    go_ret
    exact ⟨rfl, HXE.out ▸ HB6.out.trans (H9.out.mono (HXE.out ▸ HB6.out.size))⟩
end Go.Proofs.Ytdlncbndhljhfaa
