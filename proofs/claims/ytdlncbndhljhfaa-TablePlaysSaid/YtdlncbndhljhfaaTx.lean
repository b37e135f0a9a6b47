/- TableStays' walk. -/
import Derived.Test.YtdlncbndhljhfaaTw
import Derived.Test.YtdlncbndhljhfaaTo
namespace Go.Proofs.Ytdlncbndhljhfaa
open Go.RowKit

/-- A task that has exited. -/
def xsT (code : Int) : List Value := (someT.set 25 (.int .i64 8)).set 26 (.int .i64 code)
theorem xsT_ok (code : Int) : OkT (xsT code) := by
  refine ⟨rfl, fun j hj => ?_⟩
  have hs := someT_ok.cell j hj
  unfold xsT
  by_cases e : j = 26
  · subst e; exact ⟨code, rfl⟩
  · rw [List.getElem?_set_ne (Ne.symm e)]
    by_cases e2 : j = 25
    · subst e2; exact ⟨8, rfl⟩
    · rw [List.getElem?_set_ne (Ne.symm e2)]; exact hs
theorem xsT_may (code : Int) : mayT (xsT code) = true := rfl
theorem xsT_25 (code : Int) : fld (xsT code) 25 = 8 := rfl
theorem BT.set {w : World} {b : Nat} {cs : List Value} (h : BT w b cs) (j : Nat) (u : Value) : BT (w.setCell ⟨b, j, none⟩ u) b (cs.set j u) := by
  have := Blk.set_ h j u
  rwa [List.setIfInBounds_toArray] at this
theorem Liv.apart {w W W' : World} {E : Nat → Prop} {b c gl gn r xb : Nat} {v : Value} {ts : List (List Value)} {ls : Nat → List Nat} (h : Liv w E b c gl gn v r ts ls W) (hb : But (fun k => k = xb) W W') (hx : ¬ OwnT b c gl gn v xb) (hw : w.heap.size ≤ xb) : Liv w E b c gl gn v r ts ls W' :=
  ⟨h.tab.but hb fun k hk e => hx (e ▸ hk), h.own, h.below.trans (hb.below h.below.size fun k _ e => by rw [e]; exact hw), fun k hk => Nat.lt_of_lt_of_le (h.elt k hk) hb.size⟩
theorem taskGuard : Try.prog.eqGuardType Try.prog.depth 38 = false := by kernel_rfl
theorem eql_halt {ops : Array Oper} {rest : List Oper} {op : Oper} {a : Act} {w : World} {Q : Exit → Act → World → Prop} {g : Nat × Bool} {u : TypeId} (_ : op.guard = some g) (x y : Operand) (_ : op.op = .binOp .eql 38 x y u) (h : Hid (wpList Try.prog ops Q (op :: rest) a w)) : wpList Try.prog ops Q (op :: rest) a w := h.out
/-- A task is the same as itself, where a guard lets it be asked. -/
theorem eql_task {ops : Array Oper} {rest : List Oper} {op : Oper} {a : Act} {w : World} {Q : Exit → Act → World → Prop} {u : TypeId} (hw : Region.wanted op (yielded ops a.tmps) = true) (x y : Operand) (ho : op.op = .binOp .eql 38 x y u) (cs : List Value) (hok : OkT cs) (hx : a.eval x = .agg cs.toArray) (hy : a.eval y = .agg cs.toArray)
    (h : wpList Try.prog ops Q rest (a.put op.dst (.bool true)) w) : wpList Try.prog ops Q (op :: rest) a w := by
  refine wpList_step fun K hK => ?_
  rw [if_pos hw]
  unfold Oper.wp execOp
  simp only [ho, hx, hy, Sem.run_bind, Sem.run_pure, Result.andThen_ok, run_eqGuard_agg w .eql 38 x y cs.toArray cs.toArray taskGuard, task_self cs hok w]
  exact hK _ _ h
set_option maxRecDepth 100000 in
set_option maxHeartbeats 16000000 in
theorem stays12_any (A : Option Addr) (l : List OpR) (cap : Nat) (code : Int) (w : World) (hcap : l.length ≤ cap) (hI : OpsT w A l) :
    Calls Try.prog 4 #[.slice A l.length cap, .int .i64 code] w (GotB w.heap.size (.bool true) w) := by
  have HN := Lib.hid (lnew 256 256 (by omega) w w NoE (Below.refl _ _) (fun _ q => q.elim))
  have HSM := Lib.hid some_any; have HLV := Lib.hid lives12_any
  have HXO : Hid (OkT (xsT code) ∧ mayT (xsT code) = true ∧ fld (xsT code) 25 = 8) := ⟨xsT_ok code, xsT_may code, xsT_25 code⟩
  have HIX := Lib.hid (infoT.trans (congrArg some (xsT_ok code).len.symm))
  go_enter Try.func4, Try.ntmps4
  go_upto_region 1 with fail
  go_cut [0] (fun t wx => ∃ N : Nat, N ≤ 50 ∧ N ≤ l.length ∧ t = .slice A N cap ∧ wx = w)
  case first =>
    clear HN HSM HLV HXO HIX hI
    generalize l.length = len at *
    by_cases h60 : len ≤ 50
    · have t0 : ¬ (50 : Int) < len := by omega
      have t1 : (0 : Int) ≤ len := by omega
      have t2 : (len : Int) ≤ cap := by omega
      go_wp2_with fail
      go_meet
      exact ⟨len, h60, Nat.le_refl _, by first | rfl | (rw [show (min (len : Int) 50).toNat = len by omega]), rfl⟩
    · have t0 : (50 : Int) < len := by omega
      have t2 : (50 : Int) ≤ cap := by omega
      have t3 : 50 ≤ cap := by omega
      go_wp2_with fail
      go_meet
      exact ⟨50, Nat.le_refl _, by omega, by first | rfl | (rw [show (min (len : Int) 50).toNat = 50 by omega]), rfl⟩
  case rest =>
    obtain ⟨N, hN1, hN2, rfl, hwx⟩ := hcut
    obtain rfl := hwx.symm
    have HI := Lib.hid hI
    clear hI hcap
    go_wp2_with fail
    refine HN.out.mono ?_
    rintro e w1 ⟨b, c, gl, gn, rfl, ht, -⟩
    dsimp only
    have HT1 := Lib.hid ht
    clear ht HN
    go_wp2_with fail
    refine (HSM.out w1).mono ?_
    rintro e w2 ⟨rfl, h2⟩
    dsimp only
    have HT2 := Lib.hid (HT1.out.on h2).1
    have hst := run_storeCells_new (P := Try.prog) w2 38 #[.int .i64 0, .int .i64 0, .int .i32 0, .int .i32 0, .int .i32 0, .int .i32 0, .int .i64 0, .int .u64 0, .int .u64 0, .int .u64 0, .int .u64 0, .int .u64 0, .int .u64 0, .int .u64 0, .int .u64 0, .int .u64 0, .int .u64 0, .int .u64 0, .int .u64 0, .int .u64 0, .int .u64 0, .int .u64 0, .int .u64 0, .int .i64 0, .int .i64 0, .int .i64 0, .int .i64 0, .int .i64 0, .int .i64 0] someT.toArray infoT rfl (all_oneCell_toArray someT_ok.one)
    have hS29 : someT.length = 29 := rfl
    have HBX := Lib.hid (BT.new w2 someT)
    have HTX := Lib.hid (HT2.out.on ((Below.refl w2.heap.size w2).alloc (Nat.le_refl _) (.cells someT.toArray 38))).1
    have HLT : Hid (∀ k, OwnT b c gl gn (.slice none 0 0) k → k ≠ w2.heap.size) := fun k hk e => by have := HT2.out.tab.lt hk; omega
    have HWB : Hid (w.heap.size ≤ w2.heap.size) := HT2.out.below.size
    have HXS : Hid (xsT code = (someT.set 25 (.int .i64 8)).set 26 (.int .i64 code)) := rfl
    have HSO := Lib.hid someT_ok
    generalize someT = S at *
    clear h2 HT1 HT2 HSM
    go_upto_region 4 with fail
    clear hst hS29
    generalize w2.alloc (.cells S.toArray 38) = W4 at *
    generalize w2.heap.size = xb at *
    have c25 := HBX.out.cell HSO.out (show 25 < 29 by omega)
    have f25 : W4.frozen? ⟨xb, 25, none⟩ = false := Blk.free HBX.out 25
    have hb1 := HBX.out.set 25 (.int .i64 8)
    have c26 : (W4.setCell ⟨xb, 25, none⟩ (.int .i64 8)).cell? ⟨xb, 26, none⟩ = some (.int .i64 (fld S 26)) := by
      rw [World.cell?_setCell_other _ _ _ _ (by simp)]; exact HBX.out.cell HSO.out (show 26 < 29 by omega)
    have f26 : (W4.setCell ⟨xb, 25, none⟩ (.int .i64 8)).frozen? ⟨xb, 26, none⟩ = false := Blk.free hb1 26
    have hbx : BT ((W4.setCell ⟨xb, 25, none⟩ (.int .i64 8)).setCell ⟨xb, 26, none⟩ (.int .i64 code)) xb (xsT code) := by
      rw [HXS.out]; exact hb1.set 26 (.int .i64 code)
    have hbut : But (fun k => k = xb) W4 ((W4.setCell ⟨xb, 25, none⟩ (.int .i64 8)).setCell ⟨xb, 26, none⟩ (.int .i64 code)) := ((But.refl (fun k => k = xb) W4).set _ _ (.inl rfl)).set _ _ (.inl rfl)
    have hno : ¬ OwnT b c gl gn (.slice none 0 0) xb := fun q => HLT.out xb q rfl
    have hlv := (HTX.out.apart hbut hno HWB.out).more (E' := fun k => k = xb) fun k e => .inr (by rw [e]; exact ⟨Nat.lt_of_lt_of_le (Blk.lt HBX.out) hbut.size, hno⟩)
    have HBX6 := Lib.hid hbx; have HL6 := Lib.hid hlv
    clear hb1 hbx hbut hno hlv
    go_upto_region 6 with fail
    clear c25 f25 c26 f26 HBX HTX HLT HSO
    generalize (W4.setCell ⟨xb, 25, none⟩ (.int .i64 8)).setCell ⟨xb, 26, none⟩ (.int .i64 code) = W6 at *
    have HAD : Hid (Calls Try.prog 19 #[.pointer (some ⟨b, 0, none⟩), .agg (xsT code).toArray] W6 fun e W' => e = .returned (.tuple #[.int .i64 0, .int .i64 0]) ∧ ∃ v', Liv w (fun k => k = xb) b c gl gn v' 256 [xsT code] (fun _ => []) W' ∧ But (Oth w fun k => k = xb) W6 W') := ladd_ok (xsT code) HXO.out.1 HXO.out.2.1 HL6.out (by simp)
    have HX8 := Lib.hid HXO.out.2.2
    generalize xsT code = X at *
    clear HXS
    go_wp2_with (with_reducible (show wpList _ _ _ _ _ _); refine wpList_load_mid rfl 38 (.tmp 6) rfl xb 0 rfl X _ HBX6.out.range Try.underlying38 rfl HIX.out ?_)
    refine HAD.out.mono ?_
    rintro e w7 ⟨rfl, v7, h7, b7⟩
    dsimp only
    have HL7 := Lib.hid h7
    have HBX7 : Hid (BT w7 xb X) := Blk.but HBX6.out b7 (fun q => q.2 rfl)
    clear h7 b7 HAD HL6 HBX6
    go_wp2_with fail
    go_loopw [9, 40] (fun nv i wr => ∃ (k : Nat) (v : Value) (ts : List (List Value)) (ls : Nat → List Nat), nv = .int .i64 ts.length ∧ i = .int .i64 k ∧ k ≤ N ∧ Liv w (fun k => k = xb) b c gl gn v 256 ts ls wr ∧ BT wr xb X ∧ ts[0]? = some X ∧ ts.length ≤ k + 1) (fun _ i _ => N - (intOf i).toNat)
    case atStart => exact ⟨0, v7, _, _, rfl, rfl, Nat.zero_le _, HL7.out, HBX7.out, rfl, by simp⟩
    case round =>
      obtain ⟨k, v, ts, ls, rfl, rfl, hk, hl, hbx, h0, hle⟩ := hrel
      have HL := Lib.hid hl; have HBX := Lib.hid hbx; have H0 := Lib.hid h0
      clear hl hbx h0 HL7 HBX7
      by_cases hlt : k < N
      · obtain ⟨o, ho⟩ : ∃ o, l[k]? = some o := ⟨_, List.getElem?_eq_getElem (by omega)⟩
        obtain ⟨hok, bb, off, rfl, -, hr⟩ := (HI.out.below HL.out.below).range ho
        have HOK := Lib.hid hok; have HR := Lib.hid hr
        have hO32 := opL_len hok
        have HIO := Lib.hid (infoOp.trans (congrArg some hO32.symm))
        have HIXX := Lib.hid (infoT.trans (congrArg some hok.len.symm))
        have hst := run_storeCells_new (P := Try.prog) wr 40 #[.int .u64 0, .int .i64 0, .int .i64 0, .int .i32 0, .int .i32 0, .int .i32 0, .int .i32 0, .int .i64 0, .int .u64 0, .int .u64 0, .int .u64 0, .int .u64 0, .int .u64 0, .int .u64 0, .int .u64 0, .int .u64 0, .int .u64 0, .int .u64 0, .int .u64 0, .int .u64 0, .int .u64 0, .int .u64 0, .int .u64 0, .int .u64 0, .int .i64 0, .int .i64 0, .int .i64 0, .int .i64 0, .int .i64 0, .int .i64 0, .int .i64 0, .int .i64 0] (opL o).toArray (infoOp.trans (congrArg some (by rw [List.size_toArray, hO32]))) (Eq.trans (show _ = 32 from rfl) (by rw [List.size_toArray, hO32])) (all_oneCell_toArray (opL_one hok))
        have hal : Below wr.heap.size wr (wr.alloc (.cells (opL o).toArray 40)) := (Below.refl _ _).alloc (Nat.le_refl _) _
        have HL1 := Lib.hid (HL.out.on hal).1
        have HBX1 : Hid (BT (wr.alloc (.cells (opL o).toArray 40)) xb X) := Blk.below HBX.out hal (Blk.lt HBX.out)
        have HOB := Lib.hid (op_box hok (Blk.new wr 40 (opL o).toArray))
        have k0 : (0 : Int) ≤ (k : Int) := by omega
        have k1 : (k : Int) < (N : Int) := by omega
        clear hok hr hal ho HL HBX
        generalize opL o = O at *
        go_upto_region 13 with (with_reducible (show wpList _ _ _ _ _ _); refine wpList_load_mid rfl 40 (.tmp 42) rfl bb (off + k * 32) rfl O _ HR.out Try.underlying40 rfl HIO.out ?_)
        clear hst hO32 HR HIO
        generalize wr.alloc (.cells O.toArray 40) = W1 at *
        generalize wr.heap.size = ob at *
        obtain ⟨y0, yr, y30, y31⟩ := HOB.out
        have HYR := Lib.hid yr
        clear yr HOB
        obtain ⟨kd, xx, id, on⟩ := o
        dsimp only at y0 y30 y31 HYR HOK HIXX
        have h3 : kd % 3 = 0 ∨ kd % 3 = 1 ∨ kd % 3 = 2 := by omega
        rcases h3 with h3 | h3 | h3
        · have hm : (kd : Int).tmod 3 = 0 := by rw [Int.tmod_eq_emod_of_nonneg (by omega)]; omega
          have HC := Lib.hid (sadd xx HOK.out HL1.out)
          go_wp2_with (with_reducible (show wpList _ _ _ _ _ _); refine wpList_load_mid rfl 38 (.tmp 57) rfl ob 1 rfl xx _ HYR.out Try.underlying38 rfl HIXX.out ?_)
          refine HC.out.mono ?_
          rintro e w8 ⟨kk, f, v8, ts8, rfl, h8, b8, hr8⟩
          dsimp only
          have HL8 := Lib.hid h8
          have HBX8 : Hid (BT w8 xb X) := Blk.but HBX1.out b8 (fun q => q.2 rfl)
          clear h8 b8 HC HL1 HBX1 y0 y30 y31 hm
          rcases hr8 with ⟨rfl, rfl, rfl⟩ | ⟨hf, rfl⟩
          · have tt : ((ts.length : Int) != (ts.length : Int)) = false := by simp
            have H08 : Hid ((ts ++ [xx])[0]? = some X) := by
              have h1 := H0.out
              rw [List.getElem?_append_left (List.getElem?_eq_some_iff.1 h1).1]; exact h1
            have hll : (ts ++ [xx]).length = ts.length + 1 := by simp
            have HLL := Lib.hid hll
            clear hll
            go_wp2_with fail
            go_roundw
            case rel => exact ⟨k + 1, v8, _, _, by rw [HLL.out]; go_num, by go_num, by omega, HL8.out, HBX8.out, H08.out, by rw [HLL.out]; omega⟩
            case measure => simp [intOf]; omega
          · have tf : (f == 0) = false := by simpa using hf
            go_wp2_with fail
            go_roundw
            case rel => exact ⟨k + 1, v8, _, _, rfl, by go_num, by omega, HL8.out, HBX8.out, H0.out, by omega⟩
            case measure => simp [intOf]; omega
        · have hm : (kd : Int).tmod 3 = 1 := by rw [Int.tmod_eq_emod_of_nonneg (by omega)]; omega
          have HC := Lib.hid (sset id xx HOK.out HL1.out)
          go_wp2_with (with_reducible (show wpList _ _ _ _ _ _); refine wpList_load_mid rfl 38 (.tmp 78) rfl ob 1 rfl xx _ HYR.out Try.underlying38 rfl HIXX.out ?_)
          refine HC.out.mono ?_
          rintro e w8 ⟨nn, ts8, rfl, h8, b8, hl8, hk8⟩
          dsimp only
          have HL8 := Lib.hid h8
          have HBX8 : Hid (BT w8 xb X) := Blk.but HBX1.out b8 (fun q => q.2 rfl)
          have H08 := Lib.hid (hk8 0 X H0.out HX8.out)
          have HLL := Lib.hid hl8
          clear h8 b8 HC HL1 HBX1 y0 y30 y31 hm hl8 hk8
          go_wp2_with fail
          go_roundw
          case rel => exact ⟨k + 1, v, ts8, _, by rw [HLL.out], by go_num, by omega, HL8.out, HBX8.out, H08.out, by rw [HLL.out]; omega⟩
          case measure => simp [intOf]; omega
        · have hm : (kd : Int).tmod 3 = 2 := by rw [Int.tmod_eq_emod_of_nonneg (by omega)]; omega
          have HC := Lib.hid (sjoin id on HL1.out)
          go_wp2_with fail
          refine HC.out.mono ?_
          rintro e w8 ⟨nn, ls8, rfl, h8, b8⟩
          dsimp only
          have HL8 := Lib.hid h8
          have HBX8 : Hid (BT w8 xb X) := Blk.but HBX1.out b8 (fun q => q.2 rfl)
          clear h8 b8 HC HL1 HBX1 y0 y30 y31 hm
          go_wp2_with fail
          go_roundw
          case rel => exact ⟨k + 1, v, ts, ls8, rfl, by go_num, by omega, HL8.out, HBX8.out, H0.out, by omega⟩
          case measure => simp [intOf]; omega
      · obtain rfl : k = N := by omega
        have tk : ¬ (k : Int) < (k : Int) := by omega
        have HG : Hid (Calls Try.prog 22 #[.pointer (some ⟨b, 0, none⟩), .int .i64 0] wr (GotB wr.heap.size (.tuple #[.agg X.toArray, .bool true]) wr)) := tget_at 0 X HL.out.tab H0.out
        go_wp2_with fail
        refine HG.out.mono ?_
        rintro e w8 ⟨rfl, h8⟩
        dsimp only
        have HL8 := Lib.hid (HL.out.on h8).1
        have HBX8 : Hid (BT w8 xb X) := Blk.below HBX.out h8 (Blk.lt HBX.out)
        have hX29 := HXO.out.1.len
        have hst := run_storeCells_new (P := Try.prog) w8 38 #[.int .i64 0, .int .i64 0, .int .i32 0, .int .i32 0, .int .i32 0, .int .i32 0, .int .i64 0, .int .u64 0, .int .u64 0, .int .u64 0, .int .u64 0, .int .u64 0, .int .u64 0, .int .u64 0, .int .u64 0, .int .u64 0, .int .u64 0, .int .u64 0, .int .u64 0, .int .u64 0, .int .u64 0, .int .u64 0, .int .u64 0, .int .i64 0, .int .i64 0, .int .i64 0, .int .i64 0, .int .i64 0, .int .i64 0] X.toArray (infoT.trans (congrArg some (by rw [List.size_toArray, hX29]))) (Eq.trans (show _ = 29 from rfl) (by rw [List.size_toArray, hX29])) (all_oneCell_toArray HXO.out.1.one)
        have hal : Below w8.heap.size w8 (w8.alloc (.cells X.toArray 38)) := (Below.refl _ _).alloc (Nat.le_refl _) _
        have HL9 := Lib.hid (HL8.out.on hal).1
        have HBX9 : Hid (BT (w8.alloc (.cells X.toArray 38)) xb X) := Blk.below HBX8.out hal (Blk.lt HBX8.out)
        have HBY9 := Lib.hid (BT.new w8 X)
        clear h8 hal HL HBX HG HL8 HBX8
        go_upto_region 25 with fail
        clear hst hX29
        generalize w8.alloc (.cells X.toArray 38) = W9 at *
        generalize w8.heap.size = yb at *
        have HXK := Lib.hid HXO.out.1
        have HTL := Lib.hid (tlen_any HL9.out.tab)
        have h0l : 0 < ts.length := (List.getElem?_eq_some_iff.1 H0.out).1
        have HJ : Hid (Calls Try.prog 21 #[.pointer (some ⟨b, 0, none⟩), .int .i64 0, .int .i64 0] W9 fun e w' => e = .returned (.int .i64 1) ∧ W9 = w') := join_same 0 HL9.out.tab h0l
        have HBB : Hid (Below w.heap.size w W9) := HL9.out.below
        have tl : ((ts.length : Int) == (ts.length : Int)) = true := by simp
        clear h0l H0 HXO HL9
        go_wp2_with (with_reducible (show wpList _ _ _ _ _ _); refine load_halt rfl (.tmp 14) rfl ?_)
        refine Lib.hid ?_
        refine load_guarded (by rfl) (.tmp 14) rfl yb rfl X HBY9.out.range HIX.out ?_
        go_wp2_with (with_reducible (show wpList _ _ _ _ _ _); refine load_halt rfl (.tmp 6) rfl ?_)
        refine Lib.hid ?_
        refine load_guarded (by rfl) (.tmp 6) rfl xb rfl X HBX9.out.range HIX.out ?_
        go_wp2_with (with_reducible (show wpList _ _ _ _ _ _); refine eql_halt rfl (.tmp 89) (.tmp 90) rfl ?_)
        refine Lib.hid ?_
        refine eql_task (by rfl) (.tmp 89) (.tmp 90) rfl X HXK.out rfl rfl ?_
        go_wp2_with (first
          | (go_at_call 23; (with_reducible refine HTL.out.mono ?_); rintro e wq ⟨rfl, rfl⟩)
          | (go_at_call 21; (with_reducible refine HJ.out.mono ?_); rintro e wq ⟨rfl, rfl⟩)
          | (go_at_call 17; (with_reducible refine (HLV.out _).mono ?_); rintro e w10 ⟨rfl, h10⟩; have H10 := Lib.hid h10; clear h10))
        go_ret
        exact ⟨rfl, HBB.out.trans (H10.out.mono HBB.out.size)⟩
end Go.Proofs.Ytdlncbndhljhfaa
