/- Are they the same table? (layer 12) -/
import Derived.Test.YtdlncbndhljhfaaVo
import Derived.BigQuiet
namespace Go.Proofs.Ytdlncbndhljhfaa
open Go.RowKit

section
variable {w W W' : World} {E : Nat → Prop} {b c gl gn r tb : Nat} {v vL vW : Value} {ts us : List (List Value)} {ls : Nat → List Nat} {ws : List (Nat × Nat)}
set_option maxRecDepth 100000 in
set_option maxHeartbeats 16000000 in
theorem alike_any (o : OpR) (hok : OkT o.x) (h : Two w E b c gl gn v tb vL vW r ts ls ts ws W) :
    Calls Try.prog 16 #[.pointer (some ⟨b, 0, none⟩), .pointer (some ⟨tb, 0, none⟩), .agg (opL o).toArray] W (GotB W.heap.size (.bool true) W) := by
  have hal : Below W.heap.size W (W.alloc (.cells (opL o).toArray 40)) := (Below.refl _ _).alloc (Nat.le_refl _) _
  have HAL := Lib.hid hal
  have HT := Lib.hid (h.tab.below hal); have HD := Lib.hid (h.ref.below hal)
  have HBX := Lib.hid (Blk.new W 40 (opL o).toArray)
  have HOK := Lib.hid hok
  have hlim := h.ref.lim.1
  have hq : ∃ A cap, vL = .slice A ts.length cap := by
    rcases rowForm h.ref.row with ⟨e1, e2⟩ | ⟨g, cap, e1⟩
    · exact ⟨none, 0, by rw [e2]; exact e1⟩
    · exact ⟨_, cap, e1⟩
  obtain ⟨A, capL, hAL⟩ := hq
  have c1 := HD.out.cells.2.1
  rw [hAL] at c1
  have HAL2 := Lib.hid hAL
  obtain ⟨n, hn⟩ : ∃ n, ts.length = n := ⟨_, rfl⟩
  have HN := Lib.hid hn
  rw [hn] at c1 hlim HAL2
  obtain ⟨s, hs⟩ : ∃ s, fld o.x 25 = s := ⟨_, rfl⟩
  obtain ⟨q, hqq⟩ : ∃ q, fld o.x 26 = q := ⟨_, rfl⟩
  have HOB : Hid (∀ X, Below (W.alloc (.cells (opL o).toArray 40)).heap.size (W.alloc (.cells (opL o).toArray 40)) X → X.cell? ⟨W.heap.size, 26, none⟩ = some (.int .i64 s) ∧ X.cell? ⟨W.heap.size, 27, none⟩ = some (.int .i64 q)) := fun X hX => by
    obtain ⟨-, yr, -, -⟩ := op_box HOK.out (Blk.below HBX.out hX (Blk.lt HBX.out))
    have z1 := yr 25 _ (HOK.out.get (by omega)); have z2 := yr 26 _ (HOK.out.get (by omega))
    rw [show kindT 25 = .i64 from rfl, hs] at z1
    rw [show kindT 26 = .i64 from rfl, hqq] at z2
    exact ⟨z1, z2⟩
  have HL := Lib.hid (tlen_any HT.out)
  have HL1 : Hid (∀ k, Calls Try.prog 23 #[.pointer (some ⟨b, 0, none⟩)] ((W.alloc (.cells (opL o).toArray 40)).drewN k) fun e w' => e = .returned (.int .i64 n) ∧ w' = (W.alloc (.cells (opL o).toArray 40)).drewN k) := fun k => by
    have := tlen_any (HT.out.below (w' := (W.alloc (.cells (opL o).toArray 40)).drewN k) ⟨rfl, rfl, rfl, Nat.le_refl _, fun _ _ => rfl⟩)
    rw [HN.out] at this
    exact this.mono fun _ _ z => ⟨z.1, z.2.symm⟩
  obtain ⟨O, hO⟩ : ∃ O, opL o = O := ⟨_, rfl⟩
  rw [hO] at HAL HT HD HBX HOB HL HL1 c1 ⊢
  have tn : ((n : Int) != (n : Int)) = false := by simp
  clear h hal hAL hn hs hqq hO hok
  go_enter Try.func16, Try.ntmps16
  go_upto_region 1 with fail
  generalize W.alloc (.cells O.toArray 40) = W1 at *
  go_quiet (first | (go_at_call 23; with_reducible exact Calls.quiet_of_same (HL1.out _)))
  go_upto_region 6 with fail
  have hb3 : Below W1.heap.size W1 (W1.drewN nq) := ⟨rfl, rfl, rfl, Nat.le_refl _, fun _ _ => rfl⟩
  have HB3 := Lib.hid hb3
  clear HL1 HL c1 tn hb3
  generalize W1.drewN nq = w3 at *
  go_loopw [7, 8, 30] (fun lv nv iv wr => ∃ (u : Value) (k : Nat), u = lv ∧ k ≤ n ∧ nv = .int .i64 (coL ts s k : Nat) ∧ iv = .int .i64 k ∧ MineN w3.heap.size u (inL ts s q k) wr ∧ Below w3.heap.size w3 wr) (fun _ _ i _ => n - (intOf i).toNat)
  case atStart => exact ⟨_, 0, rfl, Nat.zero_le _, rfl, rfl, mineN_nil _ _, Below.refl _ _⟩
  case round =>
    obtain ⟨u, k, rfl, hk, rfl, rfl, hm, hb⟩ := hrel
    have HM := Lib.hid hm; have HB := Lib.hid hb
    clear hm hb
    have HB1 : Hid (Below W1.heap.size W1 wr) := Lib.hid (HB3.out.trans (HB.out.mono HB3.out.size))
    by_cases hlt : k < n
    · obtain ⟨x, hx⟩ : ∃ x, ts[k]? = some x := ⟨_, List.getElem?_eq_getElem (by rw [HN.out]; exact hlt)⟩
      obtain ⟨g, cap, hv, hr, ho⟩ := (HD.out.below HB1.out).at_ hx
      have hA := HAL2.out
      rw [hv, HN.out] at hA
      obtain ⟨rfl, rfl⟩ : some (⟨g, 0, none⟩ : Addr) = A ∧ cap = capL := by
        simp at hA; exact ⟨hA.1, hA.2⟩
      have HR := Lib.hid hr; have HO := Lib.hid ho
      have HI := Lib.hid (infoT.trans (congrArg some ho.len.symm))
      have hxl := ho.len
      have hst := run_storeCells_new (P := Try.prog) wr 38 #[.int .i64 0, .int .i64 0, .int .i32 0, .int .i32 0, .int .i32 0, .int .i32 0, .int .i64 0, .int .u64 0, .int .u64 0, .int .u64 0, .int .u64 0, .int .u64 0, .int .u64 0, .int .u64 0, .int .u64 0, .int .u64 0, .int .u64 0, .int .u64 0, .int .u64 0, .int .u64 0, .int .u64 0, .int .u64 0, .int .u64 0, .int .i64 0, .int .i64 0, .int .i64 0, .int .i64 0, .int .i64 0, .int .i64 0] x.toArray (infoT.trans (congrArg some (by rw [List.size_toArray, hxl]))) (Eq.trans (show _ = 29 from rfl) (by rw [List.size_toArray, hxl])) (all_oneCell_toArray ho.one)
      have hal : Below wr.heap.size wr (wr.alloc (.cells x.toArray 38)) := (Below.refl _ _).alloc (Nat.le_refl _) _
      have HG := Lib.hid (tget_at k x ((HT.out.below HB1.out).below hal) hx)
      have HM4 := Lib.hid (HM.out.on hal)
      have HB4 := Lib.hid (HB.out.trans (hal.mono HB.out.size))
      have HX4 := Lib.hid (BT.new wr x)
      have hin : inL ts s q (k + 1) = inL ts s q k ++ (if fld x 25 = s ∧ fld x 26 = q then [(k : Int)] else []) := by rw [inL, hx]
      have hco : coL ts s (k + 1) = coL ts s k + (if fld x 25 = s then 1 else 0) := by rw [coL, hx]
      have HIN := Lib.hid hin; have HCO := Lib.hid hco
      have hil := inL_len ts s q k
      have hcl := coL_le ts s k
      have k0 : (0 : Int) ≤ (k : Int) := by omega
      have k1 : (k : Int) < (n : Int) := by omega
      clear hx hv hr ho hA hal hin hco HM HB HB1
      go_upto_region 8 with (with_reducible (show wpList _ _ _ _ _ _); refine wpList_load_mid rfl 38 (.tmp 33) rfl g (k * 29) rfl x _ HR.out Try.underlying38 rfl HI.out ?_)
      clear hst HR
      generalize wr.alloc (.cells x.toArray 38) = W4 at *
      generalize wr.heap.size = xb at *
      go_wp2_with fail
      refine HG.out.mono ?_
      rintro e w5 ⟨rfl, h5⟩
      dsimp only
      have ho := HO.out
      have hst := run_storeCells_new (P := Try.prog) w5 38 #[.int .i64 0, .int .i64 0, .int .i32 0, .int .i32 0, .int .i32 0, .int .i32 0, .int .i64 0, .int .u64 0, .int .u64 0, .int .u64 0, .int .u64 0, .int .u64 0, .int .u64 0, .int .u64 0, .int .u64 0, .int .u64 0, .int .u64 0, .int .u64 0, .int .u64 0, .int .u64 0, .int .u64 0, .int .u64 0, .int .u64 0, .int .i64 0, .int .i64 0, .int .i64 0, .int .i64 0, .int .i64 0, .int .i64 0] x.toArray (infoT.trans (congrArg some (by rw [List.size_toArray, hxl]))) (Eq.trans (show _ = 29 from rfl) (by rw [List.size_toArray, hxl])) (all_oneCell_toArray ho.one)
      have hal : Below w5.heap.size w5 (w5.alloc (.cells x.toArray 38)) := (Below.refl _ _).alloc (Nat.le_refl _) _
      have h46 := h5.trans (hal.mono h5.size)
      have HM6 := Lib.hid (HM4.out.on h46)
      have HB6 := Lib.hid (HB4.out.trans (h46.mono HB4.out.size))
      have HX6 : Hid (BT (w5.alloc (.cells x.toArray 38)) xb x) := Lib.hid (Blk.below HX4.out h46 (Blk.lt HX4.out))
      have HY6 := Lib.hid (BT.new w5 x)
      have x25 := HX6.out.cell ho (show 25 < 29 by omega)
      have x26 := HX6.out.cell ho (show 26 < 29 by omega)
      rw [show kindT 25 = .i64 from rfl] at x25
      rw [show kindT 26 = .i64 from rfl] at x26
      obtain ⟨y26, y27⟩ := HOB.out _ (HB3.out.trans (HB6.out.mono HB3.out.size))
      clear ho hal h46 h5 HG HM4 HB4 HX4
      go_upto_region 9 with fail
      clear hst hxl
      generalize w5.alloc (.cells x.toArray 38) = W6 at *
      generalize w5.heap.size = zb at *
      go_wp2_with (with_reducible (show wpList _ _ _ _ _ _); refine load_halt rfl (.tmp 11) rfl ?_)
      refine Lib.hid ?_
      refine load_guarded (by rfl) (.tmp 11) rfl zb rfl x HY6.out.range HI.out ?_
      go_wp2_with (with_reducible (show wpList _ _ _ _ _ _); refine load_halt rfl (.tmp 10) rfl ?_)
      refine Lib.hid ?_
      refine load_guarded (by rfl) (.tmp 10) rfl xb rfl x HX6.out.range HI.out ?_
      go_wp2_with (with_reducible (show wpList _ _ _ _ _ _); refine neq_halt rfl (.tmp 44) (.tmp 45) rfl ?_)
      refine Lib.hid ?_
      refine neq_task (by rfl) (.tmp 44) (.tmp 45) rfl x HO.out rfl rfl ?_
      go_upto_region 11 with fail
      generalize fld x 25 = f1 at *
      generalize fld x 26 = f2 at *
      clear HX6 HY6 HO HI
      by_cases hf : f1 = s
      · subst hf
        have t : (f1 == f1) = true := by simp
        rw [if_pos rfl] at HCO
        by_cases hq2 : f2 = q
        · subst hq2
          have t2 : (f2 == f2) = true := by simp
          rw [if_pos ⟨rfl, rfl⟩] at HIN
          have ha : Below W6.heap.size W6 (W6.alloc (.cells #[.int .i64 k] 3)) := (Below.refl _ _).alloc (Nat.le_refl _) _
          have HM8 := Lib.hid (HM6.out.on ha)
          have HB8 := Lib.hid (HB6.out.trans (ha.mono HB6.out.size))
          have hbk := (Blk.new W6 3 #[.int .i64 k]).cell 0
          simp only [List.getElem?_toArray, List.getElem?_cons_zero] at hbk
          have HBS := Lib.hid hbk
          clear ha hbk
          go_wp2_with (at_builtin; refine haltM ?_)
          refine Lib.hid ?_
          refine app_mine rfl (.tmp 62) (.tmp 64) rfl w3.heap.size u (inL ts f1 f2 k) rfl HM8.out _ k rfl HBS.out (by omega) HB8.out.size ?_
          intro u' w9 own9 b9
          have HM9 : Hid (MineN w3.heap.size u' (inL ts f1 f2 (k + 1)) w9) := by
            show MineN _ _ _ _
            rw [HIN.out]; exact own9
          have HB9 := Lib.hid (HB8.out.trans b9)
          clear own9 b9 HM8 HB8 HBS
          go_wp2_with fail
          go_roundw
          case rel => exact ⟨u', k + 1, rfl, by omega, by rw [HCO.out]; go_num, by go_num, HM9.out, HB9.out⟩
          case measure => simp [intOf]; omega
        · have t2 : (f2 == q) = false := by simpa using hq2
          rw [if_neg (fun h => hq2 h.2), List.append_nil] at HIN
          have HM9 : Hid (MineN w3.heap.size u (inL ts f1 q (k + 1)) W6) := by
            show MineN _ _ _ _
            rw [HIN.out]; exact HM6.out
          clear hq2
          go_wp2_with fail
          go_roundw
          case rel => exact ⟨u, k + 1, rfl, by omega, by rw [HCO.out]; go_num, by go_num, HM9.out, HB6.out⟩
          case measure => simp [intOf]; omega
      · have t : (f1 == s) = false := by simpa using hf
        rw [if_neg (fun h => hf h.1), List.append_nil] at HIN
        rw [if_neg hf, Nat.add_zero] at HCO
        have HM9 : Hid (MineN w3.heap.size u (inL ts s q (k + 1)) W6) := by
          show MineN _ _ _ _
          rw [HIN.out]; exact HM6.out
        clear hf
        go_wp2_with fail
        go_roundw
        case rel => exact ⟨u, k + 1, rfl, by omega, by rw [HCO.out]; rfl, by go_num, HM9.out, HB6.out⟩
        case measure => simp [intOf]; omega
    · obtain rfl : k = n := by omega
      have tk : ¬ (k : Int) < (k : Int) := by omega
      have hto := HT.out.below HB1.out
      have HG1 := Lib.hid (tget_out (-1) wr fun X hX => by
        have := has_any (-1) (hto.below hX)
        rwa [inB_no (by omega)] at this)
      obtain ⟨zz, hzz⟩ : ∃ z, zT = z := ⟨_, rfl⟩
      have hzl : zz.length = 29 := by rw [← hzz]; rfl
      have hzo : OkT zz := by rw [← hzz]; exact zT_ok
      have HZO := Lib.hid hzo; have HZL := Lib.hid hzl; have HZZ := Lib.hid hzz
      rw [hzz] at HG1
      clear hto hzz hk hlt
      go_wp2_with fail
      refine HG1.out.mono ?_
      rintro e w5 ⟨rfl, h5⟩
      dsimp only
      have hst := run_storeCells_new (P := Try.prog) w5 38 #[.int .i64 0, .int .i64 0, .int .i32 0, .int .i32 0, .int .i32 0, .int .i32 0, .int .i64 0, .int .u64 0, .int .u64 0, .int .u64 0, .int .u64 0, .int .u64 0, .int .u64 0, .int .u64 0, .int .u64 0, .int .u64 0, .int .u64 0, .int .u64 0, .int .u64 0, .int .u64 0, .int .u64 0, .int .u64 0, .int .u64 0, .int .i64 0, .int .i64 0, .int .i64 0, .int .i64 0, .int .i64 0, .int .i64 0] zz.toArray (infoT.trans (congrArg some (by rw [List.size_toArray, hzl]))) (Eq.trans (show _ = 29 from rfl) (by rw [List.size_toArray, hzl])) (all_oneCell_toArray hzo.one)
      have hal : Below w5.heap.size w5 (w5.alloc (.cells zz.toArray 38)) := (Below.refl _ _).alloc (Nat.le_refl _) _
      have h46 := h5.trans (hal.mono h5.size)
      have HM6 := Lib.hid (HM.out.on h46)
      have HB6 := Lib.hid (HB.out.trans (h46.mono HB.out.size))
      clear hal h46 h5 HG1 HM HB HB1
      go_upto_region 17 with fail
      clear hst hzo hzl
      generalize w5.alloc (.cells zz.toArray 38) = W6 at *
      generalize w5.heap.size = xb at *
      have HB16 : Hid (Below W1.heap.size W1 W6) := Lib.hid (HB3.out.trans (HB6.out.mono HB3.out.size))
      have hto := HT.out.below HB16.out
      have c1 := (HD.out.below HB16.out).cells.2.1
      rw [HAL2.out] at c1
      have HG2 := Lib.hid (tget_out (k : Int) W6 fun X hX => by
        have := has_any (k : Int) (hto.below hX)
        rwa [inB_no (by rw [HN.out]; omega)] at this)
      rw [HZZ.out] at HG2
      clear hto
      go_wp2_with fail
      refine HG2.out.mono ?_
      rintro e w7 ⟨rfl, h7⟩
      dsimp only
      have hzl := HZL.out; have hzo := HZO.out
      have hst := run_storeCells_new (P := Try.prog) w7 38 #[.int .i64 0, .int .i64 0, .int .i32 0, .int .i32 0, .int .i32 0, .int .i32 0, .int .i64 0, .int .u64 0, .int .u64 0, .int .u64 0, .int .u64 0, .int .u64 0, .int .u64 0, .int .u64 0, .int .u64 0, .int .u64 0, .int .u64 0, .int .u64 0, .int .u64 0, .int .u64 0, .int .u64 0, .int .u64 0, .int .u64 0, .int .i64 0, .int .i64 0, .int .i64 0, .int .i64 0, .int .i64 0, .int .i64 0] zz.toArray (infoT.trans (congrArg some (by rw [List.size_toArray, hzl]))) (Eq.trans (show _ = 29 from rfl) (by rw [List.size_toArray, hzl])) (all_oneCell_toArray hzo.one)
      have hal : Below w7.heap.size w7 (w7.alloc (.cells zz.toArray 38)) := (Below.refl _ _).alloc (Nat.le_refl _) _
      have h46 := h7.trans (hal.mono h7.size)
      have HM8 := Lib.hid (HM6.out.on h46)
      have HB8 := Lib.hid (HB6.out.trans (h46.mono HB6.out.size))
      clear hal h46 h7 HG2 HM6 HB6 HB16 c1
      go_upto_region 18 with fail
      clear hst hzo hzl
      generalize w7.alloc (.cells zz.toArray 38) = W8 at *
      generalize w7.heap.size = zb at *
      have hb18 : Below W1.heap.size W1 W8 := HB3.out.trans (HB8.out.mono HB3.out.size)
      have HT8 := Lib.hid (HT.out.below hb18)
      obtain ⟨y26, y27⟩ := HOB.out _ hb18
      have HI8 := Lib.hid (tin_any s q HT8.out)
      rw [HN.out] at HI8
      have hll := inL_len ts s q k
      have HLL : Hid ((inL ts s q k).length ≤ 100000) := Lib.hid (by omega)
      have HB18 : Hid (Below W.heap.size W W8) := Lib.hid (HAL.out.trans (hb18.mono HAL.out.size))
      obtain ⟨Au, capu, rfl, nu⟩ := HM8.out.nums
      have HNU := Lib.hid nu
      have HC8 : Hid (∀ X, Below W8.heap.size W8 X → Calls Try.prog 26 #[.pointer (some ⟨b, 0, none⟩), .int .i64 s] X fun e w' => e = .returned (.int .i64 (coL ts s k : Nat)) ∧ X = w') := Lib.hid fun X hX => by
        have := tcount_any s (HT8.out.below hX)
        rwa [HN.out] at this
      have HZ26 : Hid (∀ X, Below W8.heap.size W8 X → X.cell? ⟨W.heap.size, 26, none⟩ = some (.int .i64 s)) := Lib.hid fun X hX => (HOB.out X (hb18.trans (hX.mono hb18.size))).1
      clear nu hb18 hll HM8 HB8
      generalize inL ts s q k = L at *
      generalize coL ts s k = cn at *
      have tc : ((cn : Int) == (cn : Int)) = true := by simp
      go_wp2_with (first
        | (go_at_call 25; (with_reducible refine HI8.out.mono ?_); rintro e w9 ⟨u9, rfl, m9, b9⟩; obtain ⟨A9, cap9, rfl, n9⟩ := m9.nums; have HB9 := Lib.hid b9; have HS9 := Lib.hid (same04_yes A9 Au L cap9 capu w9 HLL.out n9 (HNU.out.below b9)); clear m9 n9 b9)
        | (go_at_call 46; (with_reducible refine HS9.out.mono ?_); rintro e w10 ⟨rfl, b10⟩; have HB10 := Lib.hid (HB9.out.trans (b10.mono HB9.out.size)); have HC10 := Lib.hid (HC8.out w10 HB10.out); have z26 := HZ26.out w10 HB10.out; clear b10)
        | (go_at_call 26; (with_reducible refine HC10.out.mono ?_); rintro e wq ⟨rfl, rfl⟩))
      go_ret
      exact ⟨rfl, HB18.out.trans (HB10.out.mono HB18.out.size)⟩
end
end Go.Proofs.Ytdlncbndhljhfaa
