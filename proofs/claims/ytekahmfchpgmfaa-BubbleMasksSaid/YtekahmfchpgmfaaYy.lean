/- BubbleMasks' walk (layer 13). -/
import Derived.Test.YtekahmfchpgmfaaYw
import Derived.Test.YtekahmfchpgmfaaYx
import Derived.Test.YtekahmfchpgmfaaZo
import Derived.Test.YtekahmfchpgmfaaYr
import Derived.Test.YtekahmfchpgmfaaZx
import Derived.Test.YtekahmfchpgmfaaSh
namespace Go.Proofs.Ytekahmfchpgmfaa
open Go.RowKit
set_option maxRecDepth 100000
/-- A bubble's workers are among those of the one in which it lies. -/
theorem mask_in {bs : List Bub} (hI : InvB bs) {k u : Nat} {x : Bub} (hx : bs[k]? = some x) (hu : x.up = (u : Int)) : (fun n => maskP bs (k : Int) n && !maskP bs (u : Int) n) = fun _ => false := by
  funext n
  rw [maskP_eq, maskP_eq, way_yes hI hx, hu]
  unfold allP
  rw [List.all_cons]
  cases (atB bs (k : Int)).mask n <;> cases ((way bs (u : Int)).all fun j => (atB bs j).mask n) <;> rfl
theorem j10_start (w : World) (val : Nat → Value) (T : Nat → Bool) (v : Nat → Value) : J10 w val T (Array.replicate 18 false) v { w with drawn := w.drawn + 1 } := by
  have no : ∀ k, ¬ OnL (Array.replicate 18 false) k := fun k h => by
    unfold OnL at h
    rw [Array.getElem?_replicate] at h
    split at h <;> cases h
  exact ⟨by simp, ⟨rfl, rfl, rfl, Nat.le_refl _, fun _ _ => rfl⟩, fun o _ h => absurd h (no o), fun o _ _ h => absurd h (no o), fun o _ _ _ _ _ _ h => absurd h (no o), fun h => absurd h (no 17)⟩
theorem step_load_int {ops : Array Oper} {o : Oper} {a : Act} {w : World} {K : Act → World → Prop} {Q : Exit → Act → World → Prop} {E : Prop} (hg : o.guard = none) (x : Operand) (ho : o.op = .load 3 x)
    (p : Addr) (n : Int) (hx : a.eval x = .pointer (some p)) (hc : w.cell? p = some (.int .i64 n)) (hK : K (a.put o.dst (.int .i64 n)) w) : if Region.wanted o (yielded ops a.tmps) = true then Oper.wp Try.prog o a w K Q else E := by
  rw [if_pos (by simp [Region.wanted, hg])]
  have hr := run_load_int w p n hc
  unfold Oper.wp execOp
  simp only [ho, hx, Sem.run_bind, Sem.run_pure, Result.andThen_ok, hr]
  exact hK
theorem store_bubM (x : Bub) (W : World) : (storeCells ⟨W.heap.size, 0, none⟩ (bubL x).toArray.toList 0).run Try.prog (W.alloc (.cells #[.int .i64 0, .int .u64 0, .int .u64 0, .int .u64 0, .int .u64 0, .int .u64 0, .int .u64 0, .int .u64 0, .int .u64 0, .int .u64 0, .int .u64 0, .int .u64 0, .int .u64 0, .int .u64 0, .int .u64 0, .int .u64 0, .int .u64 0, .int .i64 0, .int .i64 0] 30)) = .ok () (W.alloc (.cells (bubL x).toArray 30)) :=
  run_storeCells_new W 30 _ _ (infoB.trans (congrArg some (by rw [List.size_toArray, bubL_len]))) (Eq.trans (show _ = 19 from rfl) (by rw [List.size_toArray, bubL_len])) (all_one (bubL_one x))
set_option maxHeartbeats 20000000 in
theorem masks13_any (A : Option Addr) (l : List OpB) (cap : Nat) (w : World) (hml : l.length ≤ cap ∧ l.length ≤ maxLen) (hI : OpsB w A l) :
    Calls Try.prog 3 #[.slice A l.length cap] w (GotB w.heap.size (.bool true) w) := by
  have HR := Lib.hid (run13_any QuB qu_nil (fun _ o hI hQ => qu_do hI hQ o) A l cap w hml.2 hI)
  clear hI hml
  generalize l.length = N at *
  go_enter Try.func3, Try.ntmps3
  go_wp2_with fail
  refine HR.out.mono ?_
  rintro e w1 ⟨fb, v, bs, rfl, h1, hq1⟩
  dsimp only
  have HO1 := Lib.hid h1; have HQ1 := Lib.hid hq1
  clear h1 HR hq1
  obtain ⟨n, hn⟩ : ∃ n, bs.length = n := ⟨_, rfl⟩
  have HLN := Lib.hid hn
  rw [hn]
  have hn32 : n ≤ 32 := by have := HO1.out.tab.inv.len; omega
  clear hn
  go_wp2_with fail
  go_loopw [5, 6, 7, 8, 9, 10, 11, 12, 19] (fun s5 s6 s7 s8 s9 s10 s11 s12 iv wr => ∃ k : Nat, iv = .int .i64 (k : Int) ∧ k ≤ n ∧ Below w1.heap.size w1 wr ∧ s5 = s5 ∧ s6 = s6 ∧ s7 = s7 ∧ s8 = s8 ∧ s9 = s9 ∧ s10 = s10 ∧ s11 = s11 ∧ s12 = s12) (fun _ _ _ _ _ _ _ _ iv _ => n - (intOf iv).toNat)
  case atStart => exact ⟨0, rfl, by omega, Below.refl _ _, rfl, rfl, rfl, rfl, rfl, rfl, rfl, rfl⟩
  case round =>
    obtain ⟨k, rfl, hk, hb, -⟩ := hrel
    have HB := Lib.hid hb; clear hb
    by_cases hlt : k < n
    · obtain ⟨x, hx⟩ : ∃ x, bs[k]? = some x := ⟨_, List.getElem?_eq_getElem (by have := HLN.out; omega)⟩
      have HX := Lib.hid hx
      have HG := Lib.hid (fget_at hx (HO1.out.tab.below HB.out))
      have k1 : (k : Int) < (n : Int) := by omega
      clear hx
      go_wp2_with fail
      refine HG.out.mono ?_
      rintro e w2 ⟨rfl, h2⟩
      dsimp only
      have hst := store_bubM x w2
      have hup := HO1.out.tab.inv.up k x HX.out
      have hal : Below w2.heap.size w2 (w2.alloc (.cells (bubL x).toArray 30)) := (Below.refl _ _).alloc (Nat.le_refl _) _
      have hbx := Blk.new w2 30 (bubL x).toArray
      have HB2 := Lib.hid (HB.out.trans (h2.mono HB.out.size))
      have HB3 := Lib.hid (HB2.out.trans (hal.mono HB2.out.size))
      have HBX := Lib.hid hbx
      have y0 : (w2.alloc (.cells (bubL x).toArray 30)).cell? ⟨w2.heap.size, 0, none⟩ = some (.int .i64 x.up) := (hbx.cell 0).trans rfl
      have y2 : (w2.alloc (.cells (bubL x).toArray 30)).cell? ⟨w2.heap.size, 17, none⟩ = some (.int .i64 x.state) := (hbx.cell 17).trans (by simpa using bubL_17 x)
      have q1 : decide ((k : Int) ≤ x.up) = false := by simp; omega
      clear h2 HG hal hbx
      go_upto_region 6 with fail
      clear hst
      by_cases hu0 : x.up < 0
      · go_wp2_with fail
        go_roundw
        case rel => exact ⟨k + 1, by go_num, by omega, HB3.out, by trivial, by trivial, by trivial, by trivial, by trivial, by trivial, by trivial, by trivial⟩
        case measure => simp [intOf]; omega
      · obtain ⟨u, hu⟩ : ∃ u : Nat, x.up = u := ⟨x.up.toNat, by omega⟩
        obtain ⟨y, hy⟩ : ∃ y, bs[u]? = some y := ⟨_, List.getElem?_eq_getElem (by have := HLN.out; omega)⟩
        have HY := Lib.hid hy
        have hku : u < k := by have := hup.2; omega
        have q2 : decide (k ≤ u) = false := by simpa using hku
        have q3 : ¬ ((u : Int) < 0) := by omega
        clear q1
        rw [hu] at y0
        clear hu0
        have HU := Lib.hid hu
        have HG := Lib.hid (fget_at hy (HO1.out.tab.below HB3.out))
        clear hu hy
        go_wp2_with fail
        refine HG.out.mono ?_
        rintro e w4 ⟨rfl, h4⟩
        dsimp only
        have hst := store_bubM y w4
        have hal : Below w4.heap.size w4 (w4.alloc (.cells (bubL y).toArray 30)) := (Below.refl _ _).alloc (Nat.le_refl _) _
        have hby := Blk.new w4 30 (bubL y).toArray
        have HB4 := Lib.hid (HB3.out.trans (h4.mono HB3.out.size))
        have HB5 := Lib.hid (HB4.out.trans (hal.mono HB4.out.size))
        have HBY := Lib.hid hby
        have hbx5 := (HBX.out.below h4 HBX.out.lt).below hal (Nat.lt_of_lt_of_le HBX.out.lt h4.size)
        have HBX5 := Lib.hid hbx5
        clear h4 HG hal hby hbx5 y0 y2
        go_upto_region 10 with fail
        clear hst
        have hxl : w2.heap.size < (w4.alloc (.cells (bubL y).toArray 30)).heap.size := HBX5.out.lt
        have hyl : w4.heap.size < (w4.alloc (.cells (bubL y).toArray 30)).heap.size := HBY.out.lt
        have X0 : Hid (∀ W, Below (w4.alloc (.cells (bubL y).toArray 30)).heap.size (w4.alloc (.cells (bubL y).toArray 30)) W → W.cell? ⟨w2.heap.size, 0, none⟩ = some (.int .i64 (u : Int))) := fun W hW => by
          rw [← HU.out]; exact ((HBX5.out.below hW hxl).cell 0).trans rfl
        have X17 : Hid (∀ W, Below (w4.alloc (.cells (bubL y).toArray 30)).heap.size (w4.alloc (.cells (bubL y).toArray 30)) W → W.cell? ⟨w2.heap.size, 17, none⟩ = some (.int .i64 x.state)) := fun W hW => ((HBX5.out.below hW hxl).cell 17).trans (by simpa using bubL_17 x)
        have Y17 : Hid (∀ W, Below (w4.alloc (.cells (bubL y).toArray 30)).heap.size (w4.alloc (.cells (bubL y).toArray 30)) W → W.cell? ⟨w4.heap.size, 17, none⟩ = some (.int .i64 y.state)) := fun W hW => ((HBY.out.below hW hyl).cell 17).trans (by simpa using bubL_17 y)
        have TAB : Hid (∀ W, Below (w4.alloc (.cells (bubL y).toArray 30)).heap.size (w4.alloc (.cells (bubL y).toArray 30)) W → ForC fb v bs W) := fun W hW => HO1.out.tab.below (HB5.out.trans (hW.mono HB5.out.size))
        have hM1 : ∀ W, Below (w4.alloc (.cells (bubL y).toArray 30)).heap.size (w4.alloc (.cells (bubL y).toArray 30)) W → Calls Try.prog 11 #[.pointer (some ⟨fb, 0, none⟩), .int .i64 (k : Int)] W fun e w' => e = .returned (.agg (cellsOf (maskP bs (k : Int)))) ∧ Below W.heap.size W w' := fun W hW => fmask_any _ (TAB.out W hW)
        have hM2 : ∀ W, Below (w4.alloc (.cells (bubL y).toArray 30)).heap.size (w4.alloc (.cells (bubL y).toArray 30)) W → Calls Try.prog 11 #[.pointer (some ⟨fb, 0, none⟩), .int .i64 (u : Int)] W fun e w' => e = .returned (.agg (cellsOf (maskP bs (u : Int)))) ∧ Below W.heap.size W w' := fun W hW => fmask_any _ (TAB.out W hW)
        have hM3 : (fun n => maskP bs (k : Int) n && !maskP bs (u : Int) n) = fun _ => false := mask_in HO1.out.tab.inv HX.out HU.out
        have HM3 := Lib.hid hM3
        generalize maskP bs (k : Int) = M1 at *
        generalize maskP bs (u : Int) = M2 at *
        have HM1 := Lib.hid hM1; have HM2 := Lib.hid hM2
        clear hM1 hM2 hM3 hxl hyl HBX5 HBX HBY
        generalize w4.alloc (.cells (bubL y).toArray 30) = w5 at *
        generalize w2.heap.size = xb at *
        generalize w4.heap.size = yb at *
        generalize bubL x = X at *
        generalize bubL y = Y at *
        obtain ⟨AV, hAV⟩ : ∃ f : (Nat → Value) → Act, f = fun q => { tmps := #[.slice A N cap, undef, u2, .pointer (some ⟨fb, 0, none⟩), .int .i64 ↑n, .int .i64 ↑k, .pointer (some ⟨xb, 0, none⟩), .bool true, .pointer (some ⟨yb, 0, none⟩), .bool true, (q 10), (q 11), (q 12), .tuple #[.pointer (some ⟨fb, 0, none⟩), .int .i64 ↑n], .slice A N cap, .tuple #[.pointer (some ⟨fb, 0, none⟩), .int .i64 ↑n], .pointer (some ⟨fb, 0, none⟩), .int .i64 ↑n, .int .i64 ↑n, .int .i64 ↑k, .bool true, .int .i64 ↑k, .tuple #[.agg X.toArray, .bool true], .pointer (some ⟨fb, 0, none⟩), .int .i64 ↑k, .tuple #[.agg X.toArray, .bool true], .agg X.toArray, .bool true, .bool true, .bool false, .bool false, .pointer (some ⟨xb, 0, none⟩), .int .i64 ↑u, .int .i64 ↑k, .bool false, .bool false, .pointer (some ⟨xb, 0, none⟩), .int .i64 ↑u, .bool false, .tuple #[.agg Y.toArray, .bool true], .pointer (some ⟨fb, 0, none⟩), .pointer (some ⟨xb, 0, none⟩), .int .i64 ↑u, .tuple #[.agg Y.toArray, .bool true], .agg Y.toArray, .bool true, (q 46), (q 47), (q 48), (q 49), (q 50), (q 51), (q 52), (q 53), (q 54), (q 55), (q 56), (q 57), u58, u59, u60, u61, u62, u63, u64, u65, u66, u67, u68, u69, u70, u71, undef], defers := [] } := ⟨_, rfl⟩
        obtain ⟨val, hval⟩ : ∃ f : Nat → Value, f = fun o => [.pointer (some ⟨fb, 0, none⟩), .int .i64 (k : Int), .agg (cellsOf M1), .pointer (some ⟨fb, 0, none⟩), .pointer (some ⟨xb, 0, none⟩), .int .i64 (u : Int), .agg (cellsOf M2), .tuple #[.agg (cellsOf (fun n => M1 n && M2 n)), .agg (cellsOf (fun n => M1 n || M2 n)), .agg (cellsOf (fun n => M1 n && !M2 n))], .tuple #[.agg (cellsOf (fun n => M1 n && M2 n)), .agg (cellsOf (fun n => M1 n || M2 n)), .agg (cellsOf (fun n => M1 n && !M2 n))], .agg (cellsOf (fun n => M1 n && M2 n)), .agg (cellsOf (fun n => M1 n || M2 n)), .agg (cellsOf (fun n => M1 n && !M2 n))].getD o undef := ⟨_, rfl⟩
        refine wp_region_steps (J := fun L a W => ∃ q, a = AV q ∧ J10 w5 val (fun n => M1 n && !M2 n) L q W) (by kernel_rfl) ?_ ?_ ?_ (fun L a W h => h.elim fun q h => h.2.sz) (by kernel_rfl)
        · refine ⟨fun s => [(10, u10), (11, u11), (12, u12), (46, u46), (47, u47), (48, u48), (49, u49), (50, u50), (51, u51), (52, u52), (53, u53), (54, u54), (55, u55), (56, u56), (57, u57)].lookup s |>.getD undef, by subst hAV; rfl, j10_start _ _ _ _⟩
        · intro L a W ⟨q, ha, hJ⟩ i o ho hi K' hK
          have hi18 : i < 18 := ready_lt hi
          subst ha
          subst hval
          subst hAV
          rcases (by omega : i = 0 ∨ i = 1 ∨ i = 2 ∨ i = 3 ∨ i = 4 ∨ i = 5 ∨ i = 6 ∨ i = 7 ∨ i = 8 ∨ i = 9 ∨ i = 10 ∨ i = 11 ∨ i = 12 ∨ i = 13 ∨ i = 14 ∨ i = 15 ∨ i = 16 ∨ i = 17) with rfl | rfl | rfl | rfl | rfl | rfl | rfl | rfl | rfl | rfl | rfl | rfl | rfl | rfl | rfl | rfl | rfl | rfl
          · cases ho
            go_simp
            exact hK _ _ ⟨updV q 47 (.pointer (some ⟨fb, 0, none⟩) : Value), by simp [updV], hJ.pure (o := 0) (by omega) rfl (Below.refl _ _)⟩
          · cases ho
            go_simp
            exact hK _ _ ⟨updV q 48 (.int .i64 (k : Int) : Value), by simp [updV], hJ.pure (o := 1) (by omega) rfl (Below.refl _ _)⟩
          · cases ho
            have e47 : q 47 = (.pointer (some ⟨fb, 0, none⟩) : Value) := hJ.pv 0 (by omega) (ready_dep hi 0 (by kernel_rfl))
            have e48 : q 48 = (.int .i64 (k : Int) : Value) := hJ.pv 1 (by omega) (ready_dep hi 1 (by kernel_rfl))
            simp only [e47, e48]
            go_simp
            refine (HM1.out W hJ.bl).mono ?_
            rintro e W' ⟨rfl, hb⟩
            dsimp only
            exact hK _ _ ⟨updV q 49 (.agg (cellsOf M1) : Value), by simp [updV, e47, e48], hJ.pure (o := 2) (by omega) rfl hb⟩
          · cases ho
            go_simp
            exact hK _ _ ⟨updV q 50 (.pointer (some ⟨fb, 0, none⟩) : Value), by simp [updV], hJ.pure (o := 3) (by omega) rfl (Below.refl _ _)⟩
          · cases ho
            go_simp
            exact hK _ _ ⟨updV q 51 (.pointer (some ⟨xb, 0, none⟩) : Value), by simp [updV], hJ.pure (o := 4) (by omega) rfl (Below.refl _ _)⟩
          · cases ho
            have e51 : q 51 = (.pointer (some ⟨xb, 0, none⟩) : Value) := hJ.pv 4 (by omega) (ready_dep hi 4 (by kernel_rfl))
            refine step_load_int rfl _ rfl ⟨xb, 0, none⟩ (u : Int) (by simp [Act.eval, e51]) (X0.out W hJ.bl) ?_
            exact hK _ _ ⟨updV q 52 (.int .i64 (u : Int) : Value), by simp [updV, Act.put, e51], hJ.pure (o := 5) (by omega) rfl (Below.refl _ _)⟩
          · cases ho
            have e50 : q 50 = (.pointer (some ⟨fb, 0, none⟩) : Value) := hJ.pv 3 (by omega) (ready_dep hi 3 (by kernel_rfl))
            have e52 : q 52 = (.int .i64 (u : Int) : Value) := hJ.pv 5 (by omega) (ready_dep hi 5 (by kernel_rfl))
            simp only [e50, e52]
            go_simp
            refine (HM2.out W hJ.bl).mono ?_
            rintro e W' ⟨rfl, hb⟩
            dsimp only
            exact hK _ _ ⟨updV q 53 (.agg (cellsOf M2) : Value), by simp [updV, e50, e52], hJ.pure (o := 6) (by omega) rfl hb⟩
          · cases ho
            have e49 : q 49 = (.agg (cellsOf M1) : Value) := hJ.pv 2 (by omega) (ready_dep hi 2 (by kernel_rfl))
            have e53 : q 53 = (.agg (cellsOf M2) : Value) := hJ.pv 6 (by omega) (ready_dep hi 6 (by kernel_rfl))
            simp only [e49, e53]
            go_simp
            refine (three_any M1 M2 W).mono ?_
            rintro e W' ⟨rfl, hb⟩
            dsimp only
            exact hK _ _ ⟨updV q 54 (.tuple #[.agg (cellsOf (fun n => M1 n && M2 n)), .agg (cellsOf (fun n => M1 n || M2 n)), .agg (cellsOf (fun n => M1 n && !M2 n))] : Value), by simp [updV, e49, e53], hJ.pure (o := 7) (by omega) rfl hb⟩
          · cases ho
            have e54 : q 54 = (.tuple #[.agg (cellsOf (fun n => M1 n && M2 n)), .agg (cellsOf (fun n => M1 n || M2 n)), .agg (cellsOf (fun n => M1 n && !M2 n))] : Value) := hJ.pv 7 (by omega) (ready_dep hi 7 (by kernel_rfl))
            simp only [e54]
            go_simp
            exact hK _ _ ⟨updV q 46 (.tuple #[.agg (cellsOf (fun n => M1 n && M2 n)), .agg (cellsOf (fun n => M1 n || M2 n)), .agg (cellsOf (fun n => M1 n && !M2 n))] : Value), by simp [updV, e54], hJ.pure (o := 8) (by omega) rfl (Below.refl _ _)⟩
          · cases ho
            have e46 : q 46 = (.tuple #[.agg (cellsOf (fun n => M1 n && M2 n)), .agg (cellsOf (fun n => M1 n || M2 n)), .agg (cellsOf (fun n => M1 n && !M2 n))] : Value) := hJ.pv 8 (by omega) (ready_dep hi 8 (by kernel_rfl))
            simp only [e46]
            go_simp
            exact hK _ _ ⟨updV q 55 (.agg (cellsOf (fun n => M1 n && M2 n)) : Value), by simp [updV, e46], hJ.pure (o := 9) (by omega) rfl (Below.refl _ _)⟩
          · cases ho
            have e46 : q 46 = (.tuple #[.agg (cellsOf (fun n => M1 n && M2 n)), .agg (cellsOf (fun n => M1 n || M2 n)), .agg (cellsOf (fun n => M1 n && !M2 n))] : Value) := hJ.pv 8 (by omega) (ready_dep hi 8 (by kernel_rfl))
            simp only [e46]
            go_simp
            exact hK _ _ ⟨updV q 56 (.agg (cellsOf (fun n => M1 n || M2 n)) : Value), by simp [updV, e46], hJ.pure (o := 10) (by omega) rfl (Below.refl _ _)⟩
          · cases ho
            have e46 : q 46 = (.tuple #[.agg (cellsOf (fun n => M1 n && M2 n)), .agg (cellsOf (fun n => M1 n || M2 n)), .agg (cellsOf (fun n => M1 n && !M2 n))] : Value) := hJ.pv 8 (by omega) (ready_dep hi 8 (by kernel_rfl))
            simp only [e46]
            go_simp
            exact hK _ _ ⟨updV q 57 (.agg (cellsOf (fun n => M1 n && !M2 n)) : Value), by simp [updV, e46], hJ.pure (o := 11) (by omega) rfl (Below.refl _ _)⟩
          · cases ho
            have hnew := hJ.new (o := 12) (by omega) (by omega) (ready_not hi) (fun _ => false)
            rw [cellsOf_zero] at hnew
            go_simp
            exact hK _ _ ⟨updV q 10 (.pointer (some ⟨W.heap.size, 0, none⟩)), by simp [updV], hnew⟩
          · cases ho
            have hnew := hJ.new (o := 13) (by omega) (by omega) (ready_not hi) (fun _ => false)
            rw [cellsOf_zero] at hnew
            go_simp
            exact hK _ _ ⟨updV q 11 (.pointer (some ⟨W.heap.size, 0, none⟩)), by simp [updV], hnew⟩
          · cases ho
            have hnew := hJ.new (o := 14) (by omega) (by omega) (ready_not hi) (fun _ => false)
            rw [cellsOf_zero] at hnew
            go_simp
            exact hK _ _ ⟨updV q 12 (.pointer (some ⟨W.heap.size, 0, none⟩)), by simp [updV], hnew⟩
          · cases ho
            have hon := ready_dep hi 12 (by kernel_rfl)
            have e55 : q 55 = (.agg (cellsOf (fun n => M1 n && M2 n)) : Value) := hJ.pv 9 (by omega) (ready_dep hi 9 (by kernel_rfl))
            obtain ⟨g, p, eg, hs⟩ := hJ.at_ (o := 12) (by omega) (by omega) hon
            refine step_st_set rfl _ _ rfl g (fun n => M1 n && M2 n) p (by simpa [Act.eval] using eg) (by simp [Act.eval, e55]) hs ?_
            exact hK _ _ ⟨q, by simp [Act.put], hJ.put (o := 15) (by omega) (by omega) hon eg hs (fun h => by first | rfl | cases h)⟩
          · cases ho
            have hon := ready_dep hi 13 (by kernel_rfl)
            have e56 : q 56 = (.agg (cellsOf (fun n => M1 n || M2 n)) : Value) := hJ.pv 10 (by omega) (ready_dep hi 10 (by kernel_rfl))
            obtain ⟨g, p, eg, hs⟩ := hJ.at_ (o := 13) (by omega) (by omega) hon
            refine step_st_set rfl _ _ rfl g (fun n => M1 n || M2 n) p (by simpa [Act.eval] using eg) (by simp [Act.eval, e56]) hs ?_
            exact hK _ _ ⟨q, by simp [Act.put], hJ.put (o := 16) (by omega) (by omega) hon eg hs (fun h => by first | rfl | cases h)⟩
          · cases ho
            have hon := ready_dep hi 14 (by kernel_rfl)
            have e57 : q 57 = (.agg (cellsOf (fun n => M1 n && !M2 n)) : Value) := hJ.pv 11 (by omega) (ready_dep hi 11 (by kernel_rfl))
            obtain ⟨g, p, eg, hs⟩ := hJ.at_ (o := 14) (by omega) (by omega) hon
            refine step_st_set rfl _ _ rfl g (fun n => M1 n && !M2 n) p (by simpa [Act.eval] using eg) (by simp [Act.eval, e57]) hs ?_
            exact hK _ _ ⟨q, by simp [Act.put], hJ.put (o := 17) (by omega) (by omega) hon eg hs (fun h => by first | rfl | cases h)⟩
        · intro L a W ⟨q, ha, hJ⟩ hall
          obtain ⟨hb, g, e12, hg, hs⟩ := hJ.done hall
          rw [HM3.out] at hs
          subst ha
          subst hAV
          dsimp only
          rw [e12]
          have HB6 := Lib.hid (HB5.out.trans (hb.mono HB5.out.size))
          have c17 := X17.out W hb
          have d17 := Y17.out W hb
          have HS : Hid (W.heap[g]? = some (.cells (cellsOf fun _ => false) 28 (0, 0))) := hs
          have hqs := HQ1.out k u x y HX.out HY.out HU.out
          have HQS := Lib.hid hqs
          have hz := cellsOf_zero.symm
          clear hJ hall e12 hs hb hg hqs HM1 HM2 HM3 TAB X0 X17 Y17
          generalize q 10 = q10 at *
          generalize q 11 = q11 at *
          generalize q 46 = q46 at *
          generalize q 47 = q47 at *
          generalize q 48 = q48 at *
          generalize q 49 = q49 at *
          generalize q 50 = q50 at *
          generalize q 51 = q51 at *
          generalize q 52 = q52 at *
          generalize q 53 = q53 at *
          generalize q 54 = q54 at *
          generalize q 55 = q55 at *
          generalize q 56 = q56 at *
          generalize q 57 = q57 at *
          have f1 : eqP (fun _ => false) (fun _ => false) = true := eqP_true.2 fun _ _ => rfl
          by_cases h4 : y.state = 4
          · have t1 : (y.state == 4) = true := by simpa using h4
            have t2 : (y.state != 4) = false := by simp [h4]
            clear h4
            go_wp2_with (first
              | (with_reducible (show wpList _ _ _ _ _ _); refine ld_set rfl (.tmp 12) rfl g rfl _ HS.out ?_)
              | (with_reducible (show wpList _ _ _ _ _ _); refine neq_set rfl (.tmp 58) (.tmp 59) _ rfl (fun _ => false) (fun _ => false) rfl rfl ?_; rw [f1]))
            go_roundw
            case rel => exact ⟨k + 1, by go_num, by omega, HB6.out, by trivial, by trivial, by trivial, by trivial, by trivial, by trivial, by trivial, by trivial⟩
            case measure => simp [intOf]; omega
          · have t1 : (y.state == 4) = false := by simpa using h4
            have t2 : (y.state != 4) = true := by simp [h4]
            have t3 : decide (3 ≤ x.state) = false := by have := HQS.out h4; simp; omega
            clear h4
            go_wp2_with (first
              | (with_reducible (show wpList _ _ _ _ _ _); refine ld_set rfl (.tmp 12) rfl g rfl _ HS.out ?_)
              | (with_reducible (show wpList _ _ _ _ _ _); refine neq_set rfl (.tmp 58) (.tmp 59) _ rfl (fun _ => false) (fun _ => false) rfl rfl ?_; rw [f1]))
            go_roundw
            case rel => exact ⟨k + 1, by go_num, by omega, HB6.out, by trivial, by trivial, by trivial, by trivial, by trivial, by trivial, by trivial, by trivial⟩
            case measure => simp [intOf]; omega
    · obtain rfl : k = n := by omega
      have tk : ¬ (k : Int) < (k : Int) := by omega
      have HBW := Lib.hid (HO1.out.below.trans (HB.out.mono HO1.out.below.size))
      clear hlt hk
      go_wp2_with (go_at_call 12; (with_reducible refine (lives13_any _).mono ?_); rintro e w9 ⟨rfl, h9⟩; have H9 := Lib.hid h9; clear h9)
      go_ret
      exact ⟨rfl, HBW.out.trans (H9.out.mono HBW.out.size)⟩
end Go.Proofs.Ytekahmfchpgmfaa
