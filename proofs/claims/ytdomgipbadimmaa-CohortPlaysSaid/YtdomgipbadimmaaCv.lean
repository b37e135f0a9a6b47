/- Another socket's row has the lock next: leave (layer 14). -/
import Derived.Test.YtdomgipbadimmaaCk
import Derived.Test.YtdomgipbadimmaaCl
import Derived.Deep.MidRow
namespace Go.Proofs.Ytdomgipbadimmaa
open Go.RowKit
set_option maxRecDepth 100000

theorem infoRowS : (Try.prog.info? 105).map (·.size) = some 2 := by kernel_rfl
theorem step_load_row {ops : Array Oper} {o : Oper} {a : Act} {w : World} {K : Act → World → Prop} {Q : Exit → Act → World → Prop} {E : Prop} (hg : o.guard = none) (x : Operand) (ho : o.op = .load 105 x)
    (b : Nat) (s : Int) (tv : Value) (hx : a.eval x = .pointer (some ⟨b, 0, none⟩)) (hb : Blk w b 105 #[.int .i64 s, tv]) (hK : K (a.put o.dst (.agg #[.int .i64 s, tv])) w) : if Region.wanted o (yielded ops a.tmps) = true then Oper.wp Try.prog o a w K Q else E := by
  rw [if_pos (by simp [Region.wanted, hg])]
  have c0 := hb.cell 0; have c1 := hb.cell 1
  simp only [List.getElem?_toArray, List.getElem?_cons_zero, List.getElem?_cons_succ] at c0 c1
  have hr : (Instr.loadAt 105 (.pointer (some ⟨b, 0, none⟩))).run Try.prog w = .ok (.agg #[.int .i64 s, tv]) w := by
    refine run_loadAt_mid (P := Try.prog) w b 0 105 [.int .i64 s, tv] _ (fun j u hj => ?_) Try.underlying105 rfl infoRowS
    match j, hj with
    | 0, hj => cases hj; exact c0
    | 1, hj => cases hj; exact c1
    | j + 2, hj => simp at hj
  unfold Oper.wp execOp
  simp only [ho, hx, Sem.run_bind, Sem.run_pure, Result.andThen_ok, hr]
  exact hK
theorem lockV_leave {cs : Array Value} {i : Nat} {c : Coh} {rv : Value} (h : LockV cs i c rv) (s : Int) : LockV ((cs.setIfInBounds (4 * i + 1) (.int .i64 s)).setIfInBounds (4 * i + 2) (.int .i64 0)) i { c with soc := s, pas := 0 } rv := by
  have hl := h.lt
  refine ⟨?_, ?_, ?_, ?_⟩
  · rw [Array.getElem?_setIfInBounds, if_neg (by omega), Array.getElem?_setIfInBounds, if_neg (by omega)]; exact h.c0
  · rw [Array.getElem?_setIfInBounds, if_neg (by omega), Array.getElem?_setIfInBounds, if_pos rfl, if_pos (by omega)]
  · rw [Array.getElem?_setIfInBounds, if_pos rfl, if_pos (by simp; omega)]
  · rw [Array.getElem?_setIfInBounds, if_neg (by omega), Array.getElem?_setIfInBounds, if_neg (by omega)]; exact h.c3
theorem cutR2_len (i : Nat) (L : List CRow) : (cutR2 i L).length ≤ L.length := by
  induction L generalizing i with
  | nil => cases i <;> simp [cutR2]
  | cons r l ih =>
    cases i with
    | zero => unfold cutR2; split <;> simp
    | succ i => simp only [cutR2, List.length_cons]; have := ih i; omega
section
variable {w : World} {lb : Nat} {lab : Nat → LabC} {i : Nat} {c : Coh} {cs : Array Value} {rv : Value}
set_option maxHeartbeats 8000000 in
theorem leave_any {A C : List CRow} {s x : Int} {ts : List Int} (h : LockM w lb lab i c cs rv) (hc : c.rnd = A ++ (s, x :: ts) :: C) (hl : ts.length ≤ 1000) (hrl : c.rnd.length ≤ 1000) :
    Calls Try.prog 70 #[.pointer (some ⟨lb, 4 * i, none⟩), .int .i64 (A.length : Int)] w fun e w' => e = .returned (.tuple #[]) ∧ ∃ lab', TurnC lb lab lab' i (leaveC c A.length) cs w w' := by
  obtain ⟨c0, c1, c2, c3⟩ := h.cell
  obtain ⟨a, ha⟩ : ∃ a, A.length = a := ⟨_, rfl⟩
  have Q := Lib.hid (of_any c.soc w)
  have hal : But Nob w (w.alloc (.cells #[.int .i64 c.soc] 3)) := (But.refl _ _).alloc _
  have h1 := h.nob hal
  obtain ⟨g, cap, rcs, hrv, hn, hg, hk, hs, hrows⟩ := (hc ▸ h1.rnd).some_ (by simp)
  obtain ⟨r1, -⟩ := hrows A.length (s, x :: ts) (by simp)
  rw [ha] at r1
  obtain ⟨n, hnn⟩ : ∃ n, (A ++ (s, x :: ts) :: C).length = n := ⟨_, rfl⟩
  rw [hnn] at hrv
  have han : a < n := by rw [← hnn, ← ha]; simp
  have d3 := (h1.cell).2.2.2
  rw [hrv] at d3
  have d1 := (h1.cell).2.1
  have d2 := (h1.cell).2.2.1
  have e1 := h1.free (4 * i + 1)
  have e2 := h1.free (4 * i + 2)
  have rt : (w.alloc (.cells #[.int .i64 c.soc] 3)).cell? ⟨g, a * 2, none⟩ = some (.int .i64 s) := by rw [hk.cell, Nat.mul_comm]; exact r1
  have a0 : (0 : Int) ≤ (a : Int) := by omega
  have a1 : (a : Int) < (n : Int) := by omega
  have hq0 := Blk.new w 3 #[.int .i64 c.soc]
  have HL : Hid (lb < w.heap.size) := h.blk.lt
  have hno : lab w.heap.size = .no := h.fre _ (Nat.le_refl _)
  have H1 := Lib.hid h1; have HC := Lib.hid hc; have HA := Lib.hid ha; have HAL := Lib.hid hal; have HQ0 := Lib.hid hq0; have HNO := Lib.hid hno
  rw [ha]
  clear h h1 hc hal hq0 hno ha hrows r1 hrv hnn hk hs hg hn c0 c2 c3
  go_enter Try.func70, Try.ntmps70
  go_wp2_with fail
  refine Q.out.mono ?_
  rintro e w1 ⟨rfl, rfl⟩
  dsimp only
  clear c1 Q
  go_upto_region 2 with fail
  clear d1 d2 d3 e1 e2 rt
  have hb2 : But (fun k => k = lb) (w.alloc (.cells #[.int .i64 c.soc] 3)) (((w.alloc (.cells #[.int .i64 c.soc] 3)).setCell ⟨lb, 4 * i + 1, none⟩ (.int .i64 s)).setCell ⟨lb, 4 * i + 2, none⟩ (.int .i64 0)) := ((But.refl (fun k => k = lb) _).set ⟨lb, 4 * i + 1, none⟩ _ (.inl rfl)).set ⟨lb, 4 * i + 2, none⟩ _ (.inl rfl)
  have h2 : LockM (((w.alloc (.cells #[.int .i64 c.soc] 3)).setCell ⟨lb, 4 * i + 1, none⟩ (.int .i64 s)).setCell ⟨lb, 4 * i + 2, none⟩ (.int .i64 0)) lb lab i { c with soc := s, pas := 0 } ((cs.setIfInBounds (4 * i + 1) (.int .i64 s)).setIfInBounds (4 * i + 2) (.int .i64 0)) rv :=
    ⟨(H1.out.blk.set_ _ _).set_ _ _, lockV_leave H1.out.val s, H1.out.rnd.but hb2 (fun k q e => by subst e; rw [H1.out.own] at q; exact q) (fun _ _ => rfl), H1.out.own, fun k q => H1.out.fre k (Nat.le_trans hb2.size q)⟩
  have hq2 := HQ0.out.but hb2 (fun e => by have := HL.out; omega)
  have HB2 := Lib.hid hb2; have H2 := Lib.hid h2; have HQ2 := Lib.hid hq2
  have HO2 : Hid (OutC i cs ((cs.setIfInBounds (4 * i + 1) (.int .i64 s)).setIfInBounds (4 * i + 2) (.int .i64 0))) := (OutC.set_ (d := 1) (by omega) _).trans (OutC.set_ (d := 2) (by omega) _)
  clear hb2 h2 hq2
  generalize ((w.alloc (.cells #[.int .i64 c.soc] 3)).setCell ⟨lb, 4 * i + 1, none⟩ (.int .i64 s)).setCell ⟨lb, 4 * i + 2, none⟩ (.int .i64 0) = w2 at *
  have HT := Lib.hid (tell_any (A := A) (C := C) (s := s) (x := x) (ts := ts) H2.out HC.out hl hrl)
  rw [HA.out] at HT
  go_wp2_with fail
  refine HT.out.mono ?_
  rintro e w3 ⟨rfl, ⟨cs3, rv3, h3, ho3⟩, hb3, hu3⟩
  dsimp only
  have hq3 := HQ2.out.but hb3 (fun q => by
    rcases q with q | q
    · have := HL.out; omega
    · rw [HNO.out] at q; exact q)
  obtain ⟨c4, hc4⟩ : ∃ c4, tellC { c with soc := s, pas := 0 } a = c4 := ⟨_, rfl⟩
  rw [hc4] at h3
  have hc4r : c4.rnd = cutR2 a c.rnd := by rw [← hc4]; rfl
  have hleave : leaveC c a = { c4 with rnd := lastR c.soc c4.rnd } := by
    rw [← hc4]; unfold leaveC tellC
    rw [show socR c.rnd a = s by rw [HC.out, ← HA.out, socR_at]]
  have hlen4 : c4.rnd.length ≤ 1000 := by rw [hc4r]; have := cutR2_len a c.rnd; omega
  have hF := find_of c.soc hlen4 h3 w.heap.size (hq3.cell 0)
  obtain ⟨I, hI⟩ : ∃ I, idxR (ofR c.soc) c4.rnd 0 = I := ⟨_, rfl⟩
  rw [hI] at hF
  have HF := Lib.hid hF; have HI := Lib.hid hI; have HLV := Lib.hid hleave; have H3 := Lib.hid h3; have HO3 := Lib.hid ho3
  have HB3 : Hid (But (XLock lb lab i) w w3) := (HAL.out.nob.trans (HB2.out.mono fun k _ q => .inl q)).trans hb3
  clear hF hI hleave h3 ho3 hb3 hu3 hq3 hc4r hc4 HT H2 HQ2 HB2
  go_wp2_with fail
  refine HF.out.mono ?_
  rintro e w4 ⟨rfl, h4⟩
  dsimp only
  have H4 := Lib.hid (H3.out.below h4)
  have HB4 : Hid (But (XLock lb lab i) w w4) := HB3.out.trans (But.of_below h4)
  clear h4 HF H3 HB3
  rcases idxR_split (ofR c.soc) c4.rnd 0 with ⟨e, hnone⟩ | ⟨A2, r, C2, hL, e, hr, hA2⟩
  · have t1 : ¬ 0 ≤ I := by rw [← HI.out, e]; omega
    have HN := Lib.hid hnone
    clear e hnone
    go_wp2_with fail
    go_end0
    refine ⟨rfl, lab, ⟨cs3, rv3, ?_, HO2.out.trans HO3.out⟩, HB4.out, LabUp.refl _ _ _⟩
    rw [HLV.out, lastR_no HN.out]; exact H4.out
  · obtain ⟨s2, ts2⟩ := r
    have hs2 : s2 = c.soc := by simpa [ofR] using hr
    have hII : I = (A2.length : Int) := by rw [← HI.out, e]; simp
    subst hII
    have hr4 := H4.out.rnd
    rw [hL] at hr4
    obtain ⟨g2, cap2, rcs2, hrv2, hn2, hg2, hk2, hsz2, hrows2⟩ := hr4.some_ (by simp)
    obtain ⟨q1, tv2, q2, q3⟩ := hrows2 A2.length (s2, ts2) (by simp)
    obtain ⟨tA2, tcap2, htv2, -⟩ := q3.cut.slice
    generalize ts2.length = tl2 at htv2
    subst htv2
    obtain ⟨b, hb⟩ : ∃ b, A2.length = b := ⟨_, rfl⟩
    obtain ⟨m, hm⟩ : ∃ m, (A2 ++ (s2, ts2) :: C2).length = m := ⟨_, rfl⟩
    rw [hb] at q1 q2
    rw [hm] at hrv2
    have hbm : b < m := by rw [← hm, ← hb]; simp
    have hm1000 : m ≤ 1000 := by rw [← hm, ← hL]; exact hlen4
    have d3 := H4.out.cell.2.2.2
    rw [hrv2] at d3
    have r0 : w4.cell? ⟨g2, b * 2, none⟩ = some (.int .i64 s2) := by rw [hk2.cell, Nat.mul_comm]; exact q1
    have r1 : w4.cell? ⟨g2, b * 2 + 1, none⟩ = some (.slice tA2 tl2 tcap2) := by rw [hk2.cell, Nat.mul_comm]; exact q2
    have b0 : (0 : Int) ≤ (b : Int) := by omega
    have b1 : (b : Int) < (m : Int) := by omega
    have HHL := Lib.hid hL; have HA2 := Lib.hid hA2; have HS2 := Lib.hid hs2; have HR4 := Lib.hid hr4; have HK2 := Lib.hid hk2; have HSZ2 := Lib.hid hsz2; have HROW2 := Lib.hid hrows2; have HG2 := Lib.hid hg2; have HN2 := Lib.hid hn2; have HM := Lib.hid hm; have HBB := Lib.hid hb; have HRV2 := Lib.hid hrv2; have HT2 := Lib.hid q3
    rw [hb]
    clear hL hA2 hs2 hr4 hk2 hsz2 hrows2 hg2 hn2 hm hb hrv2 q1 q2 q3 e hr HI
    go_upto_region 6 with fail
    clear d3 r0 r1
    have hal5 : But Nob w4 (w4.alloc (.cells #[.int .i64 s2, .slice tA2 tl2 tcap2] 105)) := (But.refl _ _).alloc _
    have hbx5 := Blk.new w4 105 #[.int .i64 s2, .slice tA2 tl2 tcap2]
    have hlb4 : lb < w4.heap.size := H4.out.blk.lt
    have hno4 : lab w4.heap.size = .no := H4.out.fre _ (Nat.le_refl _)
    have HAL5 := Lib.hid hal5; have HBX5 := Lib.hid hbx5; have HNO4 := Lib.hid hno4
    clear hal5 hbx5 hno4
    generalize w4.alloc (.cells #[.int .i64 s2, .slice tA2 tl2 tcap2] 105) = w5 at *
    obtain ⟨bx6, hbx6⟩ : ∃ q, w4.heap.size = q := ⟨_, rfl⟩
    have HX6 := Lib.hid hbx6
    rw [hbx6] at HBX5 HNO4 hlb4 ⊢
    clear hbx6
    obtain ⟨W0, hW0⟩ : ∃ q, w5.drew = q := ⟨_, rfl⟩
    have N0 : But Nob w4 W0 := by rw [← hW0]; exact HAL5.out.trans (But.refl _ _).drew
    have L0 : LockM W0 lb lab i c4 cs3 rv3 := H4.out.nob N0
    have B0 : Blk W0 bx6 105 #[.int .i64 s2, .slice tA2 tl2 tcap2] := by rw [← hW0]; exact HBX5.out
    have K0 : Blk W0 g2 105 rcs2 := HK2.out.but N0 id
    have R0 : RowsM W0 lab i rcs2 (A2 ++ (s2, ts2) :: C2) := HROW2.out.but N0 (fun _ _ _ _ q => q) (fun _ _ => rfl)
    have T0 : TaskM W0 lab i s2 (.slice tA2 tl2 tcap2) ts2 := HT2.out.but N0 (fun _ _ q => q) (fun _ _ => rfl)
    obtain ⟨p, hp⟩ : ∃ p, (A2 ++ C2).length = p := ⟨_, rfl⟩
    have hpm : p + 1 = m := by rw [← hp, ← HM.out]; simp; omega
    have HDEL : Hid (∀ W, But Nob W0 W → Calls Try.prog 84 #[.slice (some ⟨g2, 0, none⟩) m cap2, .int .i64 (b : Int), .int .i64 ((b : Int) + 1)] W (DelP g2 cap2 p lab i (A2 ++ C2) W)) := fun W hW => by
      have hd := delete_any (w := W) (lab := lab) (li := i) (g := g2) (cap := cap2) (cs := rcs2) (A := A2) (C := C2) (r := (s2, ts2)) HG2.out (K0.but hW id) HSZ2.out HN2.out (by rw [HM.out]; omega) (R0.but hW (fun _ _ _ _ q => q) (fun _ _ => rfl))
      rw [HM.out, HBB.out, hp] at hd; exact hd
    have hg0 : g2 < W0.heap.size := K0.lt
    have hlg : lb ≠ g2 := fun e => by have := HG2.out; rw [← e, H4.out.own] at this; cases this
    have hbg : bx6 ≠ g2 := fun e => by have := HG2.out; rw [← e, HNO4.out] at this; cases this
    have htg : ∀ k s, lab k = .tasks i s → k ≠ g2 := fun k s e q => by rw [q, HG2.out] at e; cases e
    have HL0 := Lib.hid L0; have HB0 := Lib.hid B0; have HK0 := Lib.hid K0; have HR0 := Lib.hid R0; have HT0 := Lib.hid T0; have HN0 := Lib.hid N0; have HP := Lib.hid hp; have HPM := Lib.hid hpm; have HW0 := Lib.hid hW0
    have c3W : W0.cell? ⟨lb, 4 * i + 3, none⟩ = some (.slice (some ⟨g2, 0, none⟩) m cap2) := by rw [L0.blk.cell, ← HRV2.out]; exact L0.val.c3
    have hwrap : IntKind.i64.wrap ((b : Int) + 1) = (b : Int) + 1 := IntWalk.i64_in _ (by omega)
    have C3W := Lib.hid c3W; have HWR := Lib.hid hwrap
    clear L0 B0 K0 R0 T0 N0 hp hpm hW0 c3W hwrap
    obtain ⟨AV, hAV⟩ : ∃ f : (Nat → Value) → Act, f = fun q => { tmps := #[.pointer (some ⟨lb, 4 * i, none⟩), .int .i64 ↑a, undef, undef, fOf w.heap.size, .int .i64 ↑b, .pointer (some ⟨bx6, 0, none⟩), .pointer (some ⟨lb, 4 * i, none⟩), .pointer (some ⟨lb, 4 * i, none⟩), .pointer (some ⟨lb, 4 * i + 1, none⟩), .int .i64 c.soc, fOf w.heap.size, .pointer (some ⟨lb, 4 * i, none⟩), .pointer (some ⟨lb, 4 * i, none⟩), .pointer (some ⟨lb, 4 * i, none⟩), .pointer (some ⟨lb, 4 * i, none⟩), .pointer (some ⟨lb, 4 * i + 3, none⟩), .slice (some ⟨g, 0, none⟩) n cap, .int .i64 ↑a, .pointer (some ⟨g, a * 2, none⟩), .pointer (some ⟨g, a * 2, none⟩), .int .i64 s, .pointer (some ⟨lb, 4 * i, none⟩), .pointer (some ⟨lb, 4 * i + 1, none⟩), .pointer (some ⟨lb, 4 * i, none⟩), .pointer (some ⟨lb, 4 * i + 2, none⟩), .pointer (some ⟨lb, 4 * i, none⟩), .int .i64 ↑a, .tuple #[], .pointer (some ⟨lb, 4 * i, none⟩), fOf w.heap.size, .int .i64 ↑b, .int .i64 ↑b, .bool true, .pointer (some ⟨lb, 4 * i, none⟩), .pointer (some ⟨lb, 4 * i, none⟩), .pointer (some ⟨lb, 4 * i + 3, none⟩), .slice (some ⟨g2, 0, none⟩) m cap2, .int .i64 ↑b, .pointer (some ⟨g2, b * 2, none⟩), .agg #[.int .i64 s2, .slice tA2 tl2 tcap2], (q 41), (q 42), (q 43), (q 44), (q 45), (q 46), (q 47), (q 48), (q 49), (q 50), (q 51), (q 52), (q 53), (q 54)], defers := [] } := ⟨_, rfl⟩
    obtain ⟨val, hval⟩ : ∃ f : Nat → Value, f = fun o => [(.pointer (some ⟨lb, 4 * i, none⟩) : Value), (.pointer (some ⟨lb, 4 * i, none⟩) : Value), (.pointer (some ⟨lb, 4 * i, none⟩) : Value), (.pointer (some ⟨lb, 4 * i + 3, none⟩) : Value), (.slice (some ⟨g2, 0, none⟩) m cap2 : Value), (.int .i64 (b : Int) : Value), (.int .i64 (b : Int) : Value), (.int .i64 ((b : Int) + 1) : Value), (.slice (some ⟨g2, 0, none⟩) p cap2 : Value), (.agg #[.int .i64 s2, .slice tA2 tl2 tcap2] : Value), (.slice (some ⟨W0.heap.size, 0, none⟩) 1 1 : Value), (undef : Value), (.pointer (some ⟨lb, 4 * i, none⟩) : Value), (.pointer (some ⟨lb, 4 * i + 3, none⟩) : Value)].getD o undef := ⟨_, rfl⟩
    refine wp_region_steps2 (J := fun L aa W => ∃ q, aa = AV q ∧ JL val lb g2 cap2 lab i cs3 (A2 ++ C2) (s2, ts2) #[.int .i64 s2, .slice tA2 tl2 tcap2] W0 L q W) (by kernel_rfl) ?_ ?_ ?_ (fun L aa W h => h.elim fun q h => h.2.sz) (by kernel_rfl)
    · refine ⟨fun _ => undef, by subst hAV; rfl, ?_⟩
      show JL _ _ _ _ _ _ _ _ _ _ _ _ _ w5.drew
      rw [HW0.out]; exact JL.start
    · intro L aa W ⟨q, haa, hJ⟩ hcl ix o ho hi K' hK
      have hi15 : ix < 15 := ready_lt hi
      have hno := ready_not hi
      subst haa
      subst hval
      subst hAV
      rcases (by omega : ix = 0 ∨ ix = 1 ∨ ix = 2 ∨ ix = 3 ∨ ix = 4 ∨ ix = 5 ∨ ix = 6 ∨ ix = 7 ∨ ix = 8 ∨ ix = 9 ∨ ix = 10 ∨ ix = 11 ∨ ix = 12 ∨ ix = 13 ∨ ix = 14) with rfl | rfl | rfl | rfl | rfl | rfl | rfl | rfl | rfl | rfl | rfl | rfl | rfl | rfl | rfl
      · cases ho
        go_simp
        exact hK _ _ ⟨updV q 41 (.pointer (some ⟨lb, 4 * i, none⟩) : Value), by simp [updV], hJ.pure (o := 0) (by omega) (by decide) (by decide) (by decide) (by decide) (by decide)⟩
      · cases ho
        go_simp
        exact hK _ _ ⟨updV q 42 (.pointer (some ⟨lb, 4 * i, none⟩) : Value), by simp [updV], hJ.pure (o := 1) (by omega) (by decide) (by decide) (by decide) (by decide) (by decide)⟩
      · cases ho
        have e42 : q 42 = (.pointer (some ⟨lb, 4 * i, none⟩) : Value) := hJ.pv 1 (by omega) (by decide) (by decide) (ready_dep hi 1 (by kernel_rfl))
        simp only [e42]
        go_simp
        exact hK _ _ ⟨updV q 43 (.pointer (some ⟨lb, 4 * i, none⟩) : Value), by simp [updV, e42], hJ.pure (o := 2) (by omega) (by decide) (by decide) (by decide) (by decide) (by decide)⟩
      · cases ho
        have e43 : q 43 = (.pointer (some ⟨lb, 4 * i, none⟩) : Value) := hJ.pv 2 (by omega) (by decide) (by decide) (ready_dep hi 2 (by kernel_rfl))
        simp only [e43]
        go_simp
        exact hK _ _ ⟨updV q 44 (.pointer (some ⟨lb, 4 * i + 3, none⟩) : Value), by simp [updV, e43], hJ.pure (o := 3) (by omega) (by decide) (by decide) (by decide) (by decide) (by decide)⟩
      · cases ho
        have e44 : q 44 = (.pointer (some ⟨lb, 4 * i + 3, none⟩) : Value) := hJ.pv 3 (by omega) (by decide) (by decide) (ready_dep hi 3 (by kernel_rfl))
        have n8 : ¬ OnL L 8 := fun h => hno (clL_dep hcl 8 4 (by kernel_rfl) h)
        have hc : W.cell? ⟨lb, 4 * i + 3, none⟩ = some (.slice (some ⟨g2, 0, none⟩) m cap2) := by
          by_cases h10 : OnL L 10
          · rw [hJ.d1 n8 h10]; exact (Below.cell (Below.alloc (Below.refl W0.heap.size W0) (Nat.le_refl _) _) (p := ⟨lb, 4 * i + 3, none⟩) HL0.out.blk.lt).trans C3W.out
          · rw [hJ.d0 n8 h10]; exact C3W.out
        refine step_load_rows rfl _ rfl ⟨lb, 4 * i + 3, none⟩ _ (by simp [Act.eval, e44]) hc ?_
        exact hK _ _ ⟨updV q 45 (.slice (some ⟨g2, 0, none⟩) m cap2 : Value), by simp [updV, Act.put, e44], hJ.pure (o := 4) (by omega) (by decide) (by decide) (by decide) (by decide) (by decide)⟩
      · cases ho
        go_simp
        exact hK _ _ ⟨updV q 46 (.int .i64 (b : Int) : Value), by simp [updV], hJ.pure (o := 5) (by omega) (by decide) (by decide) (by decide) (by decide) (by decide)⟩
      · cases ho
        go_simp
        exact hK _ _ ⟨updV q 47 (.int .i64 (b : Int) : Value), by simp [updV], hJ.pure (o := 6) (by omega) (by decide) (by decide) (by decide) (by decide) (by decide)⟩
      · cases ho
        have e47 : q 47 = (.int .i64 (b : Int) : Value) := hJ.pv 6 (by omega) (by decide) (by decide) (ready_dep hi 6 (by kernel_rfl))
        have hwr := HWR.out
        simp only [e47]
        go_simp
        exact hK _ _ ⟨updV q 48 (.int .i64 ((b : Int) + 1) : Value), by simp [updV, e47], hJ.pure (o := 7) (by omega) (by decide) (by decide) (by decide) (by decide) (by decide)⟩
      · cases ho
        have e45 : q 45 = (.slice (some ⟨g2, 0, none⟩) m cap2 : Value) := hJ.pv 4 (by omega) (by decide) (by decide) (ready_dep hi 4 (by kernel_rfl))
        have e46 : q 46 = (.int .i64 (b : Int) : Value) := hJ.pv 5 (by omega) (by decide) (by decide) (ready_dep hi 5 (by kernel_rfl))
        have e48 : q 48 = (.int .i64 ((b : Int) + 1) : Value) := hJ.pv 7 (by omega) (by decide) (by decide) (ready_dep hi 7 (by kernel_rfl))
        have hW : But Nob W0 W := by
          by_cases h10 : OnL L 10
          · rw [hJ.d1 hno h10]; exact (But.refl _ _).alloc _
          · rw [hJ.d0 hno h10]; exact But.refl _ _
        simp only [e45, e46, e48]
        go_simp
        refine (HDEL.out W hW).mono ?_
        rintro e W' ⟨rfl, hb, hsz, hrows⟩
        dsimp only
        exact hK _ _ ⟨updV q 49 (.slice (some ⟨g2, 0, none⟩) p cap2 : Value), by simp [updV, e45, e46, e48], hJ.del hno hg0 ⟨hb, hrows⟩ hsz⟩
      · cases ho
        have n10 : ¬ OnL L 10 := fun h => hno (clL_dep hcl 10 9 (by kernel_rfl) h)
        have hc : Blk W bx6 105 #[.int .i64 s2, .slice tA2 tl2 tcap2] := by
          by_cases h8 : OnL L 8
          · exact HB0.out.but (hJ.d2 h8 n10).1.but hbg
          · rw [hJ.d0 h8 n10]; exact HB0.out
        refine step_load_row rfl _ rfl bx6 s2 _ (by simp [Act.eval]) hc ?_
        exact hK _ _ ⟨updV q 50 (.agg #[.int .i64 s2, .slice tA2 tl2 tcap2] : Value), by simp [updV, Act.put], hJ.pure (o := 9) (by omega) (by decide) (by decide) (by decide) (by decide) (by decide)⟩
      · cases ho
        have e50 : q 50 = (.agg #[.int .i64 s2, .slice tA2 tl2 tcap2] : Value) := hJ.pv 9 (by omega) (by decide) (by decide) (ready_dep hi 9 (by kernel_rfl))
        obtain ⟨hws, hj2⟩ := hJ.box hno
        simp only [e50]
        go_simp
        exact hK _ _ ⟨updV q 51 (.slice (some ⟨W0.heap.size, 0, none⟩) 1 1 : Value), by simp [updV, e50], hj2⟩
      · cases ho
        have e49 : q 49 = (.slice (some ⟨g2, 0, none⟩) p cap2 : Value) := hJ.pv 8 (by omega) (by decide) (by decide) (ready_dep hi 8 (by kernel_rfl))
        have e51 : q 51 = (.slice (some ⟨W0.heap.size, 0, none⟩) 1 1 : Value) := hJ.pv 10 (by omega) (by decide) (by decide) (ready_dep hi 10 (by kernel_rfl))
        have o8 := ready_dep hi 8 (by kernel_rfl)
        have o10 := ready_dep hi 10 (by kernel_rfl)
        obtain ⟨hdr, hbb⟩ := hJ.d3 o8 o10 hno
        obtain ⟨dc, dk, ds, drow⟩ := hdr.rows
        have hrm : RndM W lab i (.slice (some ⟨g2, 0, none⟩) p cap2) (A2 ++ C2) := .inr ⟨g2, cap2, dc, by rw [HP.out], by have := HP.out; have := HPM.out; have := HN2.out; have := HM.out; omega, HG2.out, dk, ds, drow⟩
        have htm : TaskM W lab i s2 (.slice tA2 tl2 tcap2) ts2 := HT0.out.but hdr.but (fun k e => htg k _ e) (fun _ _ => rfl)
        obtain ⟨v', w', lab', hrun, hr', hb', hu', hf'⟩ := app_rnd_run hrm W0.heap.size s2 _ ts2 ((hbb.cell 0).trans rfl) ((hbb.cell 1).trans rfl) htm (by have := HP.out; have := HPM.out; omega) (fun k h => HL0.out.fre k (Nat.le_trans hdr.but.size h)) 87
        refine step_app rfl (.tmp 49) (.tmp 51) 87 rfl (by simp [Act.eval, e49]) (by simp [Act.eval, e51]) hrun ?_
        exact hK _ _ ⟨updV q 52 v', by simp [updV, Act.put], hJ.app hno ⟨⟨lab', hr', ⟨fun k hk => hu'.old k (Nat.lt_of_lt_of_le hk hdr.but.size), fun k hk => by
            by_cases h : k < W.heap.size
            · exact .inr (.inr (hu'.old k h))
            · exact hu'.new k (by omega)⟩, hf'⟩, (hdr.but.mono fun k _ e => by rw [e, HG2.out]; exact rfl).trans (hb'.mono fun k _ e => by rw [e]; exact rfl), (HL0.out.blk.but hdr.but hlg).but hb' (by rw [HL0.out.own]; intro e; cases e)⟩ o8 o10⟩
      · cases ho
        have e41 : q 41 = (.pointer (some ⟨lb, 4 * i, none⟩) : Value) := hJ.pv 0 (by omega) (by decide) (by decide) (ready_dep hi 0 (by kernel_rfl))
        simp only [e41]
        go_simp
        exact hK _ _ ⟨updV q 53 (.pointer (some ⟨lb, 4 * i, none⟩) : Value), by simp [updV, e41], hJ.pure (o := 12) (by omega) (by decide) (by decide) (by decide) (by decide) (by decide)⟩
      · cases ho
        have e53 : q 53 = (.pointer (some ⟨lb, 4 * i, none⟩) : Value) := hJ.pv 12 (by omega) (by decide) (by decide) (ready_dep hi 12 (by kernel_rfl))
        simp only [e53]
        go_simp
        exact hK _ _ ⟨updV q 54 (.pointer (some ⟨lb, 4 * i + 3, none⟩) : Value), by simp [updV, e53], hJ.pure (o := 13) (by omega) (by decide) (by decide) (by decide) (by decide) (by decide)⟩
      · cases ho
        have e54 : q 54 = (.pointer (some ⟨lb, 4 * i + 3, none⟩) : Value) := hJ.pv 13 (by omega) (by decide) (by decide) (ready_dep hi 13 (by kernel_rfl))
        have o11 := ready_dep hi 11 (by kernel_rfl)
        obtain ⟨⟨lab', hr', hu', hf'⟩, hb', hk'⟩ := hJ.d4 o11 hno
        obtain ⟨A1, cap1, hv1, -⟩ := hr'.slice
        have f3 := hk'.free (4 * i + 3)
        have z3 := (hk'.cell (4 * i + 3)).trans HL0.out.val.c3
        generalize ((A2 ++ C2) ++ [(s2, ts2)]).length = n1 at hv1
        have hown' : lab' lb = .locks := (hu'.old lb HL0.out.blk.lt).trans HL0.out.own
        have hb2 : But (fun k => k = lb) W (W.setCell ⟨lb, 4 * i + 3, none⟩ (.slice A1 n1 cap1)) := (But.refl (fun k => k = lb) _).set ⟨lb, 4 * i + 3, none⟩ _ (.inl rfl)
        simp only [e54, hv1]
        go_simp
        refine hK _ _ ⟨q, by simp [e54, hv1], hJ.put o11 ⟨⟨lab', .slice A1 n1 cap1, ?_, hu', fun k h => hf' k (Nat.le_trans hb2.size h), hk'.set_ _ _⟩, ?_⟩⟩
        · rw [← hv1]; rw [hv1] at hr' ⊢; exact hr'.but hb2 (fun k e x => by subst x; rw [hown'] at e; exact e) (fun _ _ => rfl)
        · exact (hb'.mono fun k _ e => .inr e).trans (hb2.mono fun k _ e => .inl e)
    · intro L aa W ⟨q, haa, hJ⟩ hall
      obtain ⟨⟨lab', rv', hr', hu', hf', hk'⟩, hb'⟩ := hJ.d5 (hall 14 (by show 14 < 15; omega))
      subst haa
      subst hAV
      dsimp only
      go_end0
      refine ⟨rfl, lab', ⟨_, rv', ⟨hk', ?_, ?_, (hu'.old lb HL0.out.blk.lt).trans HL0.out.own, hf'⟩, (HO2.out.trans HO3.out).trans (OutC.set_ (d := 3) (by omega) _)⟩, HB4.out.trans (HN0.out.nob.trans hb'), ⟨fun k hk => hu'.old k (Nat.lt_of_lt_of_le hk (Nat.le_trans HB4.out.size HN0.out.size)), fun k hk => ?_⟩⟩
      · rw [HLV.out]; exact (lockV_rnd HL0.out.val rv').rnd_ _
      · have hla := lastR_at (A := A2) (C := C2) (r := (s2, ts2)) (s := c.soc) HA2.out HS2.out
        rw [HLV.out, HHL.out]
        dsimp only
        rw [hla]; exact hr'
      · by_cases h : k < W0.heap.size
        · exact .inr (.inr (hu'.old k h))
        · exact hu'.new k (by omega)
end
end Go.Proofs.Ytdomgipbadimmaa
