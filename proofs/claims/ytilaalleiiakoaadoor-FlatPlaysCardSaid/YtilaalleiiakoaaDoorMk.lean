/- The document's Next: a register, a lock (layer 19): printed by wip/src19/gen_mg.py. -/
import Derived.Test.YtilaalleiiakoaaDoorMg
namespace Go.Proofs.YtilaalleiiakoaaDoor
open Go.RowKit
set_option maxRecDepth 100000

section
variable {w : World} {B : Nat} {F O : Value} {f : Fl} {i : Nat} {x : FT} {PA : Option Addr} {ps : List PR}

set_option maxHeartbeats 8000000 in
theorem nx_21 (h : InF w F O f.ts f.ow) (hl : f.ts.length ≤ 1000) (_ : f.ow.length ≤ 1000) (hx : f.ts[i]? = some x) (pcap : Nat) (cpu a b : Int) :
  Calls Tryd.prog 10 #[flV F O f.p f.tm, .slice PA ps.length pcap, evV ⟨21, i, cpu, a, b⟩] w (NxtG w F O f ((taskP f ps ⟨21, i, cpu, a, b⟩ x).map fun y => { f with ts := f.ts.set i y })) := by
 have hH := h
 obtain ⟨⟨A, c, rfl, hT⟩, ⟨A2, c2, rfl, hO⟩⟩ := h
 obtain ⟨g, off, rfl, -, -⟩ := hT i x hx
 have HH := Lib.hid hH; have HX := Lib.hid hx; have HT := Lib.hid hT
 have hfr := FrU.new w (.slice (some ⟨g, off, none⟩) f.ts.length c) (.slice A2 f.ow.length c2) f.p f.tm ⟨21, i, cpu, a, b⟩ #[.slice none 0 0, .int .u64 0, .int .u64 0, .int .u64 0, .int .u64 0, .int .u64 0, .int .u64 0, .int .u64 0, .int .u64 0, .int .u64 0, .int .u64 0, .int .u64 0, .int .u64 0, .int .u64 0, .int .u64 0, .int .u64 0, .int .u64 0, .slice none 0 0, .int .i64 0] rfl
 obtain ⟨R, hR⟩ : ∃ R, taskP f ps ⟨21, i, cpu, a, b⟩ x = R := ⟨_, rfl⟩
 have HR := Lib.hid hR
 rw [hR]
 have hil := (List.getElem?_eq_some_iff.1 hx).1
 obtain ⟨n, hn⟩ : ∃ n, f.ts.length = n := ⟨_, rfl⟩
 obtain ⟨m, hm'⟩ : ∃ m, f.ow.length = m := ⟨_, rfl⟩
 have HN := Lib.hid hn; have HM := Lib.hid hm'
 rw [hn] at hfr hil hl HH ⊢
 rw [hm'] at hfr  HH ⊢
 clear hH hx hT hO hR hn hm'
 have i0 : (0 : Int) ≤ (i : Int) := by omega
 have i1 : (i : Int) < (n : Int) := by omega
 have u0 : decide ((i : Int) < 0) = false := decide_eq_false (by omega)
 have u1 : decide ((n : Int) ≤ (i : Int)) = false := decide_eq_false (by omega)
 dsimp only at hfr
 go_enter Tryd.func10, Tryd.ntmps10
 go_upto_region 1 with fail
 generalize ((w.alloc (.cells (flL (.slice (some ⟨g, off, none⟩) n c) (.slice A2 m c2) f.p f.tm).toArray 30)).alloc (.cells #[.int .i64 21, .int .i64 i, .int .i64 cpu, .int .i64 a, .int .i64 b] 36)).alloc (.cells #[.slice none 0 0, .int .u64 0, .int .u64 0, .int .u64 0, .int .u64 0, .int .u64 0, .int .u64 0, .int .u64 0, .int .u64 0, .int .u64 0, .int .u64 0, .int .u64 0, .int .u64 0, .int .u64 0, .int .u64 0, .int .u64 0, .int .u64 0, .slice none 0 0, .int .i64 0] 30) = W at *
 have HFR := Lib.hid hfr
 obtain ⟨e0, e1, e2, e3, e4⟩ := hfr.ev
 dsimp only at e0 e1 e2 e3 e4
 have c0 := BF.c0 hfr.bf
 obtain ⟨g', off', hge, -, hr⟩ := (HT.out.below hfr.bl) i _ HX.out
 simp only [Option.some.injEq, Addr.mk.injEq, and_true] at hge
 obtain ⟨rfl, rfl⟩ := hge
 obtain ⟨d0, d1, d2, d3, d4, d5, d6, d7⟩ := task_cells hr
 obtain ⟨pg, pc, ⟨ra, rb, rc, rd⟩, st, on⟩ := x
 dsimp only at d0 d1 d2 d3 d4 d5 d6 d7
 clear hfr hr
 go_upto_region 11 with fail
 have hv : FrN w (W.alloc (.cells #[.int .i64 pg, .int .i64 pc, .int .i32 ra, .int .i32 rb, .int .i32 rc, .int .i32 rd, .int .i64 st, .int .i64 on] 45)) (.slice (some ⟨g, off, none⟩) n c) (.slice A2 m c2) f.p f.tm ⟨21, i, cpu, a, b⟩ W.heap.size (taskC ⟨pg, pc, ⟨ra, rb, rc, rd⟩, st, on⟩) := FrN.new HFR.out _
 generalize W.alloc (.cells #[.int .i64 pg, .int .i64 pc, .int .i32 ra, .int .i32 rb, .int .i32 rc, .int .i32 rd, .int .i64 st, .int .i64 on] 45) = V at *
 generalize W.heap.size = q3 at *
 have HV := Lib.hid hv
 clear e0 e1 e2 e3 e4 c0 d0 d1 d2 d3 d4 d5 d6 d7 HFR hv
 obtain ⟨e0, e1, e2, e3, e4, s0, s1, s2, s3, s4, s5, s6, s7, f6, f7, c0, c17⟩ := HV.out.facts
 obtain ⟨b2, t2⟩ : ∃ b2 : Bool, (st == 2) = b2 := ⟨_, rfl⟩
 obtain ⟨ba, ta⟩ : ∃ ba : Bool, decide (0 ≤ a) = ba := ⟨_, rfl⟩
 obtain ⟨b8, t8⟩ : ∃ b8 : Bool, (st == 8) = b8 := ⟨_, rfl⟩
 obtain ⟨b4, t4⟩ : ∃ b4 : Bool, decide (a < 4) = b4 := ⟨_, rfl⟩
 obtain ⟨bl, tl⟩ : ∃ bl : Bool, decide (-2147483648 ≤ b) = bl := ⟨_, rfl⟩
 obtain ⟨bu, tu⟩ : ∃ bu : Bool, decide (b ≤ 2147483647) = bu := ⟨_, rfl⟩
 cases b2
 all_goals
  cases ba with
  | false =>
   cases b8 with
   | false =>
    have n8 : (st != 8) = true := by rw [bne, t8]; rfl
    go_upto_region 61 with fail
    have HRE : Hid (R = none) := by
     show _ = _
     rw [← HR.out]
     unfold taskP
     simp only [Int.reduceEq, ↓reduceIte]
     have h8 : ¬ 0 ≤ a := by simpa using ta
     rw [if_neg fun z => h8 z.2.1]
     (try rfl)
    clear s0 s1 s2 s3 s4 s5 s6 s7 e0 e1 e2 e3 e4 f6 f7 c0 c17
    obtain ⟨old, hbr, hold⟩ := HV.out.br
    have HBR := Lib.hid hbr; have HOL := Lib.hid hold; have HBF := Lib.hid HV.out.bf; have HBX := Lib.hid HV.out.bx
    clear hbr hold
    go_wp2_with (first
     | (with_reducible (show wpList _ _ _ _ _ _); refine ld_flat rfl (.tmp 3) rfl w.heap.size rfl HBF.out ?_)
     | (with_reducible (show wpList _ _ _ _ _ _); refine st_flat rfl (.tmp 6) (.tmp 365) rfl (w.heap.size + 1 + 1) rfl rfl rfl rfl old HBR.out HOL.out ?_))
    refine ret_flat2 rfl (w.heap.size + 1 + 1) rfl (BF.row HBR.out) rfl ?_
    exact FrN.no HV.out HH.out (by show Option.map _ R = none; rw [HRE.out]; rfl)
   | true =>
    have n8 : (st != 8) = false := by rw [bne, t8]; rfl
    go_upto_region 61 with fail
    have HRE : Hid (R = none) := by
     show _ = _
     rw [← HR.out]
     unfold taskP
     simp only [Int.reduceEq, ↓reduceIte]
     have h8 : st = 8 := by simpa using t8
     rw [if_neg fun z => z.1 h8]
     (try rfl)
    clear s0 s1 s2 s3 s4 s5 s6 s7 e0 e1 e2 e3 e4 f6 f7 c0 c17
    obtain ⟨old, hbr, hold⟩ := HV.out.br
    have HBR := Lib.hid hbr; have HOL := Lib.hid hold; have HBF := Lib.hid HV.out.bf; have HBX := Lib.hid HV.out.bx
    clear hbr hold
    go_wp2_with (first
     | (with_reducible (show wpList _ _ _ _ _ _); refine ld_flat rfl (.tmp 3) rfl w.heap.size rfl HBF.out ?_)
     | (with_reducible (show wpList _ _ _ _ _ _); refine st_flat rfl (.tmp 6) (.tmp 365) rfl (w.heap.size + 1 + 1) rfl rfl rfl rfl old HBR.out HOL.out ?_))
    refine ret_flat2 rfl (w.heap.size + 1 + 1) rfl (BF.row HBR.out) rfl ?_
    exact FrN.no HV.out HH.out (by show Option.map _ R = none; rw [HRE.out]; rfl)
  | true =>
   cases b8 with
   | false =>
    cases b4 with
    | false =>
     have n8 : (st != 8) = true := by rw [bne, t8]; rfl
     go_upto_region 61 with fail
     have HRE : Hid (R = none) := by
      show _ = _
      rw [← HR.out]
      unfold taskP
      simp only [Int.reduceEq, ↓reduceIte]
      have h8 : ¬ a < 4 := by simpa using t4
      rw [if_neg fun z => h8 z.2.2.1]
      (try rfl)
     clear s0 s1 s2 s3 s4 s5 s6 s7 e0 e1 e2 e3 e4 f6 f7 c0 c17
     obtain ⟨old, hbr, hold⟩ := HV.out.br
     have HBR := Lib.hid hbr; have HOL := Lib.hid hold; have HBF := Lib.hid HV.out.bf; have HBX := Lib.hid HV.out.bx
     clear hbr hold
     go_wp2_with (first
      | (with_reducible (show wpList _ _ _ _ _ _); refine ld_flat rfl (.tmp 3) rfl w.heap.size rfl HBF.out ?_)
      | (with_reducible (show wpList _ _ _ _ _ _); refine st_flat rfl (.tmp 6) (.tmp 365) rfl (w.heap.size + 1 + 1) rfl rfl rfl rfl old HBR.out HOL.out ?_))
     refine ret_flat2 rfl (w.heap.size + 1 + 1) rfl (BF.row HBR.out) rfl ?_
     exact FrN.no HV.out HH.out (by show Option.map _ R = none; rw [HRE.out]; rfl)
    | true =>
     cases bl with
     | false =>
      have n8 : (st != 8) = true := by rw [bne, t8]; rfl
      go_upto_region 61 with fail
      have HRE : Hid (R = none) := by
       show _ = _
       rw [← HR.out]
       unfold taskP
       simp only [Int.reduceEq, ↓reduceIte]
       have h8 : ¬ -2147483648 ≤ b := by simpa using tl
       rw [if_neg fun z => h8 z.2.2.2.1]
       (try rfl)
      clear s0 s1 s2 s3 s4 s5 s6 s7 e0 e1 e2 e3 e4 f6 f7 c0 c17
      obtain ⟨old, hbr, hold⟩ := HV.out.br
      have HBR := Lib.hid hbr; have HOL := Lib.hid hold; have HBF := Lib.hid HV.out.bf; have HBX := Lib.hid HV.out.bx
      clear hbr hold
      go_wp2_with (first
       | (with_reducible (show wpList _ _ _ _ _ _); refine ld_flat rfl (.tmp 3) rfl w.heap.size rfl HBF.out ?_)
       | (with_reducible (show wpList _ _ _ _ _ _); refine st_flat rfl (.tmp 6) (.tmp 365) rfl (w.heap.size + 1 + 1) rfl rfl rfl rfl old HBR.out HOL.out ?_))
      refine ret_flat2 rfl (w.heap.size + 1 + 1) rfl (BF.row HBR.out) rfl ?_
      exact FrN.no HV.out HH.out (by show Option.map _ R = none; rw [HRE.out]; rfl)
     | true =>
      cases bu with
      | false =>
       have n8 : (st != 8) = true := by rw [bne, t8]; rfl
       go_upto_region 61 with fail
       have HRE : Hid (R = none) := by
        show _ = _
        rw [← HR.out]
        unfold taskP
        simp only [Int.reduceEq, ↓reduceIte]
        have h8 : ¬ b ≤ 2147483647 := by simpa using tu
        rw [if_neg fun z => h8 z.2.2.2.2]
        (try rfl)
       clear s0 s1 s2 s3 s4 s5 s6 s7 e0 e1 e2 e3 e4 f6 f7 c0 c17
       obtain ⟨old, hbr, hold⟩ := HV.out.br
       have HBR := Lib.hid hbr; have HOL := Lib.hid hold; have HBF := Lib.hid HV.out.bf; have HBX := Lib.hid HV.out.bx
       clear hbr hold
       go_wp2_with (first
        | (with_reducible (show wpList _ _ _ _ _ _); refine ld_flat rfl (.tmp 3) rfl w.heap.size rfl HBF.out ?_)
        | (with_reducible (show wpList _ _ _ _ _ _); refine st_flat rfl (.tmp 6) (.tmp 365) rfl (w.heap.size + 1 + 1) rfl rfl rfl rfl old HBR.out HOL.out ?_))
       refine ret_flat2 rfl (w.heap.size + 1 + 1) rfl (BF.row HBR.out) rfl ?_
       exact FrN.no HV.out HH.out (by show Option.map _ R = none; rw [HRE.out]; rfl)
      | true =>
       have n8 : (st != 8) = true := by rw [bne, t8]; rfl
       have h8 : st ≠ 8 := by simpa using t8
       have h0 : 0 ≤ a := by simpa using ta
       have h4 : a < 4 := by simpa using t4
       have hin : In32 b := ⟨by simpa using tl, by simpa using tu⟩
       have tw := in32_wrap hin
       have f2 := HV.out.free 2
       have f3 := HV.out.free 3
       have f4 := HV.out.free 4
       have f5 := HV.out.free 5
       have hq : a = 0 ∨ a = 1 ∨ a = 2 ∨ a = 3 := by omega
       rcases hq with rfl | rfl | rfl | rfl
       ·
        go_upto_region 61 with fail
        clear f2 f3 f4 f5
        have hv := HV.out.set 2 (.int .i32 b) (D := taskC ⟨pg, pc, ⟨b, rb, rc, rd⟩, st, on⟩) rfl
        clear s0 s1 s2 s3 s4 s5 s6 s7 e0 e1 e2 e3 e4 f6 f7 c0 c17
        clear HV
        generalize (V.setCell ⟨q3, 2, none⟩ (.int .i32 b)) = V at *
        have HV := Lib.hid hv
        clear hv
        obtain ⟨e0, e1, e2, e3, e4, s0, s1, s2, s3, s4, s5, s6, s7, f6, f7, c0, c17⟩ := HV.out.facts
        go_upto_region 61 with fail
        have HRE : Hid (R = some ⟨pg, pc, ⟨b, rb, rc, rd⟩, st, on⟩) := by
         show _ = _
         rw [← HR.out]
         unfold taskP
         simp only [Int.reduceEq, ↓reduceIte]
         rw [if_pos ⟨h8, h0, h4, hin⟩]
         (try rfl)
        clear s0 s1 s2 s3 s4 s5 s6 s7 e0 e1 e2 e3 e4 f6 f7 c0 c17
        obtain ⟨old, hbr, hold⟩ := HV.out.br
        have HBR := Lib.hid hbr; have HOL := Lib.hid hold; have HBF := Lib.hid HV.out.bf; have HBX := Lib.hid HV.out.bx
        clear hbr hold
        obtain ⟨C, hC⟩ : ∃ C, taskC ⟨pg, pc, ⟨b, rb, rc, rd⟩, st, on⟩ = C := ⟨_, rfl⟩
        have HCL : Hid (C.length = 8) := by show _ = _; rw [← hC]; rfl
        have HWI : Hid (Calls Tryd.prog 23 #[.agg (flL (.slice (some ⟨g, off, none⟩) n c) (.slice A2 m c2) f.p f.tm).toArray, .int .i64 i, .agg C.toArray] V (WitG V (.slice (some ⟨g, off, none⟩) n c) (.slice A2 m c2) f.ts f.ow f.p f.tm (f.ts.set i ⟨pg, pc, ⟨b, rb, rc, rd⟩, st, on⟩) f.ow)) := by
         rw [← hC]; exact with_any (HH.out.below HV.out.bl) (by rw [HN.out]; exact hl) i (by rw [HN.out]; omega) ⟨pg, pc, ⟨b, rb, rc, rd⟩, st, on⟩
        rw [hC] at HBX
        have e1 : V.cell? ⟨w.heap.size + 1, 1, none⟩ = some (.int .i64 i) := HV.out.ev.2.1
        clear hC
        go_wp2_with (first
         | (with_reducible (show wpList _ _ _ _ _ _); refine ld_flat rfl (.tmp 3) rfl w.heap.size rfl HBF.out ?_)
         | (with_reducible (show wpList _ _ _ _ _ _); refine ld_ft rfl (.tmp 8) rfl q3 rfl HBX.out HCL.out ?_)
         | (go_at_call 23; (with_reducible refine HWI.out.mono ?_); rintro e w7 ⟨F7, O7, rfl, h7, hX7, hC7, hb7⟩; have HB7 := Lib.hid hb7; have HC7 := Lib.hid hC7; have H7 := Lib.hid h7; have HX7 := Lib.hid hX7; have HBR7 := Lib.hid (HBR.out.below hb7 HBR.out.lt); have oF7 := h7.one.1; have oO7 := h7.one.2; clear h7 hb7 hX7 hC7)
         | (with_reducible (show wpList _ _ _ _ _ _); refine st_flat rfl (.tmp 6) (.tmp 370) rfl (w.heap.size + 1 + 1) rfl rfl oF7 oO7 old HBR7.out HOL.out ?_))
        refine ret_flat2 rfl (w.heap.size + 1 + 1) rfl (BF.row HBR7.out) rfl ?_
        exact FrN.yes HV.out HH.out H7.out HX7.out HC7.out HB7.out (by show Option.map _ R = _; rw [HRE.out]; rfl)
       ·
        go_upto_region 61 with fail
        clear f2 f3 f4 f5
        have hv := HV.out.set 3 (.int .i32 b) (D := taskC ⟨pg, pc, ⟨ra, b, rc, rd⟩, st, on⟩) rfl
        clear s0 s1 s2 s3 s4 s5 s6 s7 e0 e1 e2 e3 e4 f6 f7 c0 c17
        clear HV
        generalize (V.setCell ⟨q3, 3, none⟩ (.int .i32 b)) = V at *
        have HV := Lib.hid hv
        clear hv
        obtain ⟨e0, e1, e2, e3, e4, s0, s1, s2, s3, s4, s5, s6, s7, f6, f7, c0, c17⟩ := HV.out.facts
        go_upto_region 61 with fail
        have HRE : Hid (R = some ⟨pg, pc, ⟨ra, b, rc, rd⟩, st, on⟩) := by
         show _ = _
         rw [← HR.out]
         unfold taskP
         simp only [Int.reduceEq, ↓reduceIte]
         rw [if_pos ⟨h8, h0, h4, hin⟩]
         (try rfl)
        clear s0 s1 s2 s3 s4 s5 s6 s7 e0 e1 e2 e3 e4 f6 f7 c0 c17
        obtain ⟨old, hbr, hold⟩ := HV.out.br
        have HBR := Lib.hid hbr; have HOL := Lib.hid hold; have HBF := Lib.hid HV.out.bf; have HBX := Lib.hid HV.out.bx
        clear hbr hold
        obtain ⟨C, hC⟩ : ∃ C, taskC ⟨pg, pc, ⟨ra, b, rc, rd⟩, st, on⟩ = C := ⟨_, rfl⟩
        have HCL : Hid (C.length = 8) := by show _ = _; rw [← hC]; rfl
        have HWI : Hid (Calls Tryd.prog 23 #[.agg (flL (.slice (some ⟨g, off, none⟩) n c) (.slice A2 m c2) f.p f.tm).toArray, .int .i64 i, .agg C.toArray] V (WitG V (.slice (some ⟨g, off, none⟩) n c) (.slice A2 m c2) f.ts f.ow f.p f.tm (f.ts.set i ⟨pg, pc, ⟨ra, b, rc, rd⟩, st, on⟩) f.ow)) := by
         rw [← hC]; exact with_any (HH.out.below HV.out.bl) (by rw [HN.out]; exact hl) i (by rw [HN.out]; omega) ⟨pg, pc, ⟨ra, b, rc, rd⟩, st, on⟩
        rw [hC] at HBX
        have e1 : V.cell? ⟨w.heap.size + 1, 1, none⟩ = some (.int .i64 i) := HV.out.ev.2.1
        clear hC
        go_wp2_with (first
         | (with_reducible (show wpList _ _ _ _ _ _); refine ld_flat rfl (.tmp 3) rfl w.heap.size rfl HBF.out ?_)
         | (with_reducible (show wpList _ _ _ _ _ _); refine ld_ft rfl (.tmp 8) rfl q3 rfl HBX.out HCL.out ?_)
         | (go_at_call 23; (with_reducible refine HWI.out.mono ?_); rintro e w7 ⟨F7, O7, rfl, h7, hX7, hC7, hb7⟩; have HB7 := Lib.hid hb7; have HC7 := Lib.hid hC7; have H7 := Lib.hid h7; have HX7 := Lib.hid hX7; have HBR7 := Lib.hid (HBR.out.below hb7 HBR.out.lt); have oF7 := h7.one.1; have oO7 := h7.one.2; clear h7 hb7 hX7 hC7)
         | (with_reducible (show wpList _ _ _ _ _ _); refine st_flat rfl (.tmp 6) (.tmp 370) rfl (w.heap.size + 1 + 1) rfl rfl oF7 oO7 old HBR7.out HOL.out ?_))
        refine ret_flat2 rfl (w.heap.size + 1 + 1) rfl (BF.row HBR7.out) rfl ?_
        exact FrN.yes HV.out HH.out H7.out HX7.out HC7.out HB7.out (by show Option.map _ R = _; rw [HRE.out]; rfl)
       ·
        go_upto_region 61 with fail
        clear f2 f3 f4 f5
        have hv := HV.out.set 4 (.int .i32 b) (D := taskC ⟨pg, pc, ⟨ra, rb, b, rd⟩, st, on⟩) rfl
        clear s0 s1 s2 s3 s4 s5 s6 s7 e0 e1 e2 e3 e4 f6 f7 c0 c17
        clear HV
        generalize (V.setCell ⟨q3, 4, none⟩ (.int .i32 b)) = V at *
        have HV := Lib.hid hv
        clear hv
        obtain ⟨e0, e1, e2, e3, e4, s0, s1, s2, s3, s4, s5, s6, s7, f6, f7, c0, c17⟩ := HV.out.facts
        go_upto_region 61 with fail
        have HRE : Hid (R = some ⟨pg, pc, ⟨ra, rb, b, rd⟩, st, on⟩) := by
         show _ = _
         rw [← HR.out]
         unfold taskP
         simp only [Int.reduceEq, ↓reduceIte]
         rw [if_pos ⟨h8, h0, h4, hin⟩]
         (try rfl)
        clear s0 s1 s2 s3 s4 s5 s6 s7 e0 e1 e2 e3 e4 f6 f7 c0 c17
        obtain ⟨old, hbr, hold⟩ := HV.out.br
        have HBR := Lib.hid hbr; have HOL := Lib.hid hold; have HBF := Lib.hid HV.out.bf; have HBX := Lib.hid HV.out.bx
        clear hbr hold
        obtain ⟨C, hC⟩ : ∃ C, taskC ⟨pg, pc, ⟨ra, rb, b, rd⟩, st, on⟩ = C := ⟨_, rfl⟩
        have HCL : Hid (C.length = 8) := by show _ = _; rw [← hC]; rfl
        have HWI : Hid (Calls Tryd.prog 23 #[.agg (flL (.slice (some ⟨g, off, none⟩) n c) (.slice A2 m c2) f.p f.tm).toArray, .int .i64 i, .agg C.toArray] V (WitG V (.slice (some ⟨g, off, none⟩) n c) (.slice A2 m c2) f.ts f.ow f.p f.tm (f.ts.set i ⟨pg, pc, ⟨ra, rb, b, rd⟩, st, on⟩) f.ow)) := by
         rw [← hC]; exact with_any (HH.out.below HV.out.bl) (by rw [HN.out]; exact hl) i (by rw [HN.out]; omega) ⟨pg, pc, ⟨ra, rb, b, rd⟩, st, on⟩
        rw [hC] at HBX
        have e1 : V.cell? ⟨w.heap.size + 1, 1, none⟩ = some (.int .i64 i) := HV.out.ev.2.1
        clear hC
        go_wp2_with (first
         | (with_reducible (show wpList _ _ _ _ _ _); refine ld_flat rfl (.tmp 3) rfl w.heap.size rfl HBF.out ?_)
         | (with_reducible (show wpList _ _ _ _ _ _); refine ld_ft rfl (.tmp 8) rfl q3 rfl HBX.out HCL.out ?_)
         | (go_at_call 23; (with_reducible refine HWI.out.mono ?_); rintro e w7 ⟨F7, O7, rfl, h7, hX7, hC7, hb7⟩; have HB7 := Lib.hid hb7; have HC7 := Lib.hid hC7; have H7 := Lib.hid h7; have HX7 := Lib.hid hX7; have HBR7 := Lib.hid (HBR.out.below hb7 HBR.out.lt); have oF7 := h7.one.1; have oO7 := h7.one.2; clear h7 hb7 hX7 hC7)
         | (with_reducible (show wpList _ _ _ _ _ _); refine st_flat rfl (.tmp 6) (.tmp 370) rfl (w.heap.size + 1 + 1) rfl rfl oF7 oO7 old HBR7.out HOL.out ?_))
        refine ret_flat2 rfl (w.heap.size + 1 + 1) rfl (BF.row HBR7.out) rfl ?_
        exact FrN.yes HV.out HH.out H7.out HX7.out HC7.out HB7.out (by show Option.map _ R = _; rw [HRE.out]; rfl)
       ·
        go_upto_region 61 with fail
        clear f2 f3 f4 f5
        have hv := HV.out.set 5 (.int .i32 b) (D := taskC ⟨pg, pc, ⟨ra, rb, rc, b⟩, st, on⟩) rfl
        clear s0 s1 s2 s3 s4 s5 s6 s7 e0 e1 e2 e3 e4 f6 f7 c0 c17
        clear HV
        generalize (V.setCell ⟨q3, 5, none⟩ (.int .i32 b)) = V at *
        have HV := Lib.hid hv
        clear hv
        obtain ⟨e0, e1, e2, e3, e4, s0, s1, s2, s3, s4, s5, s6, s7, f6, f7, c0, c17⟩ := HV.out.facts
        go_upto_region 61 with fail
        have HRE : Hid (R = some ⟨pg, pc, ⟨ra, rb, rc, b⟩, st, on⟩) := by
         show _ = _
         rw [← HR.out]
         unfold taskP
         simp only [Int.reduceEq, ↓reduceIte]
         rw [if_pos ⟨h8, h0, h4, hin⟩]
         (try rfl)
        clear s0 s1 s2 s3 s4 s5 s6 s7 e0 e1 e2 e3 e4 f6 f7 c0 c17
        obtain ⟨old, hbr, hold⟩ := HV.out.br
        have HBR := Lib.hid hbr; have HOL := Lib.hid hold; have HBF := Lib.hid HV.out.bf; have HBX := Lib.hid HV.out.bx
        clear hbr hold
        obtain ⟨C, hC⟩ : ∃ C, taskC ⟨pg, pc, ⟨ra, rb, rc, b⟩, st, on⟩ = C := ⟨_, rfl⟩
        have HCL : Hid (C.length = 8) := by show _ = _; rw [← hC]; rfl
        have HWI : Hid (Calls Tryd.prog 23 #[.agg (flL (.slice (some ⟨g, off, none⟩) n c) (.slice A2 m c2) f.p f.tm).toArray, .int .i64 i, .agg C.toArray] V (WitG V (.slice (some ⟨g, off, none⟩) n c) (.slice A2 m c2) f.ts f.ow f.p f.tm (f.ts.set i ⟨pg, pc, ⟨ra, rb, rc, b⟩, st, on⟩) f.ow)) := by
         rw [← hC]; exact with_any (HH.out.below HV.out.bl) (by rw [HN.out]; exact hl) i (by rw [HN.out]; omega) ⟨pg, pc, ⟨ra, rb, rc, b⟩, st, on⟩
        rw [hC] at HBX
        have e1 : V.cell? ⟨w.heap.size + 1, 1, none⟩ = some (.int .i64 i) := HV.out.ev.2.1
        clear hC
        go_wp2_with (first
         | (with_reducible (show wpList _ _ _ _ _ _); refine ld_flat rfl (.tmp 3) rfl w.heap.size rfl HBF.out ?_)
         | (with_reducible (show wpList _ _ _ _ _ _); refine ld_ft rfl (.tmp 8) rfl q3 rfl HBX.out HCL.out ?_)
         | (go_at_call 23; (with_reducible refine HWI.out.mono ?_); rintro e w7 ⟨F7, O7, rfl, h7, hX7, hC7, hb7⟩; have HB7 := Lib.hid hb7; have HC7 := Lib.hid hC7; have H7 := Lib.hid h7; have HX7 := Lib.hid hX7; have HBR7 := Lib.hid (HBR.out.below hb7 HBR.out.lt); have oF7 := h7.one.1; have oO7 := h7.one.2; clear h7 hb7 hX7 hC7)
         | (with_reducible (show wpList _ _ _ _ _ _); refine st_flat rfl (.tmp 6) (.tmp 370) rfl (w.heap.size + 1 + 1) rfl rfl oF7 oO7 old HBR7.out HOL.out ?_))
        refine ret_flat2 rfl (w.heap.size + 1 + 1) rfl (BF.row HBR7.out) rfl ?_
        exact FrN.yes HV.out HH.out H7.out HX7.out HC7.out HB7.out (by show Option.map _ R = _; rw [HRE.out]; rfl)
   | true =>
    have n8 : (st != 8) = false := by rw [bne, t8]; rfl
    go_upto_region 61 with fail
    have HRE : Hid (R = none) := by
     show _ = _
     rw [← HR.out]
     unfold taskP
     simp only [Int.reduceEq, ↓reduceIte]
     have h8 : st = 8 := by simpa using t8
     rw [if_neg fun z => z.1 h8]
     (try rfl)
    clear s0 s1 s2 s3 s4 s5 s6 s7 e0 e1 e2 e3 e4 f6 f7 c0 c17
    obtain ⟨old, hbr, hold⟩ := HV.out.br
    have HBR := Lib.hid hbr; have HOL := Lib.hid hold; have HBF := Lib.hid HV.out.bf; have HBX := Lib.hid HV.out.bx
    clear hbr hold
    go_wp2_with (first
     | (with_reducible (show wpList _ _ _ _ _ _); refine ld_flat rfl (.tmp 3) rfl w.heap.size rfl HBF.out ?_)
     | (with_reducible (show wpList _ _ _ _ _ _); refine st_flat rfl (.tmp 6) (.tmp 365) rfl (w.heap.size + 1 + 1) rfl rfl rfl rfl old HBR.out HOL.out ?_))
    refine ret_flat2 rfl (w.heap.size + 1 + 1) rfl (BF.row HBR.out) rfl ?_
    exact FrN.no HV.out HH.out (by show Option.map _ R = none; rw [HRE.out]; rfl)

set_option maxHeartbeats 8000000 in
theorem nx_9 (h : InF w F O f.ts f.ow) (_ : f.ts.length ≤ 1000) (hm : f.ow.length ≤ 1000) (hx : f.ts[i]? = some x) (pcap : Nat) (cpu a b : Int) :
  Calls Tryd.prog 10 #[flV F O f.p f.tm, .slice PA ps.length pcap, evV ⟨9, i, cpu, a, b⟩] w (NxtG w F O f ((passP f.ow a (-1) i).map fun o => { f with ow := o })) := by
 have hH := h
 obtain ⟨⟨A, c, rfl, hT⟩, ⟨A2, c2, rfl, hO⟩⟩ := h
 obtain ⟨g, off, rfl, -, -⟩ := hT i x hx
 have HH := Lib.hid hH; have HX := Lib.hid hx; have HT := Lib.hid hT
 have hfr := FrU.new w (.slice (some ⟨g, off, none⟩) f.ts.length c) (.slice A2 f.ow.length c2) f.p f.tm ⟨9, i, cpu, a, b⟩ #[.slice none 0 0, .int .u64 0, .int .u64 0, .int .u64 0, .int .u64 0, .int .u64 0, .int .u64 0, .int .u64 0, .int .u64 0, .int .u64 0, .int .u64 0, .int .u64 0, .int .u64 0, .int .u64 0, .int .u64 0, .int .u64 0, .int .u64 0, .slice none 0 0, .int .i64 0] rfl
 obtain ⟨R, hR⟩ : ∃ R, passP f.ow a (-1) i = R := ⟨_, rfl⟩
 have HR := Lib.hid hR
 rw [hR]
 have hil := (List.getElem?_eq_some_iff.1 hx).1
 obtain ⟨n, hn⟩ : ∃ n, f.ts.length = n := ⟨_, rfl⟩
 obtain ⟨m, hm'⟩ : ∃ m, f.ow.length = m := ⟨_, rfl⟩
 have HN := Lib.hid hn; have HM := Lib.hid hm'
 rw [hn] at hfr hil  HH ⊢
 rw [hm'] at hfr hm HH ⊢
 clear hH hx hT hO hR hn hm'
 have i0 : (0 : Int) ≤ (i : Int) := by omega
 have i1 : (i : Int) < (n : Int) := by omega
 have u0 : decide ((i : Int) < 0) = false := decide_eq_false (by omega)
 have u1 : decide ((n : Int) ≤ (i : Int)) = false := decide_eq_false (by omega)
 dsimp only at hfr
 go_enter Tryd.func10, Tryd.ntmps10
 go_upto_region 1 with fail
 generalize ((w.alloc (.cells (flL (.slice (some ⟨g, off, none⟩) n c) (.slice A2 m c2) f.p f.tm).toArray 30)).alloc (.cells #[.int .i64 9, .int .i64 i, .int .i64 cpu, .int .i64 a, .int .i64 b] 36)).alloc (.cells #[.slice none 0 0, .int .u64 0, .int .u64 0, .int .u64 0, .int .u64 0, .int .u64 0, .int .u64 0, .int .u64 0, .int .u64 0, .int .u64 0, .int .u64 0, .int .u64 0, .int .u64 0, .int .u64 0, .int .u64 0, .int .u64 0, .int .u64 0, .slice none 0 0, .int .i64 0] 30) = W at *
 have HFR := Lib.hid hfr
 obtain ⟨e0, e1, e2, e3, e4⟩ := hfr.ev
 dsimp only at e0 e1 e2 e3 e4
 have c0 := BF.c0 hfr.bf
 obtain ⟨g', off', hge, -, hr⟩ := (HT.out.below hfr.bl) i _ HX.out
 simp only [Option.some.injEq, Addr.mk.injEq, and_true] at hge
 obtain ⟨rfl, rfl⟩ := hge
 obtain ⟨d0, d1, d2, d3, d4, d5, d6, d7⟩ := task_cells hr
 obtain ⟨pg, pc, ⟨ra, rb, rc, rd⟩, st, on⟩ := x
 dsimp only at d0 d1 d2 d3 d4 d5 d6 d7
 clear hfr hr
 go_upto_region 11 with fail
 have hv : FrN w (W.alloc (.cells #[.int .i64 pg, .int .i64 pc, .int .i32 ra, .int .i32 rb, .int .i32 rc, .int .i32 rd, .int .i64 st, .int .i64 on] 45)) (.slice (some ⟨g, off, none⟩) n c) (.slice A2 m c2) f.p f.tm ⟨9, i, cpu, a, b⟩ W.heap.size (taskC ⟨pg, pc, ⟨ra, rb, rc, rd⟩, st, on⟩) := FrN.new HFR.out _
 generalize W.alloc (.cells #[.int .i64 pg, .int .i64 pc, .int .i32 ra, .int .i32 rb, .int .i32 rc, .int .i32 rd, .int .i64 st, .int .i64 on] 45) = V at *
 generalize W.heap.size = q3 at *
 have HV := Lib.hid hv
 clear e0 e1 e2 e3 e4 c0 d0 d1 d2 d3 d4 d5 d6 d7 HFR hv
 obtain ⟨e0, e1, e2, e3, e4, s0, s1, s2, s3, s4, s5, s6, s7, f6, f7, c0, c17⟩ := HV.out.facts
 obtain ⟨b2, t2⟩ : ∃ b2 : Bool, (st == 2) = b2 := ⟨_, rfl⟩
 obtain ⟨ba, ta⟩ : ∃ ba : Bool, decide (0 ≤ a) = ba := ⟨_, rfl⟩
 obtain ⟨bm, tm⟩ : ∃ bm : Bool, decide (a < (m : Int)) = bm := ⟨_, rfl⟩
 cases b2
 all_goals
  cases ba with
  | false =>
   go_upto_region 61 with fail
   have HRE : Hid (R = none) := by
    show _ = _
    rw [← HR.out]
    unfold passP
    have h0 : ¬ 0 ≤ a := by simpa using ta
    rw [if_neg fun z => h0 z.1]
   clear s0 s1 s2 s3 s4 s5 s6 s7 e0 e1 e2 e3 e4 f6 f7 c0 c17
   obtain ⟨old, hbr, hold⟩ := HV.out.br
   have HBR := Lib.hid hbr; have HOL := Lib.hid hold; have HBF := Lib.hid HV.out.bf
   clear hbr hold
   go_wp2_with (first
    | (with_reducible (show wpList _ _ _ _ _ _); refine ld_flat rfl (.tmp 3) rfl w.heap.size rfl HBF.out ?_)
    | (with_reducible (show wpList _ _ _ _ _ _); refine st_flat rfl (.tmp 6) (.tmp 365) rfl (w.heap.size + 1 + 1) rfl rfl rfl rfl old HBR.out HOL.out ?_))
   refine ret_flat2 rfl (w.heap.size + 1 + 1) rfl (BF.row HBR.out) rfl ?_
   exact FrN.no HV.out HH.out (by show Option.map _ R = none; rw [HRE.out]; rfl)
  | true =>
   cases bm with
   | false =>
    go_upto_region 61 with fail
    have HRE : Hid (R = none) := by
     show _ = _
     rw [← HR.out]
     unfold passP
     have h0 : ¬ a < (m : Int) := by simpa using tm
     rw [if_neg fun z => h0 (by have := (List.getElem?_eq_some_iff.1 z.2).1; rw [HM.out] at this; omega)]
    clear s0 s1 s2 s3 s4 s5 s6 s7 e0 e1 e2 e3 e4 f6 f7 c0 c17
    obtain ⟨old, hbr, hold⟩ := HV.out.br
    have HBR := Lib.hid hbr; have HOL := Lib.hid hold; have HBF := Lib.hid HV.out.bf
    clear hbr hold
    go_wp2_with (first
     | (with_reducible (show wpList _ _ _ _ _ _); refine ld_flat rfl (.tmp 3) rfl w.heap.size rfl HBF.out ?_)
     | (with_reducible (show wpList _ _ _ _ _ _); refine st_flat rfl (.tmp 6) (.tmp 365) rfl (w.heap.size + 1 + 1) rfl rfl rfl rfl old HBR.out HOL.out ?_))
    refine ret_flat2 rfl (w.heap.size + 1 + 1) rfl (BF.row HBR.out) rfl ?_
    exact FrN.no HV.out HH.out (by show Option.map _ R = none; rw [HRE.out]; rfl)
   | true =>
    have h0 : 0 ≤ a := by simpa using ta
    have h1 : a < (m : Int) := by simpa using tm
    obtain ⟨k, rfl⟩ := Int.eq_ofNat_of_zero_le h0
    have hk : k < m := by omega
    obtain ⟨z, hz⟩ : ∃ z, f.ow[k]? = some z := ⟨_, List.getElem?_eq_getElem (by rw [HM.out]; exact hk)⟩
    obtain ⟨A', c', hA', hN'⟩ := (HH.out.below HV.out.bl).ow
    simp only [Value.slice.injEq, HM.out, true_and] at hA'
    obtain ⟨rfl, rfl⟩ := hA'
    obtain ⟨go, ofo, rfl, -, hcz⟩ := hN' k z hz
    have HZ := Lib.hid hz
    clear hz hN'
    obtain ⟨bz, tz⟩ : ∃ bz : Bool, (z == -1) = bz := ⟨_, rfl⟩
    cases bz with
    | false =>
     go_upto_region 61 with fail
     have HRE : Hid (R = none) := by
      show _ = _
      rw [← HR.out]
      unfold passP
      have hz : z ≠ -1 := by simpa using tz
      rw [if_neg fun q => hz (by have := q.2; rw [show (k : Int).toNat = k by omega, HZ.out] at this; exact Option.some.inj this)]
     clear s0 s1 s2 s3 s4 s5 s6 s7 e0 e1 e2 e3 e4 f6 f7 c0 c17
     obtain ⟨old, hbr, hold⟩ := HV.out.br
     have HBR := Lib.hid hbr; have HOL := Lib.hid hold; have HBF := Lib.hid HV.out.bf
     clear hbr hold
     go_wp2_with (first
      | (with_reducible (show wpList _ _ _ _ _ _); refine ld_flat rfl (.tmp 3) rfl w.heap.size rfl HBF.out ?_)
      | (with_reducible (show wpList _ _ _ _ _ _); refine st_flat rfl (.tmp 6) (.tmp 365) rfl (w.heap.size + 1 + 1) rfl rfl rfl rfl old HBR.out HOL.out ?_))
     refine ret_flat2 rfl (w.heap.size + 1 + 1) rfl (BF.row HBR.out) rfl ?_
     exact FrN.no HV.out HH.out (by show Option.map _ R = none; rw [HRE.out]; rfl)
    | true =>
     go_upto_region 43 with fail
     have HRE : Hid (R = some (f.ow.set k ((i : Int)))) := by
      show _ = _
      rw [← HR.out]
      unfold passP
      have hz : z = -1 := by simpa using tz
      rw [show (k : Int).toNat = k by omega, if_pos ⟨h0, by rw [HZ.out, hz]⟩]
     clear s0 s1 s2 s3 s4 s5 s6 s7 f6 f7 c0 c17 hcz
     obtain ⟨old, hbr, hold⟩ := HV.out.br
     have HBR := Lib.hid hbr; have HOL := Lib.hid hold; have HBF := Lib.hid HV.out.bf
     clear hbr hold
     have HWI : Hid (Calls Tryd.prog 22 #[.agg (flL (.slice (some ⟨g, off, none⟩) n c) (.slice (some ⟨go, ofo, none⟩) m c2) f.p f.tm).toArray, .int .i64 k, .int .i64 i] V (WitG V (.slice (some ⟨g, off, none⟩) n c) (.slice (some ⟨go, ofo, none⟩) m c2) f.ts f.ow f.p f.tm f.ts (f.ow.set k ((i : Int))))) :=
      owned_any (HH.out.below HV.out.bl) (by rw [HM.out]; exact hm) k (by rw [HM.out]; exact hk) ((i : Int))
     go_wp2_with (first
      | (with_reducible (show wpList _ _ _ _ _ _); refine ld_flat rfl (.tmp 3) rfl w.heap.size rfl HBF.out ?_)
      | (go_at_call 22; (with_reducible refine HWI.out.mono ?_); rintro e w7 ⟨F7, O7, rfl, h7, hX7, hC7, hb7⟩; have HB7 := Lib.hid hb7; have HC7 := Lib.hid hC7; have H7 := Lib.hid h7; have HX7 := Lib.hid hX7; have HBR7 := Lib.hid (HBR.out.below hb7 HBR.out.lt); have oF7 := h7.one.1; have oO7 := h7.one.2; clear h7 hb7 hX7 hC7)
      | (with_reducible (show wpList _ _ _ _ _ _); refine st_flat rfl (.tmp 6) (.tmp 268) rfl (w.heap.size + 1 + 1) rfl rfl oF7 oO7 old HBR7.out HOL.out ?_))
     refine ret_flat2 rfl (w.heap.size + 1 + 1) rfl (BF.row HBR7.out) rfl ?_
     exact FrN.yes HV.out HH.out H7.out HX7.out HC7.out HB7.out (by show Option.map _ R = _; rw [HRE.out]; rfl)

set_option maxHeartbeats 8000000 in
theorem nx_10 (h : InF w F O f.ts f.ow) (_ : f.ts.length ≤ 1000) (hm : f.ow.length ≤ 1000) (hx : f.ts[i]? = some x) (pcap : Nat) (cpu a b : Int) :
  Calls Tryd.prog 10 #[flV F O f.p f.tm, .slice PA ps.length pcap, evV ⟨10, i, cpu, a, b⟩] w (NxtG w F O f ((passP f.ow a i (-1)).map fun o => { f with ow := o })) := by
 have hH := h
 obtain ⟨⟨A, c, rfl, hT⟩, ⟨A2, c2, rfl, hO⟩⟩ := h
 obtain ⟨g, off, rfl, -, -⟩ := hT i x hx
 have HH := Lib.hid hH; have HX := Lib.hid hx; have HT := Lib.hid hT
 have hfr := FrU.new w (.slice (some ⟨g, off, none⟩) f.ts.length c) (.slice A2 f.ow.length c2) f.p f.tm ⟨10, i, cpu, a, b⟩ #[.slice none 0 0, .int .u64 0, .int .u64 0, .int .u64 0, .int .u64 0, .int .u64 0, .int .u64 0, .int .u64 0, .int .u64 0, .int .u64 0, .int .u64 0, .int .u64 0, .int .u64 0, .int .u64 0, .int .u64 0, .int .u64 0, .int .u64 0, .slice none 0 0, .int .i64 0] rfl
 obtain ⟨R, hR⟩ : ∃ R, passP f.ow a i (-1) = R := ⟨_, rfl⟩
 have HR := Lib.hid hR
 rw [hR]
 have hil := (List.getElem?_eq_some_iff.1 hx).1
 obtain ⟨n, hn⟩ : ∃ n, f.ts.length = n := ⟨_, rfl⟩
 obtain ⟨m, hm'⟩ : ∃ m, f.ow.length = m := ⟨_, rfl⟩
 have HN := Lib.hid hn; have HM := Lib.hid hm'
 rw [hn] at hfr hil  HH ⊢
 rw [hm'] at hfr hm HH ⊢
 clear hH hx hT hO hR hn hm'
 have i0 : (0 : Int) ≤ (i : Int) := by omega
 have i1 : (i : Int) < (n : Int) := by omega
 have u0 : decide ((i : Int) < 0) = false := decide_eq_false (by omega)
 have u1 : decide ((n : Int) ≤ (i : Int)) = false := decide_eq_false (by omega)
 dsimp only at hfr
 go_enter Tryd.func10, Tryd.ntmps10
 go_upto_region 1 with fail
 generalize ((w.alloc (.cells (flL (.slice (some ⟨g, off, none⟩) n c) (.slice A2 m c2) f.p f.tm).toArray 30)).alloc (.cells #[.int .i64 10, .int .i64 i, .int .i64 cpu, .int .i64 a, .int .i64 b] 36)).alloc (.cells #[.slice none 0 0, .int .u64 0, .int .u64 0, .int .u64 0, .int .u64 0, .int .u64 0, .int .u64 0, .int .u64 0, .int .u64 0, .int .u64 0, .int .u64 0, .int .u64 0, .int .u64 0, .int .u64 0, .int .u64 0, .int .u64 0, .int .u64 0, .slice none 0 0, .int .i64 0] 30) = W at *
 have HFR := Lib.hid hfr
 obtain ⟨e0, e1, e2, e3, e4⟩ := hfr.ev
 dsimp only at e0 e1 e2 e3 e4
 have c0 := BF.c0 hfr.bf
 obtain ⟨g', off', hge, -, hr⟩ := (HT.out.below hfr.bl) i _ HX.out
 simp only [Option.some.injEq, Addr.mk.injEq, and_true] at hge
 obtain ⟨rfl, rfl⟩ := hge
 obtain ⟨d0, d1, d2, d3, d4, d5, d6, d7⟩ := task_cells hr
 obtain ⟨pg, pc, ⟨ra, rb, rc, rd⟩, st, on⟩ := x
 dsimp only at d0 d1 d2 d3 d4 d5 d6 d7
 clear hfr hr
 go_upto_region 11 with fail
 have hv : FrN w (W.alloc (.cells #[.int .i64 pg, .int .i64 pc, .int .i32 ra, .int .i32 rb, .int .i32 rc, .int .i32 rd, .int .i64 st, .int .i64 on] 45)) (.slice (some ⟨g, off, none⟩) n c) (.slice A2 m c2) f.p f.tm ⟨10, i, cpu, a, b⟩ W.heap.size (taskC ⟨pg, pc, ⟨ra, rb, rc, rd⟩, st, on⟩) := FrN.new HFR.out _
 generalize W.alloc (.cells #[.int .i64 pg, .int .i64 pc, .int .i32 ra, .int .i32 rb, .int .i32 rc, .int .i32 rd, .int .i64 st, .int .i64 on] 45) = V at *
 generalize W.heap.size = q3 at *
 have HV := Lib.hid hv
 clear e0 e1 e2 e3 e4 c0 d0 d1 d2 d3 d4 d5 d6 d7 HFR hv
 obtain ⟨e0, e1, e2, e3, e4, s0, s1, s2, s3, s4, s5, s6, s7, f6, f7, c0, c17⟩ := HV.out.facts
 obtain ⟨b2, t2⟩ : ∃ b2 : Bool, (st == 2) = b2 := ⟨_, rfl⟩
 obtain ⟨ba, ta⟩ : ∃ ba : Bool, decide (0 ≤ a) = ba := ⟨_, rfl⟩
 obtain ⟨bm, tm⟩ : ∃ bm : Bool, decide (a < (m : Int)) = bm := ⟨_, rfl⟩
 cases b2
 all_goals
  cases ba with
  | false =>
   go_upto_region 45 with fail
   go_quiet (fail)
   have hv : FrN w (V.drewN nq) (.slice (some ⟨g, off, none⟩) n c) (.slice A2 m c2) f.p f.tm ⟨10, i, cpu, a, b⟩ q3 (taskC ⟨pg, pc, ⟨ra, rb, rc, rd⟩, st, on⟩) := HV.out.on ⟨rfl, rfl, rfl, Nat.le_refl _, fun _ _ => rfl⟩
   clear s0 s1 s2 s3 s4 s5 s6 s7 e0 e1 e2 e3 e4 f6 f7 c0 c17
   clear HV 
   generalize V.drewN nq = V at *
   have HV := Lib.hid hv
   clear hv
   obtain ⟨e0, e1, e2, e3, e4, s0, s1, s2, s3, s4, s5, s6, s7, f6, f7, c0, c17⟩ := HV.out.facts
   go_upto_region 61 with fail
   have HRE : Hid (R = none) := by
    show _ = _
    rw [← HR.out]
    unfold passP
    have h0 : ¬ 0 ≤ a := by simpa using ta
    rw [if_neg fun z => h0 z.1]
   clear s0 s1 s2 s3 s4 s5 s6 s7 e0 e1 e2 e3 e4 f6 f7 c0 c17
   obtain ⟨old, hbr, hold⟩ := HV.out.br
   have HBR := Lib.hid hbr; have HOL := Lib.hid hold; have HBF := Lib.hid HV.out.bf
   clear hbr hold
   go_wp2_with (first
    | (with_reducible (show wpList _ _ _ _ _ _); refine ld_flat rfl (.tmp 3) rfl w.heap.size rfl HBF.out ?_)
    | (with_reducible (show wpList _ _ _ _ _ _); refine st_flat rfl (.tmp 6) (.tmp 365) rfl (w.heap.size + 1 + 1) rfl rfl rfl rfl old HBR.out HOL.out ?_))
   refine ret_flat2 rfl (w.heap.size + 1 + 1) rfl (BF.row HBR.out) rfl ?_
   exact FrN.no HV.out HH.out (by show Option.map _ R = none; rw [HRE.out]; rfl)
  | true =>
   cases bm with
   | false =>
    go_upto_region 45 with fail
    go_quiet (fail)
    have hv : FrN w (V.drewN nq) (.slice (some ⟨g, off, none⟩) n c) (.slice A2 m c2) f.p f.tm ⟨10, i, cpu, a, b⟩ q3 (taskC ⟨pg, pc, ⟨ra, rb, rc, rd⟩, st, on⟩) := HV.out.on ⟨rfl, rfl, rfl, Nat.le_refl _, fun _ _ => rfl⟩
    clear s0 s1 s2 s3 s4 s5 s6 s7 e0 e1 e2 e3 e4 f6 f7 c0 c17
    clear HV 
    generalize V.drewN nq = V at *
    have HV := Lib.hid hv
    clear hv
    obtain ⟨e0, e1, e2, e3, e4, s0, s1, s2, s3, s4, s5, s6, s7, f6, f7, c0, c17⟩ := HV.out.facts
    go_upto_region 61 with fail
    have HRE : Hid (R = none) := by
     show _ = _
     rw [← HR.out]
     unfold passP
     have h0 : ¬ a < (m : Int) := by simpa using tm
     rw [if_neg fun z => h0 (by have := (List.getElem?_eq_some_iff.1 z.2).1; rw [HM.out] at this; omega)]
    clear s0 s1 s2 s3 s4 s5 s6 s7 e0 e1 e2 e3 e4 f6 f7 c0 c17
    obtain ⟨old, hbr, hold⟩ := HV.out.br
    have HBR := Lib.hid hbr; have HOL := Lib.hid hold; have HBF := Lib.hid HV.out.bf
    clear hbr hold
    go_wp2_with (first
     | (with_reducible (show wpList _ _ _ _ _ _); refine ld_flat rfl (.tmp 3) rfl w.heap.size rfl HBF.out ?_)
     | (with_reducible (show wpList _ _ _ _ _ _); refine st_flat rfl (.tmp 6) (.tmp 365) rfl (w.heap.size + 1 + 1) rfl rfl rfl rfl old HBR.out HOL.out ?_))
    refine ret_flat2 rfl (w.heap.size + 1 + 1) rfl (BF.row HBR.out) rfl ?_
    exact FrN.no HV.out HH.out (by show Option.map _ R = none; rw [HRE.out]; rfl)
   | true =>
    have h0 : 0 ≤ a := by simpa using ta
    have h1 : a < (m : Int) := by simpa using tm
    obtain ⟨k, rfl⟩ := Int.eq_ofNat_of_zero_le h0
    have hk : k < m := by omega
    obtain ⟨z, hz⟩ : ∃ z, f.ow[k]? = some z := ⟨_, List.getElem?_eq_getElem (by rw [HM.out]; exact hk)⟩
    obtain ⟨A', c', hA', hN'⟩ := (HH.out.below HV.out.bl).ow
    simp only [Value.slice.injEq, HM.out, true_and] at hA'
    obtain ⟨rfl, rfl⟩ := hA'
    obtain ⟨go, ofo, rfl, -, hcz⟩ := hN' k z hz
    have HZ := Lib.hid hz
    clear hz hN'
    obtain ⟨bz, tz⟩ : ∃ bz : Bool, (z == (i : Int)) = bz := ⟨_, rfl⟩
    cases bz with
    | false =>
     go_upto_region 45 with fail
     go_quiet (fail)
     have hv : FrN w (V.drewN nq) (.slice (some ⟨g, off, none⟩) n c) (.slice (some ⟨go, ofo, none⟩) m c2) f.p f.tm ⟨10, i, cpu, (k : Int), b⟩ q3 (taskC ⟨pg, pc, ⟨ra, rb, rc, rd⟩, st, on⟩) := HV.out.on ⟨rfl, rfl, rfl, Nat.le_refl _, fun _ _ => rfl⟩
     clear s0 s1 s2 s3 s4 s5 s6 s7 e0 e1 e2 e3 e4 f6 f7 c0 c17
     clear HV hcz
     generalize V.drewN nq = V at *
     have HV := Lib.hid hv
     clear hv
     obtain ⟨e0, e1, e2, e3, e4, s0, s1, s2, s3, s4, s5, s6, s7, f6, f7, c0, c17⟩ := HV.out.facts
     go_upto_region 61 with fail
     have HRE : Hid (R = none) := by
      show _ = _
      rw [← HR.out]
      unfold passP
      have hz : z ≠ (i : Int) := by simpa using tz
      rw [if_neg fun q => hz (by have := q.2; rw [show (k : Int).toNat = k by omega, HZ.out] at this; exact Option.some.inj this)]
     clear s0 s1 s2 s3 s4 s5 s6 s7 e0 e1 e2 e3 e4 f6 f7 c0 c17
     obtain ⟨old, hbr, hold⟩ := HV.out.br
     have HBR := Lib.hid hbr; have HOL := Lib.hid hold; have HBF := Lib.hid HV.out.bf
     clear hbr hold
     go_wp2_with (first
      | (with_reducible (show wpList _ _ _ _ _ _); refine ld_flat rfl (.tmp 3) rfl w.heap.size rfl HBF.out ?_)
      | (with_reducible (show wpList _ _ _ _ _ _); refine st_flat rfl (.tmp 6) (.tmp 365) rfl (w.heap.size + 1 + 1) rfl rfl rfl rfl old HBR.out HOL.out ?_))
     refine ret_flat2 rfl (w.heap.size + 1 + 1) rfl (BF.row HBR.out) rfl ?_
     exact FrN.no HV.out HH.out (by show Option.map _ R = none; rw [HRE.out]; rfl)
    | true =>
     go_upto_region 45 with fail
     go_quiet (fail)
     have hv : FrN w (V.drewN nq) (.slice (some ⟨g, off, none⟩) n c) (.slice (some ⟨go, ofo, none⟩) m c2) f.p f.tm ⟨10, i, cpu, (k : Int), b⟩ q3 (taskC ⟨pg, pc, ⟨ra, rb, rc, rd⟩, st, on⟩) := HV.out.on ⟨rfl, rfl, rfl, Nat.le_refl _, fun _ _ => rfl⟩
     clear s0 s1 s2 s3 s4 s5 s6 s7 e0 e1 e2 e3 e4 f6 f7 c0 c17
     clear HV hcz
     generalize V.drewN nq = V at *
     have HV := Lib.hid hv
     clear hv
     obtain ⟨e0, e1, e2, e3, e4, s0, s1, s2, s3, s4, s5, s6, s7, f6, f7, c0, c17⟩ := HV.out.facts
     go_upto_region 46 with fail
     have HRE : Hid (R = some (f.ow.set k (-1))) := by
      show _ = _
      rw [← HR.out]
      unfold passP
      have hz : z = (i : Int) := by simpa using tz
      rw [show (k : Int).toNat = k by omega, if_pos ⟨h0, by rw [HZ.out, hz]⟩]
     clear s0 s1 s2 s3 s4 s5 s6 s7 f6 f7 c0 c17
     obtain ⟨old, hbr, hold⟩ := HV.out.br
     have HBR := Lib.hid hbr; have HOL := Lib.hid hold; have HBF := Lib.hid HV.out.bf
     clear hbr hold
     have HWI : Hid (Calls Tryd.prog 22 #[.agg (flL (.slice (some ⟨g, off, none⟩) n c) (.slice (some ⟨go, ofo, none⟩) m c2) f.p f.tm).toArray, .int .i64 k, .int .i64 (-1)] V (WitG V (.slice (some ⟨g, off, none⟩) n c) (.slice (some ⟨go, ofo, none⟩) m c2) f.ts f.ow f.p f.tm f.ts (f.ow.set k (-1)))) :=
      owned_any (HH.out.below HV.out.bl) (by rw [HM.out]; exact hm) k (by rw [HM.out]; exact hk) (-1)
     go_wp2_with (first
      | (with_reducible (show wpList _ _ _ _ _ _); refine ld_flat rfl (.tmp 3) rfl w.heap.size rfl HBF.out ?_)
      | (go_at_call 22; (with_reducible refine HWI.out.mono ?_); rintro e w7 ⟨F7, O7, rfl, h7, hX7, hC7, hb7⟩; have HB7 := Lib.hid hb7; have HC7 := Lib.hid hC7; have H7 := Lib.hid h7; have HX7 := Lib.hid hX7; have HBR7 := Lib.hid (HBR.out.below hb7 HBR.out.lt); have oF7 := h7.one.1; have oO7 := h7.one.2; clear h7 hb7 hX7 hC7)
      | (with_reducible (show wpList _ _ _ _ _ _); refine st_flat rfl (.tmp 6) (.tmp 286) rfl (w.heap.size + 1 + 1) rfl rfl oF7 oO7 old HBR7.out HOL.out ?_))
     refine ret_flat2 rfl (w.heap.size + 1 + 1) rfl (BF.row HBR7.out) rfl ?_
     exact FrN.yes HV.out HH.out H7.out HX7.out HC7.out HB7.out (by show Option.map _ R = _; rw [HRE.out]; rfl)
end
end Go.Proofs.YtilaalleiiakoaaDoor
