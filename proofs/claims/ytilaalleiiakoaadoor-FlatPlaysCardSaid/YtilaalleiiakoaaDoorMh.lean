/- The document's Next: a task goes home (layer 19): printed by wip/src19/gen_mg.py. -/
import Derived.Test.YtilaalleiiakoaaDoorMg
namespace Go.Proofs.YtilaalleiiakoaaDoor
open Go.RowKit
set_option maxRecDepth 100000

section
variable {w : World} {B : Nat} {F O : Value} {f : Fl} {i : Nat} {x : FT} {PA : Option Addr} {ps : List PR}

set_option maxHeartbeats 8000000 in
theorem nx_5 (h : InF w F O f.ts f.ow) (hl : f.ts.length ≤ 1000) (_ : f.ow.length ≤ 1000) (hx : f.ts[i]? = some x) (pcap : Nat) (cpu a b : Int) (hs : 0 ≤ x.st ∧ x.st ≤ 8) :
  Calls Tryd.prog 10 #[flV F O f.p f.tm, .slice PA ps.length pcap, evV ⟨5, i, cpu, a, b⟩] w (NxtG w F O f ((taskP f ps ⟨5, i, cpu, a, b⟩ x).map fun y => { f with ts := f.ts.set i y })) := by
 have hH := h
 obtain ⟨⟨A, c, rfl, hT⟩, ⟨A2, c2, rfl, hO⟩⟩ := h
 obtain ⟨g, off, rfl, -, -⟩ := hT i x hx
 have HH := Lib.hid hH; have HX := Lib.hid hx; have HT := Lib.hid hT
 have hfr := FrU.new w (.slice (some ⟨g, off, none⟩) f.ts.length c) (.slice A2 f.ow.length c2) f.p f.tm ⟨5, i, cpu, a, b⟩ #[.slice none 0 0, .int .u64 0, .int .u64 0, .int .u64 0, .int .u64 0, .int .u64 0, .int .u64 0, .int .u64 0, .int .u64 0, .int .u64 0, .int .u64 0, .int .u64 0, .int .u64 0, .int .u64 0, .int .u64 0, .int .u64 0, .int .u64 0, .slice none 0 0, .int .i64 0] rfl
 obtain ⟨R, hR⟩ : ∃ R, taskP f ps ⟨5, i, cpu, a, b⟩ x = R := ⟨_, rfl⟩
 have HR := Lib.hid hR
 rw [hR]
 have hil := (List.getElem?_eq_some_iff.1 hx).1
 obtain ⟨n, hn⟩ : ∃ n, f.ts.length = n := ⟨_, rfl⟩
 obtain ⟨m, hm'⟩ : ∃ m, f.ow.length = m := ⟨_, rfl⟩
 have HN := Lib.hid hn; have HM := Lib.hid hm'
 rw [hn] at hfr hil hl HH ⊢
 rw [hm'] at hfr  HH ⊢
 clear hH hx hT hO hR hn hm'
 have i0 : (0 : Int) ≤ (i : Int) := by omega
 have i1 : (i : Int) < (n : Int) := by omega
 have u0 : decide ((i : Int) < 0) = false := decide_eq_false (by omega)
 have u1 : decide ((n : Int) ≤ (i : Int)) = false := decide_eq_false (by omega)
 dsimp only at hfr
 go_enter Tryd.func10, Tryd.ntmps10
 go_upto_region 1 with fail
 generalize ((w.alloc (.cells (flL (.slice (some ⟨g, off, none⟩) n c) (.slice A2 m c2) f.p f.tm).toArray 30)).alloc (.cells #[.int .i64 5, .int .i64 i, .int .i64 cpu, .int .i64 a, .int .i64 b] 36)).alloc (.cells #[.slice none 0 0, .int .u64 0, .int .u64 0, .int .u64 0, .int .u64 0, .int .u64 0, .int .u64 0, .int .u64 0, .int .u64 0, .int .u64 0, .int .u64 0, .int .u64 0, .int .u64 0, .int .u64 0, .int .u64 0, .int .u64 0, .int .u64 0, .slice none 0 0, .int .i64 0] 30) = W at *
 have HFR := Lib.hid hfr
 obtain ⟨e0, e1, e2, e3, e4⟩ := hfr.ev
 dsimp only at e0 e1 e2 e3 e4
 have c0 := BF.c0 hfr.bf
 obtain ⟨g', off', hge, -, hr⟩ := (HT.out.below hfr.bl) i _ HX.out
 simp only [Option.some.injEq, Addr.mk.injEq, and_true] at hge
 obtain ⟨rfl, rfl⟩ := hge
 obtain ⟨d0, d1, d2, d3, d4, d5, d6, d7⟩ := task_cells hr
 obtain ⟨pg, pc, ⟨ra, rb, rc, rd⟩, st, on⟩ := x
 dsimp only at d0 d1 d2 d3 d4 d5 d6 d7
 clear hfr hr
 go_upto_region 11 with fail
 have hv : FrN w (W.alloc (.cells #[.int .i64 pg, .int .i64 pc, .int .i32 ra, .int .i32 rb, .int .i32 rc, .int .i32 rd, .int .i64 st, .int .i64 on] 45)) (.slice (some ⟨g, off, none⟩) n c) (.slice A2 m c2) f.p f.tm ⟨5, i, cpu, a, b⟩ W.heap.size (taskC ⟨pg, pc, ⟨ra, rb, rc, rd⟩, st, on⟩) := FrN.new HFR.out _
 generalize W.alloc (.cells #[.int .i64 pg, .int .i64 pc, .int .i32 ra, .int .i32 rb, .int .i32 rc, .int .i32 rd, .int .i64 st, .int .i64 on] 45) = V at *
 generalize W.heap.size = q3 at *
 have HV := Lib.hid hv
 clear e0 e1 e2 e3 e4 c0 d0 d1 d2 d3 d4 d5 d6 d7 HFR hv
 obtain ⟨e0, e1, e2, e3, e4, s0, s1, s2, s3, s4, s5, s6, s7, f6, f7, c0, c17⟩ := HV.out.facts
 obtain ⟨ba, ta⟩ : ∃ ba : Bool, decide (0 ≤ a) = ba := ⟨_, rfl⟩
 obtain ⟨b2, t2⟩ : ∃ b2 : Bool, (st == 2) = b2 := ⟨_, rfl⟩
 obtain ⟨b8, t8⟩ : ∃ b8 : Bool, (st == 8) = b8 := ⟨_, rfl⟩
 cases ba
 all_goals
  cases b2 with
  | false =>
   cases b8 with
   | false =>
    have n2 : (st != 2) = true := by rw [bne, t2]; rfl
    have n8 : (st != 8) = true := by rw [bne, t8]; rfl
    have hva := HV.out.on (W := (V.alloc (.cells #[.int .i64 1, .int .i64 7, .int .i64 6] 3))) ((Below.refl _ _).alloc (Nat.le_refl _) _)
    have ea := hva.ev.1
    have fa := hva.free 6
    have sa := hva.task.2.2.2.2.2.2.1
    dsimp only at ea sa
    clear hva
    go_upto_region 35 with fail
    clear ea fa sa
    have hv := (HV.out.on (W := (V.alloc (.cells #[.int .i64 1, .int .i64 7, .int .i64 6] 3))) ((Below.refl _ _).alloc (Nat.le_refl _) _)).set 6 (.int .i64 1) (D := taskC ⟨pg, pc, ⟨ra, rb, rc, rd⟩, 1, on⟩) rfl
    clear s0 s1 s2 s3 s4 s5 s6 s7 e0 e1 e2 e3 e4 f6 f7 c0 c17
    clear HV
    generalize ((V.alloc (.cells #[.int .i64 1, .int .i64 7, .int .i64 6] 3)).setCell ⟨q3, 6, none⟩ (.int .i64 1)) = V at *
    have HV := Lib.hid hv
    clear hv
    obtain ⟨e0, e1, e2, e3, e4, s0, s1, s2, s3, s4, s5, s6, s7, f6, f7, c0, c17⟩ := HV.out.facts
    go_upto_region 36 with fail
    have hv := HV.out.set 7 (.int .i64 a) (D := taskC ⟨pg, pc, ⟨ra, rb, rc, rd⟩, 1, a⟩) rfl
    clear s0 s1 s2 s3 s4 s5 s6 s7 e0 e1 e2 e3 e4 f6 f7 c0 c17
    clear HV
    generalize (V.setCell ⟨q3, 7, none⟩ (.int .i64 a)) = V at *
    have HV := Lib.hid hv
    clear hv
    obtain ⟨e0, e1, e2, e3, e4, s0, s1, s2, s3, s4, s5, s6, s7, f6, f7, c0, c17⟩ := HV.out.facts
    go_upto_region 61 with fail
    have HRE : Hid (R = some ⟨pg, pc, ⟨ra, rb, rc, rd⟩, 1, a⟩) := by
     show _ = _
     rw [← HR.out]
     unfold taskP
     simp only [Int.reduceEq, ↓reduceIte]
     have h2 : st ≠ 2 := by simpa using t2
     have h8 : st ≠ 8 := by simpa using t8
     have hs2 : 0 ≤ st ∧ st ≤ 8 := hs
     have hh : homeP st = true := by unfold homeP; simp; omega
     rw [if_pos hh]
     (try rfl)
    clear s0 s1 s2 s3 s4 s5 s6 s7 e0 e1 e2 e3 e4 f6 f7 c0 c17
    obtain ⟨old, hbr, hold⟩ := HV.out.br
    have HBR := Lib.hid hbr; have HOL := Lib.hid hold; have HBF := Lib.hid HV.out.bf; have HBX := Lib.hid HV.out.bx
    clear hbr hold
    obtain ⟨C, hC⟩ : ∃ C, taskC ⟨pg, pc, ⟨ra, rb, rc, rd⟩, 1, a⟩ = C := ⟨_, rfl⟩
    have HCL : Hid (C.length = 8) := by show _ = _; rw [← hC]; rfl
    have HWI : Hid (Calls Tryd.prog 23 #[.agg (flL (.slice (some ⟨g, off, none⟩) n c) (.slice A2 m c2) f.p f.tm).toArray, .int .i64 i, .agg C.toArray] V (WitG V (.slice (some ⟨g, off, none⟩) n c) (.slice A2 m c2) f.ts f.ow f.p f.tm (f.ts.set i ⟨pg, pc, ⟨ra, rb, rc, rd⟩, 1, a⟩) f.ow)) := by
     rw [← hC]; exact with_any (HH.out.below HV.out.bl) (by rw [HN.out]; exact hl) i (by rw [HN.out]; omega) ⟨pg, pc, ⟨ra, rb, rc, rd⟩, 1, a⟩
    rw [hC] at HBX
    have e1 : V.cell? ⟨w.heap.size + 1, 1, none⟩ = some (.int .i64 i) := HV.out.ev.2.1
    clear hC
    go_wp2_with (first
     | (with_reducible (show wpList _ _ _ _ _ _); refine ld_flat rfl (.tmp 3) rfl w.heap.size rfl HBF.out ?_)
     | (with_reducible (show wpList _ _ _ _ _ _); refine ld_ft rfl (.tmp 8) rfl q3 rfl HBX.out HCL.out ?_)
     | (go_at_call 23; (with_reducible refine HWI.out.mono ?_); rintro e w7 ⟨F7, O7, rfl, h7, hX7, hC7, hb7⟩; have HB7 := Lib.hid hb7; have HC7 := Lib.hid hC7; have H7 := Lib.hid h7; have HX7 := Lib.hid hX7; have HBR7 := Lib.hid (HBR.out.below hb7 HBR.out.lt); have oF7 := h7.one.1; have oO7 := h7.one.2; clear h7 hb7 hX7 hC7)
     | (with_reducible (show wpList _ _ _ _ _ _); refine st_flat rfl (.tmp 6) (.tmp 370) rfl (w.heap.size + 1 + 1) rfl rfl oF7 oO7 old HBR7.out HOL.out ?_))
    refine ret_flat2 rfl (w.heap.size + 1 + 1) rfl (BF.row HBR7.out) rfl ?_
    exact FrN.yes HV.out HH.out H7.out HX7.out HC7.out HB7.out (by show Option.map _ R = _; rw [HRE.out]; rfl)
   | true =>
    have n2 : (st != 2) = true := by rw [bne, t2]; rfl
    have n8 : (st != 8) = false := by rw [bne, t8]; rfl
    have hva := HV.out.on (W := (V.alloc (.cells #[.int .i64 1, .int .i64 7, .int .i64 6] 3))) ((Below.refl _ _).alloc (Nat.le_refl _) _)
    have ea := hva.ev.1
    have fa := hva.free 6
    have sa := hva.task.2.2.2.2.2.2.1
    dsimp only at ea sa
    clear hva
    go_upto_region 35 with fail
    clear ea fa sa
    have hv := (HV.out.on (W := (V.alloc (.cells #[.int .i64 1, .int .i64 7, .int .i64 6] 3))) ((Below.refl _ _).alloc (Nat.le_refl _) _)).set 6 (.int .i64 1) (D := taskC ⟨pg, pc, ⟨ra, rb, rc, rd⟩, 1, on⟩) rfl
    clear s0 s1 s2 s3 s4 s5 s6 s7 e0 e1 e2 e3 e4 f6 f7 c0 c17
    clear HV
    generalize ((V.alloc (.cells #[.int .i64 1, .int .i64 7, .int .i64 6] 3)).setCell ⟨q3, 6, none⟩ (.int .i64 1)) = V at *
    have HV := Lib.hid hv
    clear hv
    obtain ⟨e0, e1, e2, e3, e4, s0, s1, s2, s3, s4, s5, s6, s7, f6, f7, c0, c17⟩ := HV.out.facts
    go_upto_region 36 with fail
    have hv := HV.out.set 7 (.int .i64 a) (D := taskC ⟨pg, pc, ⟨ra, rb, rc, rd⟩, 1, a⟩) rfl
    clear s0 s1 s2 s3 s4 s5 s6 s7 e0 e1 e2 e3 e4 f6 f7 c0 c17
    clear HV
    generalize (V.setCell ⟨q3, 7, none⟩ (.int .i64 a)) = V at *
    have HV := Lib.hid hv
    clear hv
    obtain ⟨e0, e1, e2, e3, e4, s0, s1, s2, s3, s4, s5, s6, s7, f6, f7, c0, c17⟩ := HV.out.facts
    go_upto_region 61 with fail
    have HRE : Hid (R = none) := by
     show _ = _
     rw [← HR.out]
     unfold taskP
     simp only [Int.reduceEq, ↓reduceIte]
     have h8 : st = 8 := by simpa using t8
     have hs2 : 0 ≤ st ∧ st ≤ 8 := hs
     have hh : ¬ homeP st = true := by unfold homeP; simp; omega
     rw [if_neg hh]
     (try rfl)
    clear s0 s1 s2 s3 s4 s5 s6 s7 e0 e1 e2 e3 e4 f6 f7 c0 c17
    obtain ⟨old, hbr, hold⟩ := HV.out.br
    have HBR := Lib.hid hbr; have HOL := Lib.hid hold; have HBF := Lib.hid HV.out.bf; have HBX := Lib.hid HV.out.bx
    clear hbr hold
    go_wp2_with (first
     | (with_reducible (show wpList _ _ _ _ _ _); refine ld_flat rfl (.tmp 3) rfl w.heap.size rfl HBF.out ?_)
     | (with_reducible (show wpList _ _ _ _ _ _); refine st_flat rfl (.tmp 6) (.tmp 365) rfl (w.heap.size + 1 + 1) rfl rfl rfl rfl old HBR.out HOL.out ?_))
    refine ret_flat2 rfl (w.heap.size + 1 + 1) rfl (BF.row HBR.out) rfl ?_
    exact FrN.no HV.out HH.out (by show Option.map _ R = none; rw [HRE.out]; rfl)
  | true =>
   have n2 : (st != 2) = false := by rw [bne, t2]; rfl
   have hva := HV.out.on (W := (V.alloc (.cells #[.int .i64 1, .int .i64 7, .int .i64 6] 3))) ((Below.refl _ _).alloc (Nat.le_refl _) _)
   have ea := hva.ev.1
   have fa := hva.free 6
   have sa := hva.task.2.2.2.2.2.2.1
   dsimp only at ea sa
   clear hva
   go_upto_region 35 with fail
   clear ea fa sa
   have hv := (HV.out.on (W := (V.alloc (.cells #[.int .i64 1, .int .i64 7, .int .i64 6] 3))) ((Below.refl _ _).alloc (Nat.le_refl _) _)).set 6 (.int .i64 1) (D := taskC ⟨pg, pc, ⟨ra, rb, rc, rd⟩, 1, on⟩) rfl
   clear s0 s1 s2 s3 s4 s5 s6 s7 e0 e1 e2 e3 e4 f6 f7 c0 c17
   clear HV
   generalize ((V.alloc (.cells #[.int .i64 1, .int .i64 7, .int .i64 6] 3)).setCell ⟨q3, 6, none⟩ (.int .i64 1)) = V at *
   have HV := Lib.hid hv
   clear hv
   obtain ⟨e0, e1, e2, e3, e4, s0, s1, s2, s3, s4, s5, s6, s7, f6, f7, c0, c17⟩ := HV.out.facts
   go_upto_region 36 with fail
   have hv := HV.out.set 7 (.int .i64 a) (D := taskC ⟨pg, pc, ⟨ra, rb, rc, rd⟩, 1, a⟩) rfl
   clear s0 s1 s2 s3 s4 s5 s6 s7 e0 e1 e2 e3 e4 f6 f7 c0 c17
   clear HV
   generalize (V.setCell ⟨q3, 7, none⟩ (.int .i64 a)) = V at *
   have HV := Lib.hid hv
   clear hv
   obtain ⟨e0, e1, e2, e3, e4, s0, s1, s2, s3, s4, s5, s6, s7, f6, f7, c0, c17⟩ := HV.out.facts
   go_upto_region 61 with fail
   have HRE : Hid (R = none) := by
    show _ = _
    rw [← HR.out]
    unfold taskP
    simp only [Int.reduceEq, ↓reduceIte]
    have h2 : st = 2 := by simpa using t2
    have hs2 : 0 ≤ st ∧ st ≤ 8 := hs
    have hh : ¬ homeP st = true := by unfold homeP; simp; omega
    rw [if_neg hh]
    (try rfl)
   clear s0 s1 s2 s3 s4 s5 s6 s7 e0 e1 e2 e3 e4 f6 f7 c0 c17
   obtain ⟨old, hbr, hold⟩ := HV.out.br
   have HBR := Lib.hid hbr; have HOL := Lib.hid hold; have HBF := Lib.hid HV.out.bf; have HBX := Lib.hid HV.out.bx
   clear hbr hold
   go_wp2_with (first
    | (with_reducible (show wpList _ _ _ _ _ _); refine ld_flat rfl (.tmp 3) rfl w.heap.size rfl HBF.out ?_)
    | (with_reducible (show wpList _ _ _ _ _ _); refine st_flat rfl (.tmp 6) (.tmp 365) rfl (w.heap.size + 1 + 1) rfl rfl rfl rfl old HBR.out HOL.out ?_))
   refine ret_flat2 rfl (w.heap.size + 1 + 1) rfl (BF.row HBR.out) rfl ?_
   exact FrN.no HV.out HH.out (by show Option.map _ R = none; rw [HRE.out]; rfl)

set_option maxHeartbeats 8000000 in
theorem nx_6 (h : InF w F O f.ts f.ow) (hl : f.ts.length ≤ 1000) (_ : f.ow.length ≤ 1000) (hx : f.ts[i]? = some x) (pcap : Nat) (cpu a b : Int) (hs : 0 ≤ x.st ∧ x.st ≤ 8) :
  Calls Tryd.prog 10 #[flV F O f.p f.tm, .slice PA ps.length pcap, evV ⟨6, i, cpu, a, b⟩] w (NxtG w F O f ((taskP f ps ⟨6, i, cpu, a, b⟩ x).map fun y => { f with ts := f.ts.set i y })) := by
 have hH := h
 obtain ⟨⟨A, c, rfl, hT⟩, ⟨A2, c2, rfl, hO⟩⟩ := h
 obtain ⟨g, off, rfl, -, -⟩ := hT i x hx
 have HH := Lib.hid hH; have HX := Lib.hid hx; have HT := Lib.hid hT
 have hfr := FrU.new w (.slice (some ⟨g, off, none⟩) f.ts.length c) (.slice A2 f.ow.length c2) f.p f.tm ⟨6, i, cpu, a, b⟩ #[.slice none 0 0, .int .u64 0, .int .u64 0, .int .u64 0, .int .u64 0, .int .u64 0, .int .u64 0, .int .u64 0, .int .u64 0, .int .u64 0, .int .u64 0, .int .u64 0, .int .u64 0, .int .u64 0, .int .u64 0, .int .u64 0, .int .u64 0, .slice none 0 0, .int .i64 0] rfl
 obtain ⟨R, hR⟩ : ∃ R, taskP f ps ⟨6, i, cpu, a, b⟩ x = R := ⟨_, rfl⟩
 have HR := Lib.hid hR
 rw [hR]
 have hil := (List.getElem?_eq_some_iff.1 hx).1
 obtain ⟨n, hn⟩ : ∃ n, f.ts.length = n := ⟨_, rfl⟩
 obtain ⟨m, hm'⟩ : ∃ m, f.ow.length = m := ⟨_, rfl⟩
 have HN := Lib.hid hn; have HM := Lib.hid hm'
 rw [hn] at hfr hil hl HH ⊢
 rw [hm'] at hfr  HH ⊢
 clear hH hx hT hO hR hn hm'
 have i0 : (0 : Int) ≤ (i : Int) := by omega
 have i1 : (i : Int) < (n : Int) := by omega
 have u0 : decide ((i : Int) < 0) = false := decide_eq_false (by omega)
 have u1 : decide ((n : Int) ≤ (i : Int)) = false := decide_eq_false (by omega)
 dsimp only at hfr
 go_enter Tryd.func10, Tryd.ntmps10
 go_upto_region 1 with fail
 generalize ((w.alloc (.cells (flL (.slice (some ⟨g, off, none⟩) n c) (.slice A2 m c2) f.p f.tm).toArray 30)).alloc (.cells #[.int .i64 6, .int .i64 i, .int .i64 cpu, .int .i64 a, .int .i64 b] 36)).alloc (.cells #[.slice none 0 0, .int .u64 0, .int .u64 0, .int .u64 0, .int .u64 0, .int .u64 0, .int .u64 0, .int .u64 0, .int .u64 0, .int .u64 0, .int .u64 0, .int .u64 0, .int .u64 0, .int .u64 0, .int .u64 0, .int .u64 0, .int .u64 0, .slice none 0 0, .int .i64 0] 30) = W at *
 have HFR := Lib.hid hfr
 obtain ⟨e0, e1, e2, e3, e4⟩ := hfr.ev
 dsimp only at e0 e1 e2 e3 e4
 have c0 := BF.c0 hfr.bf
 obtain ⟨g', off', hge, -, hr⟩ := (HT.out.below hfr.bl) i _ HX.out
 simp only [Option.some.injEq, Addr.mk.injEq, and_true] at hge
 obtain ⟨rfl, rfl⟩ := hge
 obtain ⟨d0, d1, d2, d3, d4, d5, d6, d7⟩ := task_cells hr
 obtain ⟨pg, pc, ⟨ra, rb, rc, rd⟩, st, on⟩ := x
 dsimp only at d0 d1 d2 d3 d4 d5 d6 d7
 clear hfr hr
 go_upto_region 11 with fail
 have hv : FrN w (W.alloc (.cells #[.int .i64 pg, .int .i64 pc, .int .i32 ra, .int .i32 rb, .int .i32 rc, .int .i32 rd, .int .i64 st, .int .i64 on] 45)) (.slice (some ⟨g, off, none⟩) n c) (.slice A2 m c2) f.p f.tm ⟨6, i, cpu, a, b⟩ W.heap.size (taskC ⟨pg, pc, ⟨ra, rb, rc, rd⟩, st, on⟩) := FrN.new HFR.out _
 generalize W.alloc (.cells #[.int .i64 pg, .int .i64 pc, .int .i32 ra, .int .i32 rb, .int .i32 rc, .int .i32 rd, .int .i64 st, .int .i64 on] 45) = V at *
 generalize W.heap.size = q3 at *
 have HV := Lib.hid hv
 clear e0 e1 e2 e3 e4 c0 d0 d1 d2 d3 d4 d5 d6 d7 HFR hv
 obtain ⟨e0, e1, e2, e3, e4, s0, s1, s2, s3, s4, s5, s6, s7, f6, f7, c0, c17⟩ := HV.out.facts
 obtain ⟨ba, ta⟩ : ∃ ba : Bool, decide (0 ≤ a) = ba := ⟨_, rfl⟩
 obtain ⟨b2, t2⟩ : ∃ b2 : Bool, (st == 2) = b2 := ⟨_, rfl⟩
 obtain ⟨b8, t8⟩ : ∃ b8 : Bool, (st == 8) = b8 := ⟨_, rfl⟩
 cases ba
 all_goals
  cases b2 with
  | false =>
   cases b8 with
   | false =>
    have n2 : (st != 2) = true := by rw [bne, t2]; rfl
    have n8 : (st != 8) = true := by rw [bne, t8]; rfl
    have hva := HV.out.on (W := (V.alloc (.cells #[.int .i64 1, .int .i64 7, .int .i64 6] 3))) ((Below.refl _ _).alloc (Nat.le_refl _) _)
    have ea := hva.ev.1
    have fa := hva.free 6
    have sa := hva.task.2.2.2.2.2.2.1
    dsimp only at ea sa
    clear hva
    go_upto_region 35 with fail
    clear ea fa sa
    have hv := (HV.out.on (W := (V.alloc (.cells #[.int .i64 1, .int .i64 7, .int .i64 6] 3))) ((Below.refl _ _).alloc (Nat.le_refl _) _)).set 6 (.int .i64 7) (D := taskC ⟨pg, pc, ⟨ra, rb, rc, rd⟩, 7, on⟩) rfl
    clear s0 s1 s2 s3 s4 s5 s6 s7 e0 e1 e2 e3 e4 f6 f7 c0 c17
    clear HV
    generalize ((V.alloc (.cells #[.int .i64 1, .int .i64 7, .int .i64 6] 3)).setCell ⟨q3, 6, none⟩ (.int .i64 7)) = V at *
    have HV := Lib.hid hv
    clear hv
    obtain ⟨e0, e1, e2, e3, e4, s0, s1, s2, s3, s4, s5, s6, s7, f6, f7, c0, c17⟩ := HV.out.facts
    go_upto_region 36 with fail
    have hv := HV.out.set 7 (.int .i64 a) (D := taskC ⟨pg, pc, ⟨ra, rb, rc, rd⟩, 7, a⟩) rfl
    clear s0 s1 s2 s3 s4 s5 s6 s7 e0 e1 e2 e3 e4 f6 f7 c0 c17
    clear HV
    generalize (V.setCell ⟨q3, 7, none⟩ (.int .i64 a)) = V at *
    have HV := Lib.hid hv
    clear hv
    obtain ⟨e0, e1, e2, e3, e4, s0, s1, s2, s3, s4, s5, s6, s7, f6, f7, c0, c17⟩ := HV.out.facts
    go_upto_region 61 with fail
    have hv := HV.out.set 7 (.int .i64 0) (D := taskC ⟨pg, pc, ⟨ra, rb, rc, rd⟩, 7, 0⟩) rfl
    clear s0 s1 s2 s3 s4 s5 s6 s7 e0 e1 e2 e3 e4 f6 f7 c0 c17
    clear HV
    generalize (V.setCell ⟨q3, 7, none⟩ (.int .i64 0)) = V at *
    have HV := Lib.hid hv
    clear hv
    obtain ⟨e0, e1, e2, e3, e4, s0, s1, s2, s3, s4, s5, s6, s7, f6, f7, c0, c17⟩ := HV.out.facts
    go_upto_region 61 with fail
    have HRE : Hid (R = some ⟨pg, pc, ⟨ra, rb, rc, rd⟩, 7, 0⟩) := by
     show _ = _
     rw [← HR.out]
     unfold taskP
     simp only [Int.reduceEq, ↓reduceIte]
     have h2 : st ≠ 2 := by simpa using t2
     have h8 : st ≠ 8 := by simpa using t8
     have hs2 : 0 ≤ st ∧ st ≤ 8 := hs
     have hh : homeP st = true := by unfold homeP; simp; omega
     rw [if_pos hh]
     (try rfl)
    clear s0 s1 s2 s3 s4 s5 s6 s7 e0 e1 e2 e3 e4 f6 f7 c0 c17
    obtain ⟨old, hbr, hold⟩ := HV.out.br
    have HBR := Lib.hid hbr; have HOL := Lib.hid hold; have HBF := Lib.hid HV.out.bf; have HBX := Lib.hid HV.out.bx
    clear hbr hold
    obtain ⟨C, hC⟩ : ∃ C, taskC ⟨pg, pc, ⟨ra, rb, rc, rd⟩, 7, 0⟩ = C := ⟨_, rfl⟩
    have HCL : Hid (C.length = 8) := by show _ = _; rw [← hC]; rfl
    have HWI : Hid (Calls Tryd.prog 23 #[.agg (flL (.slice (some ⟨g, off, none⟩) n c) (.slice A2 m c2) f.p f.tm).toArray, .int .i64 i, .agg C.toArray] V (WitG V (.slice (some ⟨g, off, none⟩) n c) (.slice A2 m c2) f.ts f.ow f.p f.tm (f.ts.set i ⟨pg, pc, ⟨ra, rb, rc, rd⟩, 7, 0⟩) f.ow)) := by
     rw [← hC]; exact with_any (HH.out.below HV.out.bl) (by rw [HN.out]; exact hl) i (by rw [HN.out]; omega) ⟨pg, pc, ⟨ra, rb, rc, rd⟩, 7, 0⟩
    rw [hC] at HBX
    have e1 : V.cell? ⟨w.heap.size + 1, 1, none⟩ = some (.int .i64 i) := HV.out.ev.2.1
    clear hC
    go_wp2_with (first
     | (with_reducible (show wpList _ _ _ _ _ _); refine ld_flat rfl (.tmp 3) rfl w.heap.size rfl HBF.out ?_)
     | (with_reducible (show wpList _ _ _ _ _ _); refine ld_ft rfl (.tmp 8) rfl q3 rfl HBX.out HCL.out ?_)
     | (go_at_call 23; (with_reducible refine HWI.out.mono ?_); rintro e w7 ⟨F7, O7, rfl, h7, hX7, hC7, hb7⟩; have HB7 := Lib.hid hb7; have HC7 := Lib.hid hC7; have H7 := Lib.hid h7; have HX7 := Lib.hid hX7; have HBR7 := Lib.hid (HBR.out.below hb7 HBR.out.lt); have oF7 := h7.one.1; have oO7 := h7.one.2; clear h7 hb7 hX7 hC7)
     | (with_reducible (show wpList _ _ _ _ _ _); refine st_flat rfl (.tmp 6) (.tmp 370) rfl (w.heap.size + 1 + 1) rfl rfl oF7 oO7 old HBR7.out HOL.out ?_))
    refine ret_flat2 rfl (w.heap.size + 1 + 1) rfl (BF.row HBR7.out) rfl ?_
    exact FrN.yes HV.out HH.out H7.out HX7.out HC7.out HB7.out (by show Option.map _ R = _; rw [HRE.out]; rfl)
   | true =>
    have n2 : (st != 2) = true := by rw [bne, t2]; rfl
    have n8 : (st != 8) = false := by rw [bne, t8]; rfl
    have hva := HV.out.on (W := (V.alloc (.cells #[.int .i64 1, .int .i64 7, .int .i64 6] 3))) ((Below.refl _ _).alloc (Nat.le_refl _) _)
    have ea := hva.ev.1
    have fa := hva.free 6
    have sa := hva.task.2.2.2.2.2.2.1
    dsimp only at ea sa
    clear hva
    go_upto_region 35 with fail
    clear ea fa sa
    have hv := (HV.out.on (W := (V.alloc (.cells #[.int .i64 1, .int .i64 7, .int .i64 6] 3))) ((Below.refl _ _).alloc (Nat.le_refl _) _)).set 6 (.int .i64 7) (D := taskC ⟨pg, pc, ⟨ra, rb, rc, rd⟩, 7, on⟩) rfl
    clear s0 s1 s2 s3 s4 s5 s6 s7 e0 e1 e2 e3 e4 f6 f7 c0 c17
    clear HV
    generalize ((V.alloc (.cells #[.int .i64 1, .int .i64 7, .int .i64 6] 3)).setCell ⟨q3, 6, none⟩ (.int .i64 7)) = V at *
    have HV := Lib.hid hv
    clear hv
    obtain ⟨e0, e1, e2, e3, e4, s0, s1, s2, s3, s4, s5, s6, s7, f6, f7, c0, c17⟩ := HV.out.facts
    go_upto_region 36 with fail
    have hv := HV.out.set 7 (.int .i64 a) (D := taskC ⟨pg, pc, ⟨ra, rb, rc, rd⟩, 7, a⟩) rfl
    clear s0 s1 s2 s3 s4 s5 s6 s7 e0 e1 e2 e3 e4 f6 f7 c0 c17
    clear HV
    generalize (V.setCell ⟨q3, 7, none⟩ (.int .i64 a)) = V at *
    have HV := Lib.hid hv
    clear hv
    obtain ⟨e0, e1, e2, e3, e4, s0, s1, s2, s3, s4, s5, s6, s7, f6, f7, c0, c17⟩ := HV.out.facts
    go_upto_region 61 with fail
    have hv := HV.out.set 7 (.int .i64 0) (D := taskC ⟨pg, pc, ⟨ra, rb, rc, rd⟩, 7, 0⟩) rfl
    clear s0 s1 s2 s3 s4 s5 s6 s7 e0 e1 e2 e3 e4 f6 f7 c0 c17
    clear HV
    generalize (V.setCell ⟨q3, 7, none⟩ (.int .i64 0)) = V at *
    have HV := Lib.hid hv
    clear hv
    obtain ⟨e0, e1, e2, e3, e4, s0, s1, s2, s3, s4, s5, s6, s7, f6, f7, c0, c17⟩ := HV.out.facts
    go_upto_region 61 with fail
    have HRE : Hid (R = none) := by
     show _ = _
     rw [← HR.out]
     unfold taskP
     simp only [Int.reduceEq, ↓reduceIte]
     have h8 : st = 8 := by simpa using t8
     have hs2 : 0 ≤ st ∧ st ≤ 8 := hs
     have hh : ¬ homeP st = true := by unfold homeP; simp; omega
     rw [if_neg hh]
     (try rfl)
    clear s0 s1 s2 s3 s4 s5 s6 s7 e0 e1 e2 e3 e4 f6 f7 c0 c17
    obtain ⟨old, hbr, hold⟩ := HV.out.br
    have HBR := Lib.hid hbr; have HOL := Lib.hid hold; have HBF := Lib.hid HV.out.bf; have HBX := Lib.hid HV.out.bx
    clear hbr hold
    go_wp2_with (first
     | (with_reducible (show wpList _ _ _ _ _ _); refine ld_flat rfl (.tmp 3) rfl w.heap.size rfl HBF.out ?_)
     | (with_reducible (show wpList _ _ _ _ _ _); refine st_flat rfl (.tmp 6) (.tmp 365) rfl (w.heap.size + 1 + 1) rfl rfl rfl rfl old HBR.out HOL.out ?_))
    refine ret_flat2 rfl (w.heap.size + 1 + 1) rfl (BF.row HBR.out) rfl ?_
    exact FrN.no HV.out HH.out (by show Option.map _ R = none; rw [HRE.out]; rfl)
  | true =>
   have n2 : (st != 2) = false := by rw [bne, t2]; rfl
   have hva := HV.out.on (W := (V.alloc (.cells #[.int .i64 1, .int .i64 7, .int .i64 6] 3))) ((Below.refl _ _).alloc (Nat.le_refl _) _)
   have ea := hva.ev.1
   have fa := hva.free 6
   have sa := hva.task.2.2.2.2.2.2.1
   dsimp only at ea sa
   clear hva
   go_upto_region 35 with fail
   clear ea fa sa
   have hv := (HV.out.on (W := (V.alloc (.cells #[.int .i64 1, .int .i64 7, .int .i64 6] 3))) ((Below.refl _ _).alloc (Nat.le_refl _) _)).set 6 (.int .i64 7) (D := taskC ⟨pg, pc, ⟨ra, rb, rc, rd⟩, 7, on⟩) rfl
   clear s0 s1 s2 s3 s4 s5 s6 s7 e0 e1 e2 e3 e4 f6 f7 c0 c17
   clear HV
   generalize ((V.alloc (.cells #[.int .i64 1, .int .i64 7, .int .i64 6] 3)).setCell ⟨q3, 6, none⟩ (.int .i64 7)) = V at *
   have HV := Lib.hid hv
   clear hv
   obtain ⟨e0, e1, e2, e3, e4, s0, s1, s2, s3, s4, s5, s6, s7, f6, f7, c0, c17⟩ := HV.out.facts
   go_upto_region 36 with fail
   have hv := HV.out.set 7 (.int .i64 a) (D := taskC ⟨pg, pc, ⟨ra, rb, rc, rd⟩, 7, a⟩) rfl
   clear s0 s1 s2 s3 s4 s5 s6 s7 e0 e1 e2 e3 e4 f6 f7 c0 c17
   clear HV
   generalize (V.setCell ⟨q3, 7, none⟩ (.int .i64 a)) = V at *
   have HV := Lib.hid hv
   clear hv
   obtain ⟨e0, e1, e2, e3, e4, s0, s1, s2, s3, s4, s5, s6, s7, f6, f7, c0, c17⟩ := HV.out.facts
   go_upto_region 61 with fail
   have hv := HV.out.set 7 (.int .i64 0) (D := taskC ⟨pg, pc, ⟨ra, rb, rc, rd⟩, 7, 0⟩) rfl
   clear s0 s1 s2 s3 s4 s5 s6 s7 e0 e1 e2 e3 e4 f6 f7 c0 c17
   clear HV
   generalize (V.setCell ⟨q3, 7, none⟩ (.int .i64 0)) = V at *
   have HV := Lib.hid hv
   clear hv
   obtain ⟨e0, e1, e2, e3, e4, s0, s1, s2, s3, s4, s5, s6, s7, f6, f7, c0, c17⟩ := HV.out.facts
   go_upto_region 61 with fail
   have HRE : Hid (R = none) := by
    show _ = _
    rw [← HR.out]
    unfold taskP
    simp only [Int.reduceEq, ↓reduceIte]
    have h2 : st = 2 := by simpa using t2
    have hs2 : 0 ≤ st ∧ st ≤ 8 := hs
    have hh : ¬ homeP st = true := by unfold homeP; simp; omega
    rw [if_neg hh]
    (try rfl)
   clear s0 s1 s2 s3 s4 s5 s6 s7 e0 e1 e2 e3 e4 f6 f7 c0 c17
   obtain ⟨old, hbr, hold⟩ := HV.out.br
   have HBR := Lib.hid hbr; have HOL := Lib.hid hold; have HBF := Lib.hid HV.out.bf; have HBX := Lib.hid HV.out.bx
   clear hbr hold
   go_wp2_with (first
    | (with_reducible (show wpList _ _ _ _ _ _); refine ld_flat rfl (.tmp 3) rfl w.heap.size rfl HBF.out ?_)
    | (with_reducible (show wpList _ _ _ _ _ _); refine st_flat rfl (.tmp 6) (.tmp 365) rfl (w.heap.size + 1 + 1) rfl rfl rfl rfl old HBR.out HOL.out ?_))
   refine ret_flat2 rfl (w.heap.size + 1 + 1) rfl (BF.row HBR.out) rfl ?_
   exact FrN.no HV.out HH.out (by show Option.map _ R = none; rw [HRE.out]; rfl)

set_option maxHeartbeats 8000000 in
theorem nx_7 (h : InF w F O f.ts f.ow) (hl : f.ts.length ≤ 1000) (_ : f.ow.length ≤ 1000) (hx : f.ts[i]? = some x) (pcap : Nat) (cpu a b : Int) (hs : 0 ≤ x.st ∧ x.st ≤ 8) :
  Calls Tryd.prog 10 #[flV F O f.p f.tm, .slice PA ps.length pcap, evV ⟨7, i, cpu, a, b⟩] w (NxtG w F O f ((taskP f ps ⟨7, i, cpu, a, b⟩ x).map fun y => { f with ts := f.ts.set i y })) := by
 have hH := h
 obtain ⟨⟨A, c, rfl, hT⟩, ⟨A2, c2, rfl, hO⟩⟩ := h
 obtain ⟨g, off, rfl, -, -⟩ := hT i x hx
 have HH := Lib.hid hH; have HX := Lib.hid hx; have HT := Lib.hid hT
 have hfr := FrU.new w (.slice (some ⟨g, off, none⟩) f.ts.length c) (.slice A2 f.ow.length c2) f.p f.tm ⟨7, i, cpu, a, b⟩ #[.slice none 0 0, .int .u64 0, .int .u64 0, .int .u64 0, .int .u64 0, .int .u64 0, .int .u64 0, .int .u64 0, .int .u64 0, .int .u64 0, .int .u64 0, .int .u64 0, .int .u64 0, .int .u64 0, .int .u64 0, .int .u64 0, .int .u64 0, .slice none 0 0, .int .i64 0] rfl
 obtain ⟨R, hR⟩ : ∃ R, taskP f ps ⟨7, i, cpu, a, b⟩ x = R := ⟨_, rfl⟩
 have HR := Lib.hid hR
 rw [hR]
 have hil := (List.getElem?_eq_some_iff.1 hx).1
 obtain ⟨n, hn⟩ : ∃ n, f.ts.length = n := ⟨_, rfl⟩
 obtain ⟨m, hm'⟩ : ∃ m, f.ow.length = m := ⟨_, rfl⟩
 have HN := Lib.hid hn; have HM := Lib.hid hm'
 rw [hn] at hfr hil hl HH ⊢
 rw [hm'] at hfr  HH ⊢
 clear hH hx hT hO hR hn hm'
 have i0 : (0 : Int) ≤ (i : Int) := by omega
 have i1 : (i : Int) < (n : Int) := by omega
 have u0 : decide ((i : Int) < 0) = false := decide_eq_false (by omega)
 have u1 : decide ((n : Int) ≤ (i : Int)) = false := decide_eq_false (by omega)
 dsimp only at hfr
 go_enter Tryd.func10, Tryd.ntmps10
 go_upto_region 1 with fail
 generalize ((w.alloc (.cells (flL (.slice (some ⟨g, off, none⟩) n c) (.slice A2 m c2) f.p f.tm).toArray 30)).alloc (.cells #[.int .i64 7, .int .i64 i, .int .i64 cpu, .int .i64 a, .int .i64 b] 36)).alloc (.cells #[.slice none 0 0, .int .u64 0, .int .u64 0, .int .u64 0, .int .u64 0, .int .u64 0, .int .u64 0, .int .u64 0, .int .u64 0, .int .u64 0, .int .u64 0, .int .u64 0, .int .u64 0, .int .u64 0, .int .u64 0, .int .u64 0, .int .u64 0, .slice none 0 0, .int .i64 0] 30) = W at *
 have HFR := Lib.hid hfr
 obtain ⟨e0, e1, e2, e3, e4⟩ := hfr.ev
 dsimp only at e0 e1 e2 e3 e4
 have c0 := BF.c0 hfr.bf
 obtain ⟨g', off', hge, -, hr⟩ := (HT.out.below hfr.bl) i _ HX.out
 simp only [Option.some.injEq, Addr.mk.injEq, and_true] at hge
 obtain ⟨rfl, rfl⟩ := hge
 obtain ⟨d0, d1, d2, d3, d4, d5, d6, d7⟩ := task_cells hr
 obtain ⟨pg, pc, ⟨ra, rb, rc, rd⟩, st, on⟩ := x
 dsimp only at d0 d1 d2 d3 d4 d5 d6 d7
 clear hfr hr
 go_upto_region 11 with fail
 have hv : FrN w (W.alloc (.cells #[.int .i64 pg, .int .i64 pc, .int .i32 ra, .int .i32 rb, .int .i32 rc, .int .i32 rd, .int .i64 st, .int .i64 on] 45)) (.slice (some ⟨g, off, none⟩) n c) (.slice A2 m c2) f.p f.tm ⟨7, i, cpu, a, b⟩ W.heap.size (taskC ⟨pg, pc, ⟨ra, rb, rc, rd⟩, st, on⟩) := FrN.new HFR.out _
 generalize W.alloc (.cells #[.int .i64 pg, .int .i64 pc, .int .i32 ra, .int .i32 rb, .int .i32 rc, .int .i32 rd, .int .i64 st, .int .i64 on] 45) = V at *
 generalize W.heap.size = q3 at *
 have HV := Lib.hid hv
 clear e0 e1 e2 e3 e4 c0 d0 d1 d2 d3 d4 d5 d6 d7 HFR hv
 obtain ⟨e0, e1, e2, e3, e4, s0, s1, s2, s3, s4, s5, s6, s7, f6, f7, c0, c17⟩ := HV.out.facts
 obtain ⟨ba, ta⟩ : ∃ ba : Bool, decide (0 ≤ a) = ba := ⟨_, rfl⟩
 obtain ⟨b2, t2⟩ : ∃ b2 : Bool, (st == 2) = b2 := ⟨_, rfl⟩
 obtain ⟨b8, t8⟩ : ∃ b8 : Bool, (st == 8) = b8 := ⟨_, rfl⟩
 cases ba
 all_goals
  cases b2 with
  | false =>
   cases b8 with
   | false =>
    have n2 : (st != 2) = true := by rw [bne, t2]; rfl
    have n8 : (st != 8) = true := by rw [bne, t8]; rfl
    have hva := HV.out.on (W := (V.alloc (.cells #[.int .i64 1, .int .i64 7, .int .i64 6] 3))) ((Below.refl _ _).alloc (Nat.le_refl _) _)
    have ea := hva.ev.1
    have fa := hva.free 6
    have sa := hva.task.2.2.2.2.2.2.1
    dsimp only at ea sa
    clear hva
    go_upto_region 35 with fail
    clear ea fa sa
    have hv := (HV.out.on (W := (V.alloc (.cells #[.int .i64 1, .int .i64 7, .int .i64 6] 3))) ((Below.refl _ _).alloc (Nat.le_refl _) _)).set 6 (.int .i64 6) (D := taskC ⟨pg, pc, ⟨ra, rb, rc, rd⟩, 6, on⟩) rfl
    clear s0 s1 s2 s3 s4 s5 s6 s7 e0 e1 e2 e3 e4 f6 f7 c0 c17
    clear HV
    generalize ((V.alloc (.cells #[.int .i64 1, .int .i64 7, .int .i64 6] 3)).setCell ⟨q3, 6, none⟩ (.int .i64 6)) = V at *
    have HV := Lib.hid hv
    clear hv
    obtain ⟨e0, e1, e2, e3, e4, s0, s1, s2, s3, s4, s5, s6, s7, f6, f7, c0, c17⟩ := HV.out.facts
    go_upto_region 36 with fail
    have hv := HV.out.set 7 (.int .i64 a) (D := taskC ⟨pg, pc, ⟨ra, rb, rc, rd⟩, 6, a⟩) rfl
    clear s0 s1 s2 s3 s4 s5 s6 s7 e0 e1 e2 e3 e4 f6 f7 c0 c17
    clear HV
    generalize (V.setCell ⟨q3, 7, none⟩ (.int .i64 a)) = V at *
    have HV := Lib.hid hv
    clear hv
    obtain ⟨e0, e1, e2, e3, e4, s0, s1, s2, s3, s4, s5, s6, s7, f6, f7, c0, c17⟩ := HV.out.facts
    go_upto_region 61 with fail
    have HRE : Hid (R = some ⟨pg, pc, ⟨ra, rb, rc, rd⟩, 6, a⟩) := by
     show _ = _
     rw [← HR.out]
     unfold taskP
     simp only [Int.reduceEq, ↓reduceIte]
     have h2 : st ≠ 2 := by simpa using t2
     have h8 : st ≠ 8 := by simpa using t8
     have hs2 : 0 ≤ st ∧ st ≤ 8 := hs
     have hh : homeP st = true := by unfold homeP; simp; omega
     rw [if_pos hh]
     (try rfl)
    clear s0 s1 s2 s3 s4 s5 s6 s7 e0 e1 e2 e3 e4 f6 f7 c0 c17
    obtain ⟨old, hbr, hold⟩ := HV.out.br
    have HBR := Lib.hid hbr; have HOL := Lib.hid hold; have HBF := Lib.hid HV.out.bf; have HBX := Lib.hid HV.out.bx
    clear hbr hold
    obtain ⟨C, hC⟩ : ∃ C, taskC ⟨pg, pc, ⟨ra, rb, rc, rd⟩, 6, a⟩ = C := ⟨_, rfl⟩
    have HCL : Hid (C.length = 8) := by show _ = _; rw [← hC]; rfl
    have HWI : Hid (Calls Tryd.prog 23 #[.agg (flL (.slice (some ⟨g, off, none⟩) n c) (.slice A2 m c2) f.p f.tm).toArray, .int .i64 i, .agg C.toArray] V (WitG V (.slice (some ⟨g, off, none⟩) n c) (.slice A2 m c2) f.ts f.ow f.p f.tm (f.ts.set i ⟨pg, pc, ⟨ra, rb, rc, rd⟩, 6, a⟩) f.ow)) := by
     rw [← hC]; exact with_any (HH.out.below HV.out.bl) (by rw [HN.out]; exact hl) i (by rw [HN.out]; omega) ⟨pg, pc, ⟨ra, rb, rc, rd⟩, 6, a⟩
    rw [hC] at HBX
    have e1 : V.cell? ⟨w.heap.size + 1, 1, none⟩ = some (.int .i64 i) := HV.out.ev.2.1
    clear hC
    go_wp2_with (first
     | (with_reducible (show wpList _ _ _ _ _ _); refine ld_flat rfl (.tmp 3) rfl w.heap.size rfl HBF.out ?_)
     | (with_reducible (show wpList _ _ _ _ _ _); refine ld_ft rfl (.tmp 8) rfl q3 rfl HBX.out HCL.out ?_)
     | (go_at_call 23; (with_reducible refine HWI.out.mono ?_); rintro e w7 ⟨F7, O7, rfl, h7, hX7, hC7, hb7⟩; have HB7 := Lib.hid hb7; have HC7 := Lib.hid hC7; have H7 := Lib.hid h7; have HX7 := Lib.hid hX7; have HBR7 := Lib.hid (HBR.out.below hb7 HBR.out.lt); have oF7 := h7.one.1; have oO7 := h7.one.2; clear h7 hb7 hX7 hC7)
     | (with_reducible (show wpList _ _ _ _ _ _); refine st_flat rfl (.tmp 6) (.tmp 370) rfl (w.heap.size + 1 + 1) rfl rfl oF7 oO7 old HBR7.out HOL.out ?_))
    refine ret_flat2 rfl (w.heap.size + 1 + 1) rfl (BF.row HBR7.out) rfl ?_
    exact FrN.yes HV.out HH.out H7.out HX7.out HC7.out HB7.out (by show Option.map _ R = _; rw [HRE.out]; rfl)
   | true =>
    have n2 : (st != 2) = true := by rw [bne, t2]; rfl
    have n8 : (st != 8) = false := by rw [bne, t8]; rfl
    have hva := HV.out.on (W := (V.alloc (.cells #[.int .i64 1, .int .i64 7, .int .i64 6] 3))) ((Below.refl _ _).alloc (Nat.le_refl _) _)
    have ea := hva.ev.1
    have fa := hva.free 6
    have sa := hva.task.2.2.2.2.2.2.1
    dsimp only at ea sa
    clear hva
    go_upto_region 35 with fail
    clear ea fa sa
    have hv := (HV.out.on (W := (V.alloc (.cells #[.int .i64 1, .int .i64 7, .int .i64 6] 3))) ((Below.refl _ _).alloc (Nat.le_refl _) _)).set 6 (.int .i64 6) (D := taskC ⟨pg, pc, ⟨ra, rb, rc, rd⟩, 6, on⟩) rfl
    clear s0 s1 s2 s3 s4 s5 s6 s7 e0 e1 e2 e3 e4 f6 f7 c0 c17
    clear HV
    generalize ((V.alloc (.cells #[.int .i64 1, .int .i64 7, .int .i64 6] 3)).setCell ⟨q3, 6, none⟩ (.int .i64 6)) = V at *
    have HV := Lib.hid hv
    clear hv
    obtain ⟨e0, e1, e2, e3, e4, s0, s1, s2, s3, s4, s5, s6, s7, f6, f7, c0, c17⟩ := HV.out.facts
    go_upto_region 36 with fail
    have hv := HV.out.set 7 (.int .i64 a) (D := taskC ⟨pg, pc, ⟨ra, rb, rc, rd⟩, 6, a⟩) rfl
    clear s0 s1 s2 s3 s4 s5 s6 s7 e0 e1 e2 e3 e4 f6 f7 c0 c17
    clear HV
    generalize (V.setCell ⟨q3, 7, none⟩ (.int .i64 a)) = V at *
    have HV := Lib.hid hv
    clear hv
    obtain ⟨e0, e1, e2, e3, e4, s0, s1, s2, s3, s4, s5, s6, s7, f6, f7, c0, c17⟩ := HV.out.facts
    go_upto_region 61 with fail
    have HRE : Hid (R = none) := by
     show _ = _
     rw [← HR.out]
     unfold taskP
     simp only [Int.reduceEq, ↓reduceIte]
     have h8 : st = 8 := by simpa using t8
     have hs2 : 0 ≤ st ∧ st ≤ 8 := hs
     have hh : ¬ homeP st = true := by unfold homeP; simp; omega
     rw [if_neg hh]
     (try rfl)
    clear s0 s1 s2 s3 s4 s5 s6 s7 e0 e1 e2 e3 e4 f6 f7 c0 c17
    obtain ⟨old, hbr, hold⟩ := HV.out.br
    have HBR := Lib.hid hbr; have HOL := Lib.hid hold; have HBF := Lib.hid HV.out.bf; have HBX := Lib.hid HV.out.bx
    clear hbr hold
    go_wp2_with (first
     | (with_reducible (show wpList _ _ _ _ _ _); refine ld_flat rfl (.tmp 3) rfl w.heap.size rfl HBF.out ?_)
     | (with_reducible (show wpList _ _ _ _ _ _); refine st_flat rfl (.tmp 6) (.tmp 365) rfl (w.heap.size + 1 + 1) rfl rfl rfl rfl old HBR.out HOL.out ?_))
    refine ret_flat2 rfl (w.heap.size + 1 + 1) rfl (BF.row HBR.out) rfl ?_
    exact FrN.no HV.out HH.out (by show Option.map _ R = none; rw [HRE.out]; rfl)
  | true =>
   have n2 : (st != 2) = false := by rw [bne, t2]; rfl
   have hva := HV.out.on (W := (V.alloc (.cells #[.int .i64 1, .int .i64 7, .int .i64 6] 3))) ((Below.refl _ _).alloc (Nat.le_refl _) _)
   have ea := hva.ev.1
   have fa := hva.free 6
   have sa := hva.task.2.2.2.2.2.2.1
   dsimp only at ea sa
   clear hva
   go_upto_region 35 with fail
   clear ea fa sa
   have hv := (HV.out.on (W := (V.alloc (.cells #[.int .i64 1, .int .i64 7, .int .i64 6] 3))) ((Below.refl _ _).alloc (Nat.le_refl _) _)).set 6 (.int .i64 6) (D := taskC ⟨pg, pc, ⟨ra, rb, rc, rd⟩, 6, on⟩) rfl
   clear s0 s1 s2 s3 s4 s5 s6 s7 e0 e1 e2 e3 e4 f6 f7 c0 c17
   clear HV
   generalize ((V.alloc (.cells #[.int .i64 1, .int .i64 7, .int .i64 6] 3)).setCell ⟨q3, 6, none⟩ (.int .i64 6)) = V at *
   have HV := Lib.hid hv
   clear hv
   obtain ⟨e0, e1, e2, e3, e4, s0, s1, s2, s3, s4, s5, s6, s7, f6, f7, c0, c17⟩ := HV.out.facts
   go_upto_region 36 with fail
   have hv := HV.out.set 7 (.int .i64 a) (D := taskC ⟨pg, pc, ⟨ra, rb, rc, rd⟩, 6, a⟩) rfl
   clear s0 s1 s2 s3 s4 s5 s6 s7 e0 e1 e2 e3 e4 f6 f7 c0 c17
   clear HV
   generalize (V.setCell ⟨q3, 7, none⟩ (.int .i64 a)) = V at *
   have HV := Lib.hid hv
   clear hv
   obtain ⟨e0, e1, e2, e3, e4, s0, s1, s2, s3, s4, s5, s6, s7, f6, f7, c0, c17⟩ := HV.out.facts
   go_upto_region 61 with fail
   have HRE : Hid (R = none) := by
    show _ = _
    rw [← HR.out]
    unfold taskP
    simp only [Int.reduceEq, ↓reduceIte]
    have h2 : st = 2 := by simpa using t2
    have hs2 : 0 ≤ st ∧ st ≤ 8 := hs
    have hh : ¬ homeP st = true := by unfold homeP; simp; omega
    rw [if_neg hh]
    (try rfl)
   clear s0 s1 s2 s3 s4 s5 s6 s7 e0 e1 e2 e3 e4 f6 f7 c0 c17
   obtain ⟨old, hbr, hold⟩ := HV.out.br
   have HBR := Lib.hid hbr; have HOL := Lib.hid hold; have HBF := Lib.hid HV.out.bf; have HBX := Lib.hid HV.out.bx
   clear hbr hold
   go_wp2_with (first
    | (with_reducible (show wpList _ _ _ _ _ _); refine ld_flat rfl (.tmp 3) rfl w.heap.size rfl HBF.out ?_)
    | (with_reducible (show wpList _ _ _ _ _ _); refine st_flat rfl (.tmp 6) (.tmp 365) rfl (w.heap.size + 1 + 1) rfl rfl rfl rfl old HBR.out HOL.out ?_))
   refine ret_flat2 rfl (w.heap.size + 1 + 1) rfl (BF.row HBR.out) rfl ?_
   exact FrN.no HV.out HH.out (by show Option.map _ R = none; rw [HRE.out]; rfl)
end
end Go.Proofs.YtilaalleiiakoaaDoor
