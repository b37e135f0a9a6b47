/- The document's Next: an instruction (layer 19): printed by wip/src19/gen_mg.py. -/
import Derived.Test.YtilaalleiiakoaaDoorMg
import Derived.Test.YtilaalleiiakoaaDoorG1
import Derived.Deep.RegionHeld
import Derived.OrdersHeld
namespace Go.Proofs.YtilaalleiiakoaaDoor
open Go.RowKit
set_option maxRecDepth 100000

/-- A region whose act is known but for two blocks. -/
def TwoP (F : World → Nat → Nat → Prop) (T : Nat → Nat → Act) (ex : Exit) (a' : Act) (w' : World) : Prop := ex = .normal ∧ ∃ q q' : Nat, F w' q q' ∧ a' = T q q'
theorem TwoP.mk {F : World → Nat → Nat → Prop} {T : Nat → Nat → Act} {a' : Act} {w' : World} (q q' : Nat) (h : F w' q q') (ha : a' = T q q') : TwoP F T .normal a' w' := ⟨rfl, q, q', h, ha⟩
theorem TwoP.bad {F : World → Nat → Nat → Prop} {T : Nat → Nat → Act} {c : List PanicEntry} {a a' : Act} {w w' : World} (h : TwoP F T (.panic c) a w) : TwoP F T (.panic c) a' w' := by cases h.1
def putsA (a : Act) (l : List (Nat × Value)) : Act := l.foldl (fun a p => a.put (some p.1) p.2) a
theorem wp_two {P : Program} {c : Code} {a : Act} {w : World} {Q' : Exit → Act → World → Prop} (F : World → Nat → Nat → Prop) (L : Nat → Nat → List (Nat × Value)) (h : ∀ T : Nat → Nat → Act, (∀ q q', Hid (T q q' = putsA a (L q q'))) → c.wp P (TwoP F T) a w) (ht : ∀ V q q', F V q q' → Q' .normal (putsA a (L q q')) V) : c.wp P Q' a w :=
 Code.wp_mono (fun ex a' w' h => by obtain ⟨rfl, q, q', h1, rfl⟩ := h; exact ht _ _ _ h1) (h (fun q q' => putsA a (L q q')) fun _ _ => Lib.hid rfl)
/-- A row of cells is stored whole, at a step. -/
theorem step_st_row {cs : Array Value} {w : World} {ops : Array Oper} {o : Oper} {a : Act} {K : Act → World → Prop} {Q : Exit → Act → World → Prop} {E : Prop} (hgd : o.guard = none) (t : TypeId) (x y : Operand) (ho : o.op = .store t x y)
  (g : Nat) (hx : a.eval x = .pointer (some ⟨g, 0, none⟩)) (hy : a.eval y = .agg cs) (old : Array Value) (hg : Blk w g t old) (hi : (Tryd.prog.info? t).map (·.size) = some cs.size) (hold : old.size = cs.size) (h1 : cs.all (·.oneCell') = true)
  (h : K (a.put o.dst undef) (w.setRow g cs)) : if Region.wanted o (yielded ops a.tmps) = true then Oper.wp Tryd.prog o a w K Q else E := by
 rw [if_pos (by simp [Region.wanted, hgd])]
 unfold Oper.wp execOp
 have hr := run_storeVar_row (P := Tryd.prog) w g t t old cs hg hi hold h1
 simp only [ho, hx, hy, Instr.storeAt, Instr.sureAddr, Sem.run_bind, Sem.run_pure, Result.andThen_ok, hr]
 exact h
theorem infoR4 : (Tryd.prog.info? 43).map (·.size) = some 4 := by kernel_rfl
theorem infoEf : (Tryd.prog.info? 61).map (·.size) = some 3 := by kernel_rfl
theorem oneR4 (a b c d : Int) : (#[Value.int .i32 a, .int .i32 b, .int .i32 c, .int .i32 d]).all (·.oneCell') = true := by simp [Value.oneCell']
theorem oneEf (a b c : Int) : (#[Value.int .i64 a, .int .i64 b, .int .i32 c]).all (·.oneCell') = true := by simp [Value.oneCell']
section
variable {w : World} {B : Nat} {F O : Value} {f : Fl} {i : Nat} {x : FT} {PA : Option Addr} {ps : List PR}

set_option maxHeartbeats 8000000 in
theorem nx_3 (h : InF w F O f.ts f.ow) (hl : f.ts.length ≤ 1000) (_ : f.ow.length ≤ 1000) (hx : f.ts[i]? = some x) (pcap : Nat) (cpu a b : Int) (hG : Gnd w B PA ps) (hro : x.r.Ok) :
  Calls Tryd.prog 10 #[flV F O f.p f.tm, .slice PA ps.length pcap, evV ⟨3, i, cpu, a, b⟩] w (NxtG w F O f ((taskP f ps ⟨3, i, cpu, a, b⟩ x).map fun y => { f with ts := f.ts.set i y })) := by
 have hH := h
 obtain ⟨⟨A, c, rfl, hT⟩, ⟨A2, c2, rfl, hO⟩⟩ := h
 obtain ⟨g, off, rfl, -, -⟩ := hT i x hx
 have HH := Lib.hid hH; have HX := Lib.hid hx; have HT := Lib.hid hT
 have hfr := FrU.new w (.slice (some ⟨g, off, none⟩) f.ts.length c) (.slice A2 f.ow.length c2) f.p f.tm ⟨3, i, cpu, a, b⟩ #[.slice none 0 0, .int .u64 0, .int .u64 0, .int .u64 0, .int .u64 0, .int .u64 0, .int .u64 0, .int .u64 0, .int .u64 0, .int .u64 0, .int .u64 0, .int .u64 0, .int .u64 0, .int .u64 0, .int .u64 0, .int .u64 0, .int .u64 0, .slice none 0 0, .int .i64 0] rfl
 obtain ⟨R, hR⟩ : ∃ R, taskP f ps ⟨3, i, cpu, a, b⟩ x = R := ⟨_, rfl⟩
 have HR := Lib.hid hR
 rw [hR]
 have hil := (List.getElem?_eq_some_iff.1 hx).1
 obtain ⟨n, hn⟩ : ∃ n, f.ts.length = n := ⟨_, rfl⟩
 obtain ⟨m, hm'⟩ : ∃ m, f.ow.length = m := ⟨_, rfl⟩
 have HN := Lib.hid hn; have HM := Lib.hid hm'
 rw [hn] at hfr hil hl HH ⊢
 rw [hm'] at hfr  HH ⊢
 clear hH hx hT hO hR hn hm'
 have i0 : (0 : Int) ≤ (i : Int) := by omega
 have i1 : (i : Int) < (n : Int) := by omega
 have u0 : decide ((i : Int) < 0) = false := decide_eq_false (by omega)
 have u1 : decide ((n : Int) ≤ (i : Int)) = false := decide_eq_false (by omega)
 dsimp only at hfr
 go_enter Tryd.func10, Tryd.ntmps10
 go_upto_region 1 with fail
 generalize ((w.alloc (.cells (flL (.slice (some ⟨g, off, none⟩) n c) (.slice A2 m c2) f.p f.tm).toArray 30)).alloc (.cells #[.int .i64 3, .int .i64 i, .int .i64 cpu, .int .i64 a, .int .i64 b] 36)).alloc (.cells #[.slice none 0 0, .int .u64 0, .int .u64 0, .int .u64 0, .int .u64 0, .int .u64 0, .int .u64 0, .int .u64 0, .int .u64 0, .int .u64 0, .int .u64 0, .int .u64 0, .int .u64 0, .int .u64 0, .int .u64 0, .int .u64 0, .int .u64 0, .slice none 0 0, .int .i64 0] 30) = W at *
 have HFR := Lib.hid hfr
 obtain ⟨e0, e1, e2, e3, e4⟩ := hfr.ev
 dsimp only at e0 e1 e2 e3 e4
 have c0 := BF.c0 hfr.bf
 obtain ⟨g', off', hge, -, hr⟩ := (HT.out.below hfr.bl) i _ HX.out
 simp only [Option.some.injEq, Addr.mk.injEq, and_true] at hge
 obtain ⟨rfl, rfl⟩ := hge
 obtain ⟨d0, d1, d2, d3, d4, d5, d6, d7⟩ := task_cells hr
 obtain ⟨pg, pc, ⟨ra, rb, rc, rd⟩, st, on⟩ := x
 dsimp only at d0 d1 d2 d3 d4 d5 d6 d7
 clear hfr hr
 have HGG := Lib.hid hG; have HRO := Lib.hid hro
 clear hG hro
 go_upto_region 11 with fail
 have hv : FrN w (W.alloc (.cells #[.int .i64 pg, .int .i64 pc, .int .i32 ra, .int .i32 rb, .int .i32 rc, .int .i32 rd, .int .i64 st, .int .i64 on] 45)) (.slice (some ⟨g, off, none⟩) n c) (.slice A2 m c2) f.p f.tm ⟨3, i, cpu, a, b⟩ W.heap.size (taskC ⟨pg, pc, ⟨ra, rb, rc, rd⟩, st, on⟩) := FrN.new HFR.out _
 generalize W.alloc (.cells #[.int .i64 pg, .int .i64 pc, .int .i32 ra, .int .i32 rb, .int .i32 rc, .int .i32 rd, .int .i64 st, .int .i64 on] 45) = V at *
 generalize W.heap.size = q3 at *
 have HV := Lib.hid hv
 clear e0 e1 e2 e3 e4 c0 d0 d1 d2 d3 d4 d5 d6 d7 HFR hv
 obtain ⟨e0, e1, e2, e3, e4, s0, s1, s2, s3, s4, s5, s6, s7, f6, f7, c0, c17⟩ := HV.out.facts
 obtain ⟨ba, ta⟩ : ∃ ba : Bool, decide (0 ≤ a) = ba := ⟨_, rfl⟩
 obtain ⟨b2, t2⟩ : ∃ b2 : Bool, (st == 2) = b2 := ⟨_, rfl⟩
 obtain ⟨bo, tO⟩ : ∃ bo : Bool, (on == cpu) = bo := ⟨_, rfl⟩
 cases ba
 all_goals
  cases b2 with
  | false =>
   have HRE : Hid (R = none) := by
    show _ = _
    rw [← HR.out]
    unfold taskP
    simp only [Int.reduceEq, ↓reduceIte]
    have h2 : st ≠ 2 := by simpa using t2
    rw [if_neg fun z => h2 z.1]
   go_upto_region 20 with fail
   go_quiet (fail)
   have hv : FrN w (V.drewN nq) (.slice (some ⟨g, off, none⟩) n c) (.slice A2 m c2) f.p f.tm ⟨3, i, cpu, a, b⟩ q3 (taskC ⟨pg, pc, ⟨ra, rb, rc, rd⟩, st, on⟩) := HV.out.on ⟨rfl, rfl, rfl, Nat.le_refl _, fun _ _ => rfl⟩
   clear s0 s1 s2 s3 s4 s5 s6 s7 e0 e1 e2 e3 e4 f6 f7 c0 c17
   clear HV 
   generalize V.drewN nq = V at *
   have HV := Lib.hid hv
   clear hv
   obtain ⟨old, hbr, hold⟩ := HV.out.br
   have HBR := Lib.hid hbr; have HOL := Lib.hid hold; have HBF := Lib.hid HV.out.bf
   clear hbr hold
   go_wp2_with (first
    | (with_reducible (show wpList _ _ _ _ _ _); refine ld_flat rfl (.tmp 3) rfl w.heap.size rfl HBF.out ?_)
    | (with_reducible (show wpList _ _ _ _ _ _); refine st_flat rfl (.tmp 6) (.tmp 172) rfl (w.heap.size + 1 + 1) rfl rfl rfl rfl old HBR.out HOL.out ?_))
   refine ret_flat2 rfl (w.heap.size + 1 + 1) rfl (BF.row HBR.out) rfl ?_
   exact FrN.no HV.out HH.out (by show Option.map _ R = none; rw [HRE.out]; rfl)
  | true =>
   cases bo with
   | false =>
    have HRE : Hid (R = none) := by
     show _ = _
     rw [← HR.out]
     unfold taskP
     simp only [Int.reduceEq, ↓reduceIte]
     have h2 : on ≠ cpu := by simpa using tO
     rw [if_neg fun z => h2 z.2]
    go_upto_region 20 with fail
    go_quiet (fail)
    have hv : FrN w (V.drewN nq) (.slice (some ⟨g, off, none⟩) n c) (.slice A2 m c2) f.p f.tm ⟨3, i, cpu, a, b⟩ q3 (taskC ⟨pg, pc, ⟨ra, rb, rc, rd⟩, st, on⟩) := HV.out.on ⟨rfl, rfl, rfl, Nat.le_refl _, fun _ _ => rfl⟩
    clear s0 s1 s2 s3 s4 s5 s6 s7 e0 e1 e2 e3 e4 f6 f7 c0 c17
    clear HV 
    generalize V.drewN nq = V at *
    have HV := Lib.hid hv
    clear hv
    obtain ⟨old, hbr, hold⟩ := HV.out.br
    have HBR := Lib.hid hbr; have HOL := Lib.hid hold; have HBF := Lib.hid HV.out.bf
    clear hbr hold
    go_wp2_with (first
     | (with_reducible (show wpList _ _ _ _ _ _); refine ld_flat rfl (.tmp 3) rfl w.heap.size rfl HBF.out ?_)
     | (with_reducible (show wpList _ _ _ _ _ _); refine st_flat rfl (.tmp 6) (.tmp 172) rfl (w.heap.size + 1 + 1) rfl rfl rfl rfl old HBR.out HOL.out ?_))
    refine ret_flat2 rfl (w.heap.size + 1 + 1) rfl (BF.row HBR.out) rfl ?_
    exact FrN.no HV.out HH.out (by show Option.map _ R = none; rw [HRE.out]; rfl)
   | true =>
    obtain ⟨bp, tp⟩ : ∃ bp : Bool, decide (pg < 0) = bp := ⟨_, rfl⟩
    cases bp with
    | true =>
     have HRE : Hid (R = none) := by
      show _ = _
      rw [← HR.out]
      unfold taskP
      simp only [Int.reduceEq, ↓reduceIte]
      have h2 : st = 2 := by simpa using t2
      have ho : on = cpu := by simpa using tO
      rw [if_pos ⟨h2, ho⟩]
      unfold doP
      have h0 : pg < 0 := by simpa using tp
      rw [show insP ps ⟨pg, pc, ⟨ra, rb, rc, rd⟩, st, on⟩ a b = none from ?_]
      ·
       rfl
      unfold insP
      rw [if_neg fun z => by have z1 : 0 ≤ pg := z.1; omega]
     go_upto_region 20 with fail
     go_quiet (fail)
     have hv : FrN w (V.drewN nq) (.slice (some ⟨g, off, none⟩) n c) (.slice A2 m c2) f.p f.tm ⟨3, i, cpu, a, b⟩ q3 (taskC ⟨pg, pc, ⟨ra, rb, rc, rd⟩, st, on⟩) := HV.out.on ⟨rfl, rfl, rfl, Nat.le_refl _, fun _ _ => rfl⟩
     clear s0 s1 s2 s3 s4 s5 s6 s7 e0 e1 e2 e3 e4 f6 f7 c0 c17
     clear HV 
     generalize V.drewN nq = V at *
     have HV := Lib.hid hv
     clear hv
     obtain ⟨old, hbr, hold⟩ := HV.out.br
     have HBR := Lib.hid hbr; have HOL := Lib.hid hold; have HBF := Lib.hid HV.out.bf
     clear hbr hold
     go_wp2_with (first
      | (with_reducible (show wpList _ _ _ _ _ _); refine ld_flat rfl (.tmp 3) rfl w.heap.size rfl HBF.out ?_)
      | (with_reducible (show wpList _ _ _ _ _ _); refine st_flat rfl (.tmp 6) (.tmp 172) rfl (w.heap.size + 1 + 1) rfl rfl rfl rfl old HBR.out HOL.out ?_))
     refine ret_flat2 rfl (w.heap.size + 1 + 1) rfl (BF.row HBR.out) rfl ?_
     exact FrN.no HV.out HH.out (by show Option.map _ R = none; rw [HRE.out]; rfl)
    | false =>
     obtain ⟨bq, tq⟩ : ∃ bq : Bool, decide ((ps.length : Int) ≤ pg) = bq := ⟨_, rfl⟩
     cases bq with
     | true =>
      have HRE : Hid (R = none) := by
       show _ = _
       rw [← HR.out]
       unfold taskP
       simp only [Int.reduceEq, ↓reduceIte]
       have h2 : st = 2 := by simpa using t2
       have ho : on = cpu := by simpa using tO
       rw [if_pos ⟨h2, ho⟩]
       unfold doP
       have h0 : (ps.length : Int) ≤ pg := by simpa using tq
       rw [show insP ps ⟨pg, pc, ⟨ra, rb, rc, rd⟩, st, on⟩ a b = none from ?_]
       ·
        rfl
       unfold insP
       split
       ·
        rw [List.getElem?_eq_none (by show ps.length ≤ pg.toNat; omega)]
       ·
        rfl
      go_upto_region 20 with fail
      go_quiet (fail)
      have hv : FrN w (V.drewN nq) (.slice (some ⟨g, off, none⟩) n c) (.slice A2 m c2) f.p f.tm ⟨3, i, cpu, a, b⟩ q3 (taskC ⟨pg, pc, ⟨ra, rb, rc, rd⟩, st, on⟩) := HV.out.on ⟨rfl, rfl, rfl, Nat.le_refl _, fun _ _ => rfl⟩
      clear s0 s1 s2 s3 s4 s5 s6 s7 e0 e1 e2 e3 e4 f6 f7 c0 c17
      clear HV 
      generalize V.drewN nq = V at *
      have HV := Lib.hid hv
      clear hv
      obtain ⟨old, hbr, hold⟩ := HV.out.br
      have HBR := Lib.hid hbr; have HOL := Lib.hid hold; have HBF := Lib.hid HV.out.bf
      clear hbr hold
      go_wp2_with (first
       | (with_reducible (show wpList _ _ _ _ _ _); refine ld_flat rfl (.tmp 3) rfl w.heap.size rfl HBF.out ?_)
       | (with_reducible (show wpList _ _ _ _ _ _); refine st_flat rfl (.tmp 6) (.tmp 172) rfl (w.heap.size + 1 + 1) rfl rfl rfl rfl old HBR.out HOL.out ?_))
      refine ret_flat2 rfl (w.heap.size + 1 + 1) rfl (BF.row HBR.out) rfl ?_
      exact FrN.no HV.out HH.out (by show Option.map _ R = none; rw [HRE.out]; rfl)
     | false =>
      have h0 : ¬ pg < 0 := by simpa using tp
      have h1 : ¬ (ps.length : Int) ≤ pg := by simpa using tq
      obtain ⟨k, rfl⟩ := Int.eq_ofNat_of_zero_le (show 0 ≤ pg by omega)
      have hkl : k < ps.length := by omega
      obtain ⟨q, hq⟩ : ∃ q, ps[k]? = some q := ⟨_, List.getElem?_eq_getElem hkl⟩
      obtain ⟨pb, ofp, rfl, -, hp0, hp1, hI, -⟩ := HGG.out.ps k q hq
      have HQ := Lib.hid hq
      obtain ⟨prio, QA, l, cp⟩ := q
      dsimp only at hp0 hp1 hI
      have HP0 := Lib.hid hp0; have HP1 := Lib.hid hp1; have HII := Lib.hid hI
      have p0 := (HV.out.bl.cell (p := ⟨pb, ofp + k * 2, none⟩) (lt_of_cell hp0)).trans hp0
      have p1 := (HV.out.bl.cell (p := ⟨pb, ofp + k * 2 + 1, none⟩) (lt_of_cell hp1)).trans hp1
      have k0 : (0 : Int) ≤ (k : Int) := by omega
      have k1 : (k : Int) < (ps.length : Int) := by omega
      have tq2 : decide (ps.length ≤ k) = false := decide_eq_false (by omega)
      clear hq hp0 hp1 hI h0 h1 hkl
      obtain ⟨bc, tc⟩ : ∃ bc : Bool, (b != pc) = bc := ⟨_, rfl⟩
      cases bc with
      | true =>
       have HRE : Hid (R = none) := by
        show _ = _
        rw [← HR.out]
        unfold taskP
        simp only [Int.reduceEq, ↓reduceIte]
        have h2 : st = 2 := by simpa using t2
        have ho : on = cpu := by simpa using tO
        rw [if_pos ⟨h2, ho⟩]
        unfold doP
        have h0 : b ≠ pc := by simpa using tc
        rw [show insP ps ⟨(k : Int), pc, ⟨ra, rb, rc, rd⟩, st, on⟩ a b = none from ?_]
        ·
         rfl
        unfold insP
        rw [if_neg fun z => h0 z.2.1]
       go_upto_region 20 with fail
       go_quiet (fail)
       have hv : FrN w (V.drewN nq) (.slice (some ⟨g, off, none⟩) n c) (.slice A2 m c2) f.p f.tm ⟨3, i, cpu, a, b⟩ q3 (taskC ⟨(k : Int), pc, ⟨ra, rb, rc, rd⟩, st, on⟩) := HV.out.on ⟨rfl, rfl, rfl, Nat.le_refl _, fun _ _ => rfl⟩
       clear s0 s1 s2 s3 s4 s5 s6 s7 e0 e1 e2 e3 e4 f6 f7 c0 c17
       clear HV p0 p1
       generalize V.drewN nq = V at *
       have HV := Lib.hid hv
       clear hv
       obtain ⟨old, hbr, hold⟩ := HV.out.br
       have HBR := Lib.hid hbr; have HOL := Lib.hid hold; have HBF := Lib.hid HV.out.bf
       clear hbr hold
       go_wp2_with (first
        | (with_reducible (show wpList _ _ _ _ _ _); refine ld_flat rfl (.tmp 3) rfl w.heap.size rfl HBF.out ?_)
        | (with_reducible (show wpList _ _ _ _ _ _); refine st_flat rfl (.tmp 6) (.tmp 172) rfl (w.heap.size + 1 + 1) rfl rfl rfl rfl old HBR.out HOL.out ?_))
       refine ret_flat2 rfl (w.heap.size + 1 + 1) rfl (BF.row HBR.out) rfl ?_
       exact FrN.no HV.out HH.out (by show Option.map _ R = none; rw [HRE.out]; rfl)
      | false =>
       obtain ⟨bn, tn⟩ : ∃ bn : Bool, decide (pc < 0) = bn := ⟨_, rfl⟩
       cases bn with
       | true =>
        have HRE : Hid (R = none) := by
         show _ = _
         rw [← HR.out]
         unfold taskP
         simp only [Int.reduceEq, ↓reduceIte]
         have h2 : st = 2 := by simpa using t2
         have ho : on = cpu := by simpa using tO
         rw [if_pos ⟨h2, ho⟩]
         unfold doP
         have h0 : pc < 0 := by simpa using tn
         have h1 : b = pc := by simpa using tc
         rw [show insP ps ⟨(k : Int), pc, ⟨ra, rb, rc, rd⟩, st, on⟩ a b = none from ?_]
         ·
          rfl
         unfold insP
         rw [if_neg fun z => by have := z.2.2; omega]
        go_upto_region 20 with fail
        go_quiet (fail)
        have hv : FrN w (V.drewN nq) (.slice (some ⟨g, off, none⟩) n c) (.slice A2 m c2) f.p f.tm ⟨3, i, cpu, a, b⟩ q3 (taskC ⟨(k : Int), pc, ⟨ra, rb, rc, rd⟩, st, on⟩) := HV.out.on ⟨rfl, rfl, rfl, Nat.le_refl _, fun _ _ => rfl⟩
        clear s0 s1 s2 s3 s4 s5 s6 s7 e0 e1 e2 e3 e4 f6 f7 c0 c17
        clear HV p0 p1
        generalize V.drewN nq = V at *
        have HV := Lib.hid hv
        clear hv
        obtain ⟨old, hbr, hold⟩ := HV.out.br
        have HBR := Lib.hid hbr; have HOL := Lib.hid hold; have HBF := Lib.hid HV.out.bf
        clear hbr hold
        go_wp2_with (first
         | (with_reducible (show wpList _ _ _ _ _ _); refine ld_flat rfl (.tmp 3) rfl w.heap.size rfl HBF.out ?_)
         | (with_reducible (show wpList _ _ _ _ _ _); refine st_flat rfl (.tmp 6) (.tmp 172) rfl (w.heap.size + 1 + 1) rfl rfl rfl rfl old HBR.out HOL.out ?_))
        refine ret_flat2 rfl (w.heap.size + 1 + 1) rfl (BF.row HBR.out) rfl ?_
        exact FrN.no HV.out HH.out (by show Option.map _ R = none; rw [HRE.out]; rfl)
       | false =>
        obtain ⟨bl, tl⟩ : ∃ bl : Bool, decide ((l.length : Int) ≤ pc) = bl := ⟨_, rfl⟩
        cases bl with
        | true =>
         have HRE : Hid (R = none) := by
          show _ = _
          rw [← HR.out]
          unfold taskP
          simp only [Int.reduceEq, ↓reduceIte]
          have h2 : st = 2 := by simpa using t2
          have ho : on = cpu := by simpa using tO
          rw [if_pos ⟨h2, ho⟩]
          unfold doP
          have h0 : (l.length : Int) ≤ pc := by simpa using tl
          have h1 : b = pc := by simpa using tc
          rw [show insP ps ⟨(k : Int), pc, ⟨ra, rb, rc, rd⟩, st, on⟩ a b = none from ?_]
          ·
           rfl
          unfold insP
          split
          ·
           rw [show ((k : Int)).toNat = k by omega, HQ.out]
           dsimp only
           rw [List.getElem?_eq_none (by omega)]
           rfl
          ·
           rfl
         go_upto_region 20 with fail
         go_quiet (fail)
         have hv : FrN w (V.drewN nq) (.slice (some ⟨g, off, none⟩) n c) (.slice A2 m c2) f.p f.tm ⟨3, i, cpu, a, b⟩ q3 (taskC ⟨(k : Int), pc, ⟨ra, rb, rc, rd⟩, st, on⟩) := HV.out.on ⟨rfl, rfl, rfl, Nat.le_refl _, fun _ _ => rfl⟩
         clear s0 s1 s2 s3 s4 s5 s6 s7 e0 e1 e2 e3 e4 f6 f7 c0 c17
         clear HV p0 p1
         generalize V.drewN nq = V at *
         have HV := Lib.hid hv
         clear hv
         obtain ⟨old, hbr, hold⟩ := HV.out.br
         have HBR := Lib.hid hbr; have HOL := Lib.hid hold; have HBF := Lib.hid HV.out.bf
         clear hbr hold
         go_wp2_with (first
          | (with_reducible (show wpList _ _ _ _ _ _); refine ld_flat rfl (.tmp 3) rfl w.heap.size rfl HBF.out ?_)
          | (with_reducible (show wpList _ _ _ _ _ _); refine st_flat rfl (.tmp 6) (.tmp 172) rfl (w.heap.size + 1 + 1) rfl rfl rfl rfl old HBR.out HOL.out ?_))
         refine ret_flat2 rfl (w.heap.size + 1 + 1) rfl (BF.row HBR.out) rfl ?_
         exact FrN.no HV.out HH.out (by show Option.map _ R = none; rw [HRE.out]; rfl)
        | false =>
         have h0 : ¬ pc < 0 := by simpa using tn
         have h1 : ¬ (l.length : Int) ≤ pc := by simpa using tl
         have hbc : b = pc := by simpa using tc
         obtain ⟨j, rfl⟩ := Int.eq_ofNat_of_zero_le (show 0 ≤ pc by omega)
         have hjl : j < l.length := by omega
         obtain ⟨z, hz⟩ : ∃ z, l[j]? = some z := ⟨_, List.getElem?_eq_getElem hjl⟩
         obtain ⟨-, lb, lo, rfl, -, hc0, -⟩ := HII.out j z hz
         have HZ := Lib.hid hz; have HC0 := Lib.hid hc0; have HBC := Lib.hid hbc
         have j0 : (0 : Int) ≤ (j : Int) := by omega
         have j1 : (j : Int) < (l.length : Int) := by omega
         have tl2 : decide (l.length ≤ j) = false := decide_eq_false (by omega)
         clear hz hc0 h0 h1 hjl hbc
         go_upto_region 20 with fail
         go_quiet (fail)
         have hv : FrN w (V.drewN nq) (.slice (some ⟨g, off, none⟩) n c) (.slice A2 m c2) f.p f.tm ⟨3, i, cpu, a, b⟩ q3 (taskC ⟨(k : Int), (j : Int), ⟨ra, rb, rc, rd⟩, st, on⟩) := HV.out.on ⟨rfl, rfl, rfl, Nat.le_refl _, fun _ _ => rfl⟩
         clear s0 s1 s2 s3 s4 s5 s6 s7 e0 e1 e2 e3 e4 f6 f7 c0 c17
         clear HV p0 p1
         generalize V.drewN nq = V at *
         have HV := Lib.hid hv
         clear hv
         obtain ⟨e0, e1, e2, e3, e4, s0, s1, s2, s3, s4, s5, s6, s7, f6, f7, c0, c17⟩ := HV.out.facts
         have p1 := (HV.out.bl.cell (p := ⟨pb, ofp + k * 2 + 1, none⟩) (lt_of_cell HP1.out)).trans HP1.out
         have z0 := (HV.out.bl.cell (p := ⟨lb, lo + j * 4, none⟩) (lt_of_cell HC0.out)).trans HC0.out
         obtain ⟨bz, tz⟩ : ∃ bz : Bool, (z.op == a) = bz := ⟨_, rfl⟩
         go_upto_region 22 with fail
         go_quiet (fail)
         have hv : FrN w (V.drewN nq) (.slice (some ⟨g, off, none⟩) n c) (.slice A2 m c2) f.p f.tm ⟨3, i, cpu, a, b⟩ q3 (taskC ⟨(k : Int), (j : Int), ⟨ra, rb, rc, rd⟩, st, on⟩) := HV.out.on ⟨rfl, rfl, rfl, Nat.le_refl _, fun _ _ => rfl⟩
         clear s0 s1 s2 s3 s4 s5 s6 s7 e0 e1 e2 e3 e4 f6 f7 c0 c17
         clear HV p1 z0
         generalize V.drewN nq = V at *
         have HV := Lib.hid hv
         clear hv
         obtain ⟨e0, e1, e2, e3, e4, s0, s1, s2, s3, s4, s5, s6, s7, f6, f7, c0, c17⟩ := HV.out.facts
         have p0 := (HV.out.bl.cell (p := ⟨pb, ofp + k * 2, none⟩) (lt_of_cell HP0.out)).trans HP0.out
         have p1 := (HV.out.bl.cell (p := ⟨pb, ofp + k * 2 + 1, none⟩) (lt_of_cell HP1.out)).trans HP1.out
         have HST : Hid (∀ X, Below w.heap.size w X → Calls Tryd.prog 21 #[.agg #[.int .i64 prio, .slice (some ⟨lb, lo, none⟩) l.length cp], .int .i64 j, regV ⟨ra, rb, rc, rd⟩] X (StepG (stepF prio l j ⟨ra, rb, rc, rd⟩) X)) := fun X hX => refStep_any prio _ l cp j _ X (HII.out.below hX) HRO.out
         obtain ⟨G, hG⟩ : ∃ G, stepF prio l j ⟨ra, rb, rc, rd⟩ = G := ⟨_, rfl⟩
         have HG := Lib.hid hG
         rw [hG] at HST
         clear hG
         obtain ⟨gp, ⟨g0, g1, g2, g3⟩, ⟨go, gr, gn⟩⟩ := G
         go_upto_region 23 with fail
         have HALL : Hid (∀ Y, Below V.heap.size V Y → Y.cell? ⟨q3, 0, none⟩ = some (.int .i64 k) ∧ Y.cell? ⟨q3, 1, none⟩ = some (.int .i64 j) ∧ Y.cell? ⟨q3, 2, none⟩ = some (.int .i32 ra) ∧ Y.cell? ⟨q3, 3, none⟩ = some (.int .i32 rb) ∧ Y.cell? ⟨q3, 4, none⟩ = some (.int .i32 rc) ∧ Y.cell? ⟨q3, 5, none⟩ = some (.int .i32 rd) ∧ Y.cell? ⟨pb, ofp + k * 2, none⟩ = some (.int .i64 prio) ∧ Y.cell? ⟨pb, ofp + k * 2 + 1, none⟩ = some (.slice (some ⟨lb, lo, none⟩) l.length cp)) := fun Y hY => by
          have ht := (HV.out.on hY).task
          exact ⟨ht.1, ht.2.1, ht.2.2.1, ht.2.2.2.1, ht.2.2.2.2.1, ht.2.2.2.2.2.1, (hY.cell (p := ⟨pb, _, none⟩) (lt_of_cell p0)).trans p0, (hY.cell (p := ⟨pb, _, none⟩) (lt_of_cell p1)).trans p1⟩
         clear s0 s1 s2 s3 s4 s5 s6 s7 e0 e1 e2 e3 e4 f6 f7 c0 c17
         clear p0 p1
         refine wp_two (fun w' q13 _ => FrN w w' (.slice (some ⟨g, off, none⟩) n c) (.slice A2 m c2) f.p f.tm ⟨3, i, cpu, a, b⟩ q3 (taskC ⟨(k : Int), (j : Int), ⟨ra, rb, rc, rd⟩, st, on⟩) ∧ Blk w' q13 43 #[.int .i32 g0, .int .i32 g1, .int .i32 g2, .int .i32 g3] ∧ q3 < q13) (fun q13 q14 => [(188, .slice (some ⟨pb, ofp, none⟩) ps.length pcap), (189, .pointer (some ⟨q3, 0, none⟩)), (190, .int .i64 k), (191, .pointer (some ⟨pb, ofp + k * 2, none⟩)), (192, .agg #[.int .i64 prio, .slice (some ⟨lb, lo, none⟩) l.length cp]), (193, .pointer (some ⟨q3, 1, none⟩)), (194, .int .i64 j), (195, .pointer (some ⟨q3, 2, none⟩)), (196, .agg #[.int .i32 ra, .int .i32 rb, .int .i32 rc, .int .i32 rd]), (197, .tuple #[.int .i64 gp, regV ⟨g0, g1, g2, g3⟩, effV ⟨go, gr, gn⟩]), (187, .tuple #[.int .i64 gp, regV ⟨g0, g1, g2, g3⟩, effV ⟨go, gr, gn⟩]), (198, .int .i64 gp), (199, regV ⟨g0, g1, g2, g3⟩), (200, effV ⟨go, gr, gn⟩), (13, .pointer (some ⟨q13, 0, none⟩)), (14, .pointer (some ⟨q14, 0, none⟩)), (12, .int .i64 gp)]) ?h ?ht
         case h =>
          intro T hT
          have HT := Lib.hid hT
          clear hT
          have HX : Hid (Below V.heap.size V V.drew) := Lib.hid ((Below.refl _ _).drew)
          refine wp_region_held_drew (S := fun Y => Below V.heap.size V Y) (by kernel_rfl) HX.out (fun hHeld => ?_)
          show wpAnyH _ _ _ _ _ _ _ _ _
          try dsimp only at hHeld
          generalize V.drew = X0 at *
          refine wpAnyH_take (i := 0) (v := ?_) rfl (by kernel_rfl) (by kernel_rfl) (by kernel_rfl) (fun _ _ _ h => h.bad) (Or.inl ⟨by rfl, fun Y hY => by (obtain ⟨y0, y1, y2, y3, y4, y5, y6, y7⟩ := HALL.out Y hY; go_simp <;> with_reducible rfl)⟩) hHeld ?_
          go_simp
          refine wpAnyH_take (i := 1) (v := ?_) rfl (by kernel_rfl) (by kernel_rfl) (by kernel_rfl) (fun _ _ _ h => h.bad) (Or.inl ⟨by rfl, fun Y hY => by (obtain ⟨y0, y1, y2, y3, y4, y5, y6, y7⟩ := HALL.out Y hY; go_simp <;> with_reducible rfl)⟩) hHeld ?_
          go_simp
          refine wpAnyH_take (i := 2) (v := ?_) rfl (by kernel_rfl) (by kernel_rfl) (by kernel_rfl) (fun _ _ _ h => h.bad) (Or.inl ⟨by rfl, fun Y hY => by (obtain ⟨y0, y1, y2, y3, y4, y5, y6, y7⟩ := HALL.out Y hY; go_simp <;> with_reducible rfl)⟩) hHeld ?_
          go_simp
          refine wpAnyH_take (i := 3) (v := ?_) rfl (by kernel_rfl) (by kernel_rfl) (by kernel_rfl) (fun _ _ _ h => h.bad) (Or.inl ⟨by rfl, fun Y hY => by (obtain ⟨y0, y1, y2, y3, y4, y5, y6, y7⟩ := HALL.out Y hY; go_simp <;> with_reducible rfl)⟩) hHeld ?_
          go_simp
          refine wpAnyH_take (i := 4) (v := ?_) rfl (by kernel_rfl) (by kernel_rfl) (by kernel_rfl) (fun _ _ _ h => h.bad) (Or.inl ⟨by rfl, fun Y hY => by (obtain ⟨y0, y1, y2, y3, y4, y5, y6, y7⟩ := HALL.out Y hY; go_simp <;> with_reducible rfl)⟩) hHeld ?_
          go_simp
          refine wpAnyH_take (i := 5) (v := ?_) rfl (by kernel_rfl) (by kernel_rfl) (by kernel_rfl) (fun _ _ _ h => h.bad) (Or.inl ⟨by rfl, fun Y hY => by (obtain ⟨y0, y1, y2, y3, y4, y5, y6, y7⟩ := HALL.out Y hY; go_simp <;> with_reducible rfl)⟩) hHeld ?_
          go_simp
          refine wpAnyH_take (i := 6) (v := ?_) rfl (by kernel_rfl) (by kernel_rfl) (by kernel_rfl) (fun _ _ _ h => h.bad) (Or.inl ⟨by rfl, fun Y hY => by (obtain ⟨y0, y1, y2, y3, y4, y5, y6, y7⟩ := HALL.out Y hY; go_simp <;> with_reducible rfl)⟩) hHeld ?_
          go_simp
          refine wpAnyH_take (i := 7) (v := ?_) rfl (by kernel_rfl) (by kernel_rfl) (by kernel_rfl) (fun _ _ _ h => h.bad) (Or.inl ⟨by rfl, fun Y hY => by (obtain ⟨y0, y1, y2, y3, y4, y5, y6, y7⟩ := HALL.out Y hY; go_simp <;> with_reducible rfl)⟩) hHeld ?_
          go_simp
          refine wpAnyH_take (i := 8) (v := ?_) rfl (by kernel_rfl) (by kernel_rfl) (by kernel_rfl) (fun _ _ _ h => h.bad) (Or.inl ⟨by rfl, fun Y hY => by (obtain ⟨y0, y1, y2, y3, y4, y5, y6, y7⟩ := HALL.out Y hY; go_simp <;> with_reducible rfl)⟩) hHeld ?_
          go_simp
          refine wpAnyH_ready (rs := [9, 14, 15]) (by kernel_rfl) (by simp) (AllReadyH.cons rfl (fun K hK => ?_) (AllReadyH.cons rfl (fun K hK => ?_) (AllReadyH.cons rfl (fun K hK => ?_) (AllReadyH.nil))))
          ·
           go_simp
           go_at_call 21
           with_reducible refine (HST.out _ (HV.out.bl.trans (HX.out.mono HV.out.bl.size))).mono ?_
           rintro e X1 ⟨rfl, h4⟩
           (try (go_wp2_with fail))
           have HX := Lib.hid (HX.out.trans (h4.mono HX.out.size))
           clear h4
           refine hK.out _ _ HX.out (fun hHeld => ?_)
           clear hK K
           (try go_simp)
           refine wpAnyH_take (i := 10) (v := ?_) rfl (by kernel_rfl) (by kernel_rfl) (by kernel_rfl) (fun _ _ _ h => h.bad) (Or.inl ⟨by rfl, fun Y _ => by (go_simp <;> with_reducible rfl)⟩) hHeld ?_
           go_simp
           refine wpAnyH_take (i := 11) (v := ?_) rfl (by kernel_rfl) (by kernel_rfl) (by kernel_rfl) (fun _ _ _ h => h.bad) (Or.inl ⟨by rfl, fun Y _ => by (go_simp <;> with_reducible rfl)⟩) hHeld ?_
           go_simp
           refine wpAnyH_take (i := 12) (v := ?_) rfl (by kernel_rfl) (by kernel_rfl) (by kernel_rfl) (fun _ _ _ h => h.bad) (Or.inl ⟨by rfl, fun Y _ => by (go_simp <;> with_reducible rfl)⟩) hHeld ?_
           go_simp
           refine wpAnyH_take (i := 13) (v := ?_) rfl (by kernel_rfl) (by kernel_rfl) (by kernel_rfl) (fun _ _ _ h => h.bad) (Or.inl ⟨by rfl, fun Y _ => by (go_simp <;> with_reducible rfl)⟩) hHeld ?_
           go_simp
           refine wpAnyH_ready (rs := [14, 15]) (by kernel_rfl) (by simp) (AllReadyH.cons rfl (fun K hK => ?_) (AllReadyH.cons rfl (fun K hK => ?_) (AllReadyH.nil)))
           ·
            go_simp
            have HB13 := Lib.hid (Blk.new X1 43 #[.int .i32 0, .int .i32 0, .int .i32 0, .int .i32 0])
            have HLq13 := Lib.hid HX.out.size
            have HX := Lib.hid (HX.out.alloc HX.out.size (.cells #[.int .i32 0, .int .i32 0, .int .i32 0, .int .i32 0] 43))
            refine hK.out _ _ HX.out (fun hHeld => ?_)
            clear hK K
            generalize X1.alloc (.cells #[.int .i32 0, .int .i32 0, .int .i32 0, .int .i32 0] 43) = X2 at *
            generalize X1.heap.size = q13 at *
            refine wpAnyH_ready (rs := [15]) (by kernel_rfl) (by simp) (AllReadyH.cons rfl (fun K hK => ?_) (AllReadyH.nil))
            ·
             go_simp
             have HB14 := Lib.hid (Blk.new X2 61 #[.int .i64 0, .int .i64 0, .int .i32 0])
             have HNE : Hid (q13 < X2.heap.size) := HB13.out.lt
             have HB13 := Lib.hid (HB13.out.alloc (.cells #[.int .i64 0, .int .i64 0, .int .i32 0] 61))
             have HLq14 := Lib.hid HX.out.size
             have HX := Lib.hid (HX.out.alloc HX.out.size (.cells #[.int .i64 0, .int .i64 0, .int .i32 0] 61))
             refine hK.out _ _ HX.out (fun hHeld => ?_)
             clear hK K
             generalize X2.alloc (.cells #[.int .i64 0, .int .i64 0, .int .i32 0] 61) = X3 at *
             generalize X2.heap.size = q14 at *
             refine wpAnyH_take (i := 16) (v := ?_) rfl (by kernel_rfl) (by kernel_rfl) (by kernel_rfl) (fun _ _ _ h => h.bad) (Or.inl ⟨by rfl, fun Y _ => by (go_simp <;> with_reducible rfl)⟩) hHeld ?_
             go_simp
             refine wpAnyH_ready (rs := [17]) (by kernel_rfl) (by simp) (AllReadyH.cons rfl (fun K hK => ?_) (AllReadyH.nil))
             ·
              refine step_st_row (cs := #[.int .i32 g0, .int .i32 g1, .int .i32 g2, .int .i32 g3]) rfl 43 (.tmp 13) (.tmp 199) rfl q13 rfl rfl _ HB13.out infoR4 rfl (oneR4 ..) ?_
              have HB14 := Lib.hid (Blk.row_other (g := q13) HB14.out (by have := HNE.out; omega) #[.int .i32 g0, .int .i32 g1, .int .i32 g2, .int .i32 g3])
              have HX : Hid (Below V.heap.size V (X3.setRow q13 #[.int .i32 g0, .int .i32 g1, .int .i32 g2, .int .i32 g3])) := Lib.hid ((((But.of_below (X := fun k => V.heap.size ≤ k) HX.out).row _ _ (.inl HLq13.out)).below (Nat.le_refl _) fun k _ z => z))
              have HB13 : Hid (Blk (X3.setRow q13 #[.int .i32 g0, .int .i32 g1, .int .i32 g2, .int .i32 g3]) q13 43 #[.int .i32 g0, .int .i32 g1, .int .i32 g2, .int .i32 g3]) := Lib.hid (setRow_heap X3 _ _ _ _ _ HB13.out)
              refine hK.out _ _ HX.out (fun hHeld => ?_)
              clear hK K
              generalize X3.setRow q13 #[.int .i32 g0, .int .i32 g1, .int .i32 g2, .int .i32 g3] = X4 at *
              (try go_simp)
              refine wpAnyH_ready (rs := [18]) (by kernel_rfl) (by simp) (AllReadyH.cons rfl (fun K hK => ?_) (AllReadyH.nil))
              ·
               refine step_st_row (cs := #[.int .i64 go, .int .i64 gr, .int .i32 gn]) rfl 61 (.tmp 14) (.tmp 200) rfl q14 rfl rfl _ HB14.out infoEf rfl (oneEf ..) ?_
               have HB13 := Lib.hid (Blk.row_other (g := q14) HB13.out (by have := HNE.out; omega) #[.int .i64 go, .int .i64 gr, .int .i32 gn])
               have HX : Hid (Below V.heap.size V (X4.setRow q14 #[.int .i64 go, .int .i64 gr, .int .i32 gn])) := Lib.hid ((((But.of_below (X := fun k => V.heap.size ≤ k) HX.out).row _ _ (.inl HLq14.out)).below (Nat.le_refl _) fun k _ z => z))
               have HB14 : Hid (Blk (X4.setRow q14 #[.int .i64 go, .int .i64 gr, .int .i32 gn]) q14 61 #[.int .i64 go, .int .i64 gr, .int .i32 gn]) := Lib.hid (setRow_heap X4 _ _ _ _ _ HB14.out)
               refine hK.out _ _ HX.out (fun hHeld => ?_)
               clear hK K
               generalize X4.setRow q14 #[.int .i64 go, .int .i64 gr, .int .i32 gn] = X5 at *
               (try go_simp)
               refine wpAnyH_done (by kernel_rfl) ?_ _
               exact TwoP.mk q13 q14 ⟨HV.out.on HX.out, HB13.out, Nat.lt_of_lt_of_le HV.out.bx.lt HLq13.out⟩ (by rw [(HT.out q13 q14).out]; unfold putsA; simp only [List.foldl_cons, List.foldl_nil]; go_simp)
           ·
            go_simp
            have HB14 := Lib.hid (Blk.new X1 61 #[.int .i64 0, .int .i64 0, .int .i32 0])
            have HLq14 := Lib.hid HX.out.size
            have HX := Lib.hid (HX.out.alloc HX.out.size (.cells #[.int .i64 0, .int .i64 0, .int .i32 0] 61))
            refine hK.out _ _ HX.out (fun hHeld => ?_)
            clear hK K
            generalize X1.alloc (.cells #[.int .i64 0, .int .i64 0, .int .i32 0] 61) = X6 at *
            generalize X1.heap.size = q14 at *
            refine wpAnyH_ready (rs := [14]) (by kernel_rfl) (by simp) (AllReadyH.cons rfl (fun K hK => ?_) (AllReadyH.nil))
            ·
             go_simp
             have HB13 := Lib.hid (Blk.new X6 43 #[.int .i32 0, .int .i32 0, .int .i32 0, .int .i32 0])
             have HNE : Hid (q14 < X6.heap.size) := HB14.out.lt
             have HB14 := Lib.hid (HB14.out.alloc (.cells #[.int .i32 0, .int .i32 0, .int .i32 0, .int .i32 0] 43))
             have HLq13 := Lib.hid HX.out.size
             have HX := Lib.hid (HX.out.alloc HX.out.size (.cells #[.int .i32 0, .int .i32 0, .int .i32 0, .int .i32 0] 43))
             refine hK.out _ _ HX.out (fun hHeld => ?_)
             clear hK K
             generalize X6.alloc (.cells #[.int .i32 0, .int .i32 0, .int .i32 0, .int .i32 0] 43) = X7 at *
             generalize X6.heap.size = q13 at *
             refine wpAnyH_take (i := 16) (v := ?_) rfl (by kernel_rfl) (by kernel_rfl) (by kernel_rfl) (fun _ _ _ h => h.bad) (Or.inl ⟨by rfl, fun Y _ => by (go_simp <;> with_reducible rfl)⟩) hHeld ?_
             go_simp
             refine wpAnyH_ready (rs := [17]) (by kernel_rfl) (by simp) (AllReadyH.cons rfl (fun K hK => ?_) (AllReadyH.nil))
             ·
              refine step_st_row (cs := #[.int .i32 g0, .int .i32 g1, .int .i32 g2, .int .i32 g3]) rfl 43 (.tmp 13) (.tmp 199) rfl q13 rfl rfl _ HB13.out infoR4 rfl (oneR4 ..) ?_
              have HB14 := Lib.hid (Blk.row_other (g := q13) HB14.out (by have := HNE.out; omega) #[.int .i32 g0, .int .i32 g1, .int .i32 g2, .int .i32 g3])
              have HX : Hid (Below V.heap.size V (X7.setRow q13 #[.int .i32 g0, .int .i32 g1, .int .i32 g2, .int .i32 g3])) := Lib.hid ((((But.of_below (X := fun k => V.heap.size ≤ k) HX.out).row _ _ (.inl HLq13.out)).below (Nat.le_refl _) fun k _ z => z))
              have HB13 : Hid (Blk (X7.setRow q13 #[.int .i32 g0, .int .i32 g1, .int .i32 g2, .int .i32 g3]) q13 43 #[.int .i32 g0, .int .i32 g1, .int .i32 g2, .int .i32 g3]) := Lib.hid (setRow_heap X7 _ _ _ _ _ HB13.out)
              refine hK.out _ _ HX.out (fun hHeld => ?_)
              clear hK K
              generalize X7.setRow q13 #[.int .i32 g0, .int .i32 g1, .int .i32 g2, .int .i32 g3] = X8 at *
              (try go_simp)
              refine wpAnyH_ready (rs := [18]) (by kernel_rfl) (by simp) (AllReadyH.cons rfl (fun K hK => ?_) (AllReadyH.nil))
              ·
               refine step_st_row (cs := #[.int .i64 go, .int .i64 gr, .int .i32 gn]) rfl 61 (.tmp 14) (.tmp 200) rfl q14 rfl rfl _ HB14.out infoEf rfl (oneEf ..) ?_
               have HB13 := Lib.hid (Blk.row_other (g := q14) HB13.out (by have := HNE.out; omega) #[.int .i64 go, .int .i64 gr, .int .i32 gn])
               have HX : Hid (Below V.heap.size V (X8.setRow q14 #[.int .i64 go, .int .i64 gr, .int .i32 gn])) := Lib.hid ((((But.of_below (X := fun k => V.heap.size ≤ k) HX.out).row _ _ (.inl HLq14.out)).below (Nat.le_refl _) fun k _ z => z))
               have HB14 : Hid (Blk (X8.setRow q14 #[.int .i64 go, .int .i64 gr, .int .i32 gn]) q14 61 #[.int .i64 go, .int .i64 gr, .int .i32 gn]) := Lib.hid (setRow_heap X8 _ _ _ _ _ HB14.out)
               refine hK.out _ _ HX.out (fun hHeld => ?_)
               clear hK K
               generalize X8.setRow q14 #[.int .i64 go, .int .i64 gr, .int .i32 gn] = X9 at *
               (try go_simp)
               refine wpAnyH_done (by kernel_rfl) ?_ _
               exact TwoP.mk q13 q14 ⟨HV.out.on HX.out, HB13.out, Nat.lt_of_lt_of_le HV.out.bx.lt HLq13.out⟩ (by rw [(HT.out q13 q14).out]; unfold putsA; simp only [List.foldl_cons, List.foldl_nil]; go_simp)
          ·
           go_simp
           have HB13 := Lib.hid (Blk.new X0 43 #[.int .i32 0, .int .i32 0, .int .i32 0, .int .i32 0])
           have HLq13 := Lib.hid HX.out.size
           have HX := Lib.hid (HX.out.alloc HX.out.size (.cells #[.int .i32 0, .int .i32 0, .int .i32 0, .int .i32 0] 43))
           refine hK.out _ _ HX.out (fun hHeld => ?_)
           clear hK K
           generalize X0.alloc (.cells #[.int .i32 0, .int .i32 0, .int .i32 0, .int .i32 0] 43) = X10 at *
           generalize X0.heap.size = q13 at *
           refine wpAnyH_ready (rs := [9, 15]) (by kernel_rfl) (by simp) (AllReadyH.cons rfl (fun K hK => ?_) (AllReadyH.cons rfl (fun K hK => ?_) (AllReadyH.nil)))
           ·
            go_simp
            go_at_call 21
            with_reducible refine (HST.out _ (HV.out.bl.trans (HX.out.mono HV.out.bl.size))).mono ?_
            rintro e X11 ⟨rfl, h4⟩
            (try (go_wp2_with fail))
            have HX := Lib.hid (HX.out.trans (h4.mono HX.out.size))
            have HB13 := Lib.hid (HB13.out.below h4 HB13.out.lt)
            clear h4
            refine hK.out _ _ HX.out (fun hHeld => ?_)
            clear hK K
            (try go_simp)
            refine wpAnyH_take (i := 10) (v := ?_) rfl (by kernel_rfl) (by kernel_rfl) (by kernel_rfl) (fun _ _ _ h => h.bad) (Or.inl ⟨by rfl, fun Y _ => by (go_simp <;> with_reducible rfl)⟩) hHeld ?_
            go_simp
            refine wpAnyH_take (i := 11) (v := ?_) rfl (by kernel_rfl) (by kernel_rfl) (by kernel_rfl) (fun _ _ _ h => h.bad) (Or.inl ⟨by rfl, fun Y _ => by (go_simp <;> with_reducible rfl)⟩) hHeld ?_
            go_simp
            refine wpAnyH_take (i := 12) (v := ?_) rfl (by kernel_rfl) (by kernel_rfl) (by kernel_rfl) (fun _ _ _ h => h.bad) (Or.inl ⟨by rfl, fun Y _ => by (go_simp <;> with_reducible rfl)⟩) hHeld ?_
            go_simp
            refine wpAnyH_take (i := 13) (v := ?_) rfl (by kernel_rfl) (by kernel_rfl) (by kernel_rfl) (fun _ _ _ h => h.bad) (Or.inl ⟨by rfl, fun Y _ => by (go_simp <;> with_reducible rfl)⟩) hHeld ?_
            go_simp
            refine wpAnyH_ready (rs := [15]) (by kernel_rfl) (by simp) (AllReadyH.cons rfl (fun K hK => ?_) (AllReadyH.nil))
            ·
             go_simp
             have HB14 := Lib.hid (Blk.new X11 61 #[.int .i64 0, .int .i64 0, .int .i32 0])
             have HNE : Hid (q13 < X11.heap.size) := HB13.out.lt
             have HB13 := Lib.hid (HB13.out.alloc (.cells #[.int .i64 0, .int .i64 0, .int .i32 0] 61))
             have HLq14 := Lib.hid HX.out.size
             have HX := Lib.hid (HX.out.alloc HX.out.size (.cells #[.int .i64 0, .int .i64 0, .int .i32 0] 61))
             refine hK.out _ _ HX.out (fun hHeld => ?_)
             clear hK K
             generalize X11.alloc (.cells #[.int .i64 0, .int .i64 0, .int .i32 0] 61) = X12 at *
             generalize X11.heap.size = q14 at *
             refine wpAnyH_take (i := 16) (v := ?_) rfl (by kernel_rfl) (by kernel_rfl) (by kernel_rfl) (fun _ _ _ h => h.bad) (Or.inl ⟨by rfl, fun Y _ => by (go_simp <;> with_reducible rfl)⟩) hHeld ?_
             go_simp
             refine wpAnyH_ready (rs := [17]) (by kernel_rfl) (by simp) (AllReadyH.cons rfl (fun K hK => ?_) (AllReadyH.nil))
             ·
              refine step_st_row (cs := #[.int .i32 g0, .int .i32 g1, .int .i32 g2, .int .i32 g3]) rfl 43 (.tmp 13) (.tmp 199) rfl q13 rfl rfl _ HB13.out infoR4 rfl (oneR4 ..) ?_
              have HB14 := Lib.hid (Blk.row_other (g := q13) HB14.out (by have := HNE.out; omega) #[.int .i32 g0, .int .i32 g1, .int .i32 g2, .int .i32 g3])
              have HX : Hid (Below V.heap.size V (X12.setRow q13 #[.int .i32 g0, .int .i32 g1, .int .i32 g2, .int .i32 g3])) := Lib.hid ((((But.of_below (X := fun k => V.heap.size ≤ k) HX.out).row _ _ (.inl HLq13.out)).below (Nat.le_refl _) fun k _ z => z))
              have HB13 : Hid (Blk (X12.setRow q13 #[.int .i32 g0, .int .i32 g1, .int .i32 g2, .int .i32 g3]) q13 43 #[.int .i32 g0, .int .i32 g1, .int .i32 g2, .int .i32 g3]) := Lib.hid (setRow_heap X12 _ _ _ _ _ HB13.out)
              refine hK.out _ _ HX.out (fun hHeld => ?_)
              clear hK K
              generalize X12.setRow q13 #[.int .i32 g0, .int .i32 g1, .int .i32 g2, .int .i32 g3] = X13 at *
              (try go_simp)
              refine wpAnyH_ready (rs := [18]) (by kernel_rfl) (by simp) (AllReadyH.cons rfl (fun K hK => ?_) (AllReadyH.nil))
              ·
               refine step_st_row (cs := #[.int .i64 go, .int .i64 gr, .int .i32 gn]) rfl 61 (.tmp 14) (.tmp 200) rfl q14 rfl rfl _ HB14.out infoEf rfl (oneEf ..) ?_
               have HB13 := Lib.hid (Blk.row_other (g := q14) HB13.out (by have := HNE.out; omega) #[.int .i64 go, .int .i64 gr, .int .i32 gn])
               have HX : Hid (Below V.heap.size V (X13.setRow q14 #[.int .i64 go, .int .i64 gr, .int .i32 gn])) := Lib.hid ((((But.of_below (X := fun k => V.heap.size ≤ k) HX.out).row _ _ (.inl HLq14.out)).below (Nat.le_refl _) fun k _ z => z))
               have HB14 : Hid (Blk (X13.setRow q14 #[.int .i64 go, .int .i64 gr, .int .i32 gn]) q14 61 #[.int .i64 go, .int .i64 gr, .int .i32 gn]) := Lib.hid (setRow_heap X13 _ _ _ _ _ HB14.out)
               refine hK.out _ _ HX.out (fun hHeld => ?_)
               clear hK K
               generalize X13.setRow q14 #[.int .i64 go, .int .i64 gr, .int .i32 gn] = X14 at *
               (try go_simp)
               refine wpAnyH_done (by kernel_rfl) ?_ _
               exact TwoP.mk q13 q14 ⟨HV.out.on HX.out, HB13.out, Nat.lt_of_lt_of_le HV.out.bx.lt HLq13.out⟩ (by rw [(HT.out q13 q14).out]; unfold putsA; simp only [List.foldl_cons, List.foldl_nil]; go_simp)
           ·
            go_simp
            have HB14 := Lib.hid (Blk.new X10 61 #[.int .i64 0, .int .i64 0, .int .i32 0])
            have HNE : Hid (q13 < X10.heap.size) := HB13.out.lt
            have HB13 := Lib.hid (HB13.out.alloc (.cells #[.int .i64 0, .int .i64 0, .int .i32 0] 61))
            have HLq14 := Lib.hid HX.out.size
            have HX := Lib.hid (HX.out.alloc HX.out.size (.cells #[.int .i64 0, .int .i64 0, .int .i32 0] 61))
            refine hK.out _ _ HX.out (fun hHeld => ?_)
            clear hK K
            generalize X10.alloc (.cells #[.int .i64 0, .int .i64 0, .int .i32 0] 61) = X15 at *
            generalize X10.heap.size = q14 at *
            refine wpAnyH_ready (rs := [9]) (by kernel_rfl) (by simp) (AllReadyH.cons rfl (fun K hK => ?_) (AllReadyH.nil))
            ·
             go_simp
             go_at_call 21
             with_reducible refine (HST.out _ (HV.out.bl.trans (HX.out.mono HV.out.bl.size))).mono ?_
             rintro e X16 ⟨rfl, h4⟩
             (try (go_wp2_with fail))
             have HX := Lib.hid (HX.out.trans (h4.mono HX.out.size))
             have HB13 := Lib.hid (HB13.out.below h4 HB13.out.lt)
             have HB14 := Lib.hid (HB14.out.below h4 HB14.out.lt)
             clear h4
             refine hK.out _ _ HX.out (fun hHeld => ?_)
             clear hK K
             (try go_simp)
             refine wpAnyH_take (i := 10) (v := ?_) rfl (by kernel_rfl) (by kernel_rfl) (by kernel_rfl) (fun _ _ _ h => h.bad) (Or.inl ⟨by rfl, fun Y _ => by (go_simp <;> with_reducible rfl)⟩) hHeld ?_
             go_simp
             refine wpAnyH_take (i := 11) (v := ?_) rfl (by kernel_rfl) (by kernel_rfl) (by kernel_rfl) (fun _ _ _ h => h.bad) (Or.inl ⟨by rfl, fun Y _ => by (go_simp <;> with_reducible rfl)⟩) hHeld ?_
             go_simp
             refine wpAnyH_take (i := 12) (v := ?_) rfl (by kernel_rfl) (by kernel_rfl) (by kernel_rfl) (fun _ _ _ h => h.bad) (Or.inl ⟨by rfl, fun Y _ => by (go_simp <;> with_reducible rfl)⟩) hHeld ?_
             go_simp
             refine wpAnyH_take (i := 13) (v := ?_) rfl (by kernel_rfl) (by kernel_rfl) (by kernel_rfl) (fun _ _ _ h => h.bad) (Or.inl ⟨by rfl, fun Y _ => by (go_simp <;> with_reducible rfl)⟩) hHeld ?_
             go_simp
             refine wpAnyH_take (i := 16) (v := ?_) rfl (by kernel_rfl) (by kernel_rfl) (by kernel_rfl) (fun _ _ _ h => h.bad) (Or.inl ⟨by rfl, fun Y _ => by (go_simp <;> with_reducible rfl)⟩) hHeld ?_
             go_simp
             refine wpAnyH_ready (rs := [17]) (by kernel_rfl) (by simp) (AllReadyH.cons rfl (fun K hK => ?_) (AllReadyH.nil))
             ·
              refine step_st_row (cs := #[.int .i32 g0, .int .i32 g1, .int .i32 g2, .int .i32 g3]) rfl 43 (.tmp 13) (.tmp 199) rfl q13 rfl rfl _ HB13.out infoR4 rfl (oneR4 ..) ?_
              have HB14 := Lib.hid (Blk.row_other (g := q13) HB14.out (by have := HNE.out; omega) #[.int .i32 g0, .int .i32 g1, .int .i32 g2, .int .i32 g3])
              have HX : Hid (Below V.heap.size V (X16.setRow q13 #[.int .i32 g0, .int .i32 g1, .int .i32 g2, .int .i32 g3])) := Lib.hid ((((But.of_below (X := fun k => V.heap.size ≤ k) HX.out).row _ _ (.inl HLq13.out)).below (Nat.le_refl _) fun k _ z => z))
              have HB13 : Hid (Blk (X16.setRow q13 #[.int .i32 g0, .int .i32 g1, .int .i32 g2, .int .i32 g3]) q13 43 #[.int .i32 g0, .int .i32 g1, .int .i32 g2, .int .i32 g3]) := Lib.hid (setRow_heap X16 _ _ _ _ _ HB13.out)
              refine hK.out _ _ HX.out (fun hHeld => ?_)
              clear hK K
              generalize X16.setRow q13 #[.int .i32 g0, .int .i32 g1, .int .i32 g2, .int .i32 g3] = X17 at *
              (try go_simp)
              refine wpAnyH_ready (rs := [18]) (by kernel_rfl) (by simp) (AllReadyH.cons rfl (fun K hK => ?_) (AllReadyH.nil))
              ·
               refine step_st_row (cs := #[.int .i64 go, .int .i64 gr, .int .i32 gn]) rfl 61 (.tmp 14) (.tmp 200) rfl q14 rfl rfl _ HB14.out infoEf rfl (oneEf ..) ?_
               have HB13 := Lib.hid (Blk.row_other (g := q14) HB13.out (by have := HNE.out; omega) #[.int .i64 go, .int .i64 gr, .int .i32 gn])
               have HX : Hid (Below V.heap.size V (X17.setRow q14 #[.int .i64 go, .int .i64 gr, .int .i32 gn])) := Lib.hid ((((But.of_below (X := fun k => V.heap.size ≤ k) HX.out).row _ _ (.inl HLq14.out)).below (Nat.le_refl _) fun k _ z => z))
               have HB14 : Hid (Blk (X17.setRow q14 #[.int .i64 go, .int .i64 gr, .int .i32 gn]) q14 61 #[.int .i64 go, .int .i64 gr, .int .i32 gn]) := Lib.hid (setRow_heap X17 _ _ _ _ _ HB14.out)
               refine hK.out _ _ HX.out (fun hHeld => ?_)
               clear hK K
               generalize X17.setRow q14 #[.int .i64 go, .int .i64 gr, .int .i32 gn] = X18 at *
               (try go_simp)
               refine wpAnyH_done (by kernel_rfl) ?_ _
               exact TwoP.mk q13 q14 ⟨HV.out.on HX.out, HB13.out, Nat.lt_of_lt_of_le HV.out.bx.lt HLq13.out⟩ (by rw [(HT.out q13 q14).out]; unfold putsA; simp only [List.foldl_cons, List.foldl_nil]; go_simp)
          ·
           go_simp
           have HB14 := Lib.hid (Blk.new X0 61 #[.int .i64 0, .int .i64 0, .int .i32 0])
           have HLq14 := Lib.hid HX.out.size
           have HX := Lib.hid (HX.out.alloc HX.out.size (.cells #[.int .i64 0, .int .i64 0, .int .i32 0] 61))
           refine hK.out _ _ HX.out (fun hHeld => ?_)
           clear hK K
           generalize X0.alloc (.cells #[.int .i64 0, .int .i64 0, .int .i32 0] 61) = X19 at *
           generalize X0.heap.size = q14 at *
           refine wpAnyH_ready (rs := [9, 14]) (by kernel_rfl) (by simp) (AllReadyH.cons rfl (fun K hK => ?_) (AllReadyH.cons rfl (fun K hK => ?_) (AllReadyH.nil)))
           ·
            go_simp
            go_at_call 21
            with_reducible refine (HST.out _ (HV.out.bl.trans (HX.out.mono HV.out.bl.size))).mono ?_
            rintro e X20 ⟨rfl, h4⟩
            (try (go_wp2_with fail))
            have HX := Lib.hid (HX.out.trans (h4.mono HX.out.size))
            have HB14 := Lib.hid (HB14.out.below h4 HB14.out.lt)
            clear h4
            refine hK.out _ _ HX.out (fun hHeld => ?_)
            clear hK K
            (try go_simp)
            refine wpAnyH_take (i := 10) (v := ?_) rfl (by kernel_rfl) (by kernel_rfl) (by kernel_rfl) (fun _ _ _ h => h.bad) (Or.inl ⟨by rfl, fun Y _ => by (go_simp <;> with_reducible rfl)⟩) hHeld ?_
            go_simp
            refine wpAnyH_take (i := 11) (v := ?_) rfl (by kernel_rfl) (by kernel_rfl) (by kernel_rfl) (fun _ _ _ h => h.bad) (Or.inl ⟨by rfl, fun Y _ => by (go_simp <;> with_reducible rfl)⟩) hHeld ?_
            go_simp
            refine wpAnyH_take (i := 12) (v := ?_) rfl (by kernel_rfl) (by kernel_rfl) (by kernel_rfl) (fun _ _ _ h => h.bad) (Or.inl ⟨by rfl, fun Y _ => by (go_simp <;> with_reducible rfl)⟩) hHeld ?_
            go_simp
            refine wpAnyH_take (i := 13) (v := ?_) rfl (by kernel_rfl) (by kernel_rfl) (by kernel_rfl) (fun _ _ _ h => h.bad) (Or.inl ⟨by rfl, fun Y _ => by (go_simp <;> with_reducible rfl)⟩) hHeld ?_
            go_simp
            refine wpAnyH_ready (rs := [14]) (by kernel_rfl) (by simp) (AllReadyH.cons rfl (fun K hK => ?_) (AllReadyH.nil))
            ·
             go_simp
             have HB13 := Lib.hid (Blk.new X20 43 #[.int .i32 0, .int .i32 0, .int .i32 0, .int .i32 0])
             have HNE : Hid (q14 < X20.heap.size) := HB14.out.lt
             have HB14 := Lib.hid (HB14.out.alloc (.cells #[.int .i32 0, .int .i32 0, .int .i32 0, .int .i32 0] 43))
             have HLq13 := Lib.hid HX.out.size
             have HX := Lib.hid (HX.out.alloc HX.out.size (.cells #[.int .i32 0, .int .i32 0, .int .i32 0, .int .i32 0] 43))
             refine hK.out _ _ HX.out (fun hHeld => ?_)
             clear hK K
             generalize X20.alloc (.cells #[.int .i32 0, .int .i32 0, .int .i32 0, .int .i32 0] 43) = X21 at *
             generalize X20.heap.size = q13 at *
             refine wpAnyH_take (i := 16) (v := ?_) rfl (by kernel_rfl) (by kernel_rfl) (by kernel_rfl) (fun _ _ _ h => h.bad) (Or.inl ⟨by rfl, fun Y _ => by (go_simp <;> with_reducible rfl)⟩) hHeld ?_
             go_simp
             refine wpAnyH_ready (rs := [17]) (by kernel_rfl) (by simp) (AllReadyH.cons rfl (fun K hK => ?_) (AllReadyH.nil))
             ·
              refine step_st_row (cs := #[.int .i32 g0, .int .i32 g1, .int .i32 g2, .int .i32 g3]) rfl 43 (.tmp 13) (.tmp 199) rfl q13 rfl rfl _ HB13.out infoR4 rfl (oneR4 ..) ?_
              have HB14 := Lib.hid (Blk.row_other (g := q13) HB14.out (by have := HNE.out; omega) #[.int .i32 g0, .int .i32 g1, .int .i32 g2, .int .i32 g3])
              have HX : Hid (Below V.heap.size V (X21.setRow q13 #[.int .i32 g0, .int .i32 g1, .int .i32 g2, .int .i32 g3])) := Lib.hid ((((But.of_below (X := fun k => V.heap.size ≤ k) HX.out).row _ _ (.inl HLq13.out)).below (Nat.le_refl _) fun k _ z => z))
              have HB13 : Hid (Blk (X21.setRow q13 #[.int .i32 g0, .int .i32 g1, .int .i32 g2, .int .i32 g3]) q13 43 #[.int .i32 g0, .int .i32 g1, .int .i32 g2, .int .i32 g3]) := Lib.hid (setRow_heap X21 _ _ _ _ _ HB13.out)
              refine hK.out _ _ HX.out (fun hHeld => ?_)
              clear hK K
              generalize X21.setRow q13 #[.int .i32 g0, .int .i32 g1, .int .i32 g2, .int .i32 g3] = X22 at *
              (try go_simp)
              refine wpAnyH_ready (rs := [18]) (by kernel_rfl) (by simp) (AllReadyH.cons rfl (fun K hK => ?_) (AllReadyH.nil))
              ·
               refine step_st_row (cs := #[.int .i64 go, .int .i64 gr, .int .i32 gn]) rfl 61 (.tmp 14) (.tmp 200) rfl q14 rfl rfl _ HB14.out infoEf rfl (oneEf ..) ?_
               have HB13 := Lib.hid (Blk.row_other (g := q14) HB13.out (by have := HNE.out; omega) #[.int .i64 go, .int .i64 gr, .int .i32 gn])
               have HX : Hid (Below V.heap.size V (X22.setRow q14 #[.int .i64 go, .int .i64 gr, .int .i32 gn])) := Lib.hid ((((But.of_below (X := fun k => V.heap.size ≤ k) HX.out).row _ _ (.inl HLq14.out)).below (Nat.le_refl _) fun k _ z => z))
               have HB14 : Hid (Blk (X22.setRow q14 #[.int .i64 go, .int .i64 gr, .int .i32 gn]) q14 61 #[.int .i64 go, .int .i64 gr, .int .i32 gn]) := Lib.hid (setRow_heap X22 _ _ _ _ _ HB14.out)
               refine hK.out _ _ HX.out (fun hHeld => ?_)
               clear hK K
               generalize X22.setRow q14 #[.int .i64 go, .int .i64 gr, .int .i32 gn] = X23 at *
               (try go_simp)
               refine wpAnyH_done (by kernel_rfl) ?_ _
               exact TwoP.mk q13 q14 ⟨HV.out.on HX.out, HB13.out, Nat.lt_of_lt_of_le HV.out.bx.lt HLq13.out⟩ (by rw [(HT.out q13 q14).out]; unfold putsA; simp only [List.foldl_cons, List.foldl_nil]; go_simp)
           ·
            go_simp
            have HB13 := Lib.hid (Blk.new X19 43 #[.int .i32 0, .int .i32 0, .int .i32 0, .int .i32 0])
            have HNE : Hid (q14 < X19.heap.size) := HB14.out.lt
            have HB14 := Lib.hid (HB14.out.alloc (.cells #[.int .i32 0, .int .i32 0, .int .i32 0, .int .i32 0] 43))
            have HLq13 := Lib.hid HX.out.size
            have HX := Lib.hid (HX.out.alloc HX.out.size (.cells #[.int .i32 0, .int .i32 0, .int .i32 0, .int .i32 0] 43))
            refine hK.out _ _ HX.out (fun hHeld => ?_)
            clear hK K
            generalize X19.alloc (.cells #[.int .i32 0, .int .i32 0, .int .i32 0, .int .i32 0] 43) = X24 at *
            generalize X19.heap.size = q13 at *
            refine wpAnyH_ready (rs := [9]) (by kernel_rfl) (by simp) (AllReadyH.cons rfl (fun K hK => ?_) (AllReadyH.nil))
            ·
             go_simp
             go_at_call 21
             with_reducible refine (HST.out _ (HV.out.bl.trans (HX.out.mono HV.out.bl.size))).mono ?_
             rintro e X25 ⟨rfl, h4⟩
             (try (go_wp2_with fail))
             have HX := Lib.hid (HX.out.trans (h4.mono HX.out.size))
             have HB13 := Lib.hid (HB13.out.below h4 HB13.out.lt)
             have HB14 := Lib.hid (HB14.out.below h4 HB14.out.lt)
             clear h4
             refine hK.out _ _ HX.out (fun hHeld => ?_)
             clear hK K
             (try go_simp)
             refine wpAnyH_take (i := 10) (v := ?_) rfl (by kernel_rfl) (by kernel_rfl) (by kernel_rfl) (fun _ _ _ h => h.bad) (Or.inl ⟨by rfl, fun Y _ => by (go_simp <;> with_reducible rfl)⟩) hHeld ?_
             go_simp
             refine wpAnyH_take (i := 11) (v := ?_) rfl (by kernel_rfl) (by kernel_rfl) (by kernel_rfl) (fun _ _ _ h => h.bad) (Or.inl ⟨by rfl, fun Y _ => by (go_simp <;> with_reducible rfl)⟩) hHeld ?_
             go_simp
             refine wpAnyH_take (i := 12) (v := ?_) rfl (by kernel_rfl) (by kernel_rfl) (by kernel_rfl) (fun _ _ _ h => h.bad) (Or.inl ⟨by rfl, fun Y _ => by (go_simp <;> with_reducible rfl)⟩) hHeld ?_
             go_simp
             refine wpAnyH_take (i := 13) (v := ?_) rfl (by kernel_rfl) (by kernel_rfl) (by kernel_rfl) (fun _ _ _ h => h.bad) (Or.inl ⟨by rfl, fun Y _ => by (go_simp <;> with_reducible rfl)⟩) hHeld ?_
             go_simp
             refine wpAnyH_take (i := 16) (v := ?_) rfl (by kernel_rfl) (by kernel_rfl) (by kernel_rfl) (fun _ _ _ h => h.bad) (Or.inl ⟨by rfl, fun Y _ => by (go_simp <;> with_reducible rfl)⟩) hHeld ?_
             go_simp
             refine wpAnyH_ready (rs := [17]) (by kernel_rfl) (by simp) (AllReadyH.cons rfl (fun K hK => ?_) (AllReadyH.nil))
             ·
              refine step_st_row (cs := #[.int .i32 g0, .int .i32 g1, .int .i32 g2, .int .i32 g3]) rfl 43 (.tmp 13) (.tmp 199) rfl q13 rfl rfl _ HB13.out infoR4 rfl (oneR4 ..) ?_
              have HB14 := Lib.hid (Blk.row_other (g := q13) HB14.out (by have := HNE.out; omega) #[.int .i32 g0, .int .i32 g1, .int .i32 g2, .int .i32 g3])
              have HX : Hid (Below V.heap.size V (X25.setRow q13 #[.int .i32 g0, .int .i32 g1, .int .i32 g2, .int .i32 g3])) := Lib.hid ((((But.of_below (X := fun k => V.heap.size ≤ k) HX.out).row _ _ (.inl HLq13.out)).below (Nat.le_refl _) fun k _ z => z))
              have HB13 : Hid (Blk (X25.setRow q13 #[.int .i32 g0, .int .i32 g1, .int .i32 g2, .int .i32 g3]) q13 43 #[.int .i32 g0, .int .i32 g1, .int .i32 g2, .int .i32 g3]) := Lib.hid (setRow_heap X25 _ _ _ _ _ HB13.out)
              refine hK.out _ _ HX.out (fun hHeld => ?_)
              clear hK K
              generalize X25.setRow q13 #[.int .i32 g0, .int .i32 g1, .int .i32 g2, .int .i32 g3] = X26 at *
              (try go_simp)
              refine wpAnyH_ready (rs := [18]) (by kernel_rfl) (by simp) (AllReadyH.cons rfl (fun K hK => ?_) (AllReadyH.nil))
              ·
               refine step_st_row (cs := #[.int .i64 go, .int .i64 gr, .int .i32 gn]) rfl 61 (.tmp 14) (.tmp 200) rfl q14 rfl rfl _ HB14.out infoEf rfl (oneEf ..) ?_
               have HB13 := Lib.hid (Blk.row_other (g := q14) HB13.out (by have := HNE.out; omega) #[.int .i64 go, .int .i64 gr, .int .i32 gn])
               have HX : Hid (Below V.heap.size V (X26.setRow q14 #[.int .i64 go, .int .i64 gr, .int .i32 gn])) := Lib.hid ((((But.of_below (X := fun k => V.heap.size ≤ k) HX.out).row _ _ (.inl HLq14.out)).below (Nat.le_refl _) fun k _ z => z))
               have HB14 : Hid (Blk (X26.setRow q14 #[.int .i64 go, .int .i64 gr, .int .i32 gn]) q14 61 #[.int .i64 go, .int .i64 gr, .int .i32 gn]) := Lib.hid (setRow_heap X26 _ _ _ _ _ HB14.out)
               refine hK.out _ _ HX.out (fun hHeld => ?_)
               clear hK K
               generalize X26.setRow q14 #[.int .i64 go, .int .i64 gr, .int .i32 gn] = X27 at *
               (try go_simp)
               refine wpAnyH_done (by kernel_rfl) ?_ _
               exact TwoP.mk q13 q14 ⟨HV.out.on HX.out, HB13.out, Nat.lt_of_lt_of_le HV.out.bx.lt HLq13.out⟩ (by rw [(HT.out q13 q14).out]; unfold putsA; simp only [List.foldl_cons, List.foldl_nil]; go_simp)
         case ht =>
          rintro V1 q13 q14 ⟨hv, hb13, hlt⟩
          unfold putsA
          simp only [List.foldl_cons, List.foldl_nil]
          go_simp
          have HLT := Lib.hid hlt
          clear HALL HV hlt
          have HV := Lib.hid hv
          clear hv
          generalize V1 = V at *
          have f1 := HV.out.free 1
          obtain ⟨e0, e1, e2, e3, e4, s0, s1, s2, s3, s4, s5, s6, s7, f6, f7, c0, c17⟩ := HV.out.facts
          go_upto_region 25 with fail
          have hq13 : Blk (V.setCell ⟨q3, 1, none⟩ (.int .i64 gp)) q13 43 #[.int .i32 g0, .int .i32 g1, .int .i32 g2, .int .i32 g3] := hb13.far (by have := HLT.out; simp; omega) _
          clear hb13 f1
          have hv := HV.out.set 1 (.int .i64 gp) (D := taskC ⟨(k : Int), gp, ⟨ra, rb, rc, rd⟩, st, on⟩) rfl
          clear s0 s1 s2 s3 s4 s5 s6 s7 e0 e1 e2 e3 e4 f6 f7 c0 c17
          clear HV
          generalize (V.setCell ⟨q3, 1, none⟩ (.int .i64 gp)) = V at *
          have HV := Lib.hid hv
          clear hv
          obtain ⟨e0, e1, e2, e3, e4, s0, s1, s2, s3, s4, s5, s6, s7, f6, f7, c0, c17⟩ := HV.out.facts
          have h0 := hq13.cell 0; have h1 := hq13.cell 1; have h2 := hq13.cell 2; have h3 := hq13.cell 3
          simp only [List.getElem?_toArray, List.getElem?_cons_succ, List.getElem?_cons_zero] at h0 h1 h2 h3
          clear hq13
          have f2 := HV.out.free 2
          have f3 := HV.out.free 3
          have f4 := HV.out.free 4
          have f5 := HV.out.free 5
          go_upto_region 61 with fail
          clear h0 h1 h2 h3 f2 f3 f4 f5
          have hv := ((((HV.out.set 2 (.int .i32 g0) rfl).set 3 (.int .i32 g1) rfl).set 4 (.int .i32 g2) rfl).set 5 (.int .i32 g3) (D := taskC ⟨(k : Int), gp, ⟨g0, g1, g2, g3⟩, st, on⟩) rfl)
          clear s0 s1 s2 s3 s4 s5 s6 s7 e0 e1 e2 e3 e4 f6 f7 c0 c17
          clear HV
          generalize ((((V.setCell ⟨q3, 2, none⟩ (.int .i32 g0)).setCell ⟨q3, 3, none⟩ (.int .i32 g1)).setCell ⟨q3, 4, none⟩ (.int .i32 g2)).setCell ⟨q3, 5, none⟩ (.int .i32 g3)) = V at *
          have HV := Lib.hid hv
          clear hv
          obtain ⟨e0, e1, e2, e3, e4, s0, s1, s2, s3, s4, s5, s6, s7, f6, f7, c0, c17⟩ := HV.out.facts
          cases bz with
          | false =>
           go_upto_region 61 with fail
           have HRE : Hid (R = none) := by
            show _ = _
            rw [← HR.out]
            unfold taskP
            simp only [Int.reduceEq, ↓reduceIte]
            have h2 : st = 2 := by simpa using t2
            have ho : on = cpu := by simpa using tO
            rw [if_pos ⟨h2, ho⟩]
            unfold doP
            have hz : z.op ≠ a := by simpa using tz
            rw [show insP ps ⟨(k : Int), (j : Int), ⟨ra, rb, rc, rd⟩, st, on⟩ a b = none from ?_]
            ·
             rfl
            unfold insP
            rw [if_pos ⟨by show (0 : Int) ≤ (k : Int); omega, HBC.out, by rw [HBC.out]; show (0 : Int) ≤ (j : Int); omega⟩, show ((k : Int)).toNat = k by omega, HQ.out]
            dsimp only
            rw [HBC.out, show ((j : Int)).toNat = j by omega, HZ.out]
            rw [if_neg (by show ¬ some z.op = some a; simpa using hz)]
           
            (try rfl)
           clear s0 s1 s2 s3 s4 s5 s6 s7 e0 e1 e2 e3 e4 f6 f7 c0 c17
           obtain ⟨old, hbr, hold⟩ := HV.out.br
           have HBR := Lib.hid hbr; have HOL := Lib.hid hold; have HBF := Lib.hid HV.out.bf; have HBX := Lib.hid HV.out.bx
           clear hbr hold
           go_wp2_with (first
            | (with_reducible (show wpList _ _ _ _ _ _); refine ld_flat rfl (.tmp 3) rfl w.heap.size rfl HBF.out ?_)
            | (with_reducible (show wpList _ _ _ _ _ _); refine st_flat rfl (.tmp 6) (.tmp 365) rfl (w.heap.size + 1 + 1) rfl rfl rfl rfl old HBR.out HOL.out ?_))
           refine ret_flat2 rfl (w.heap.size + 1 + 1) rfl (BF.row HBR.out) rfl ?_
           exact FrN.no HV.out HH.out (by show Option.map _ R = none; rw [HRE.out]; rfl)
          | true =>
           go_upto_region 61 with fail
           have HRE : Hid (R = some ⟨(k : Int), gp, ⟨g0, g1, g2, g3⟩, st, on⟩) := by
            show _ = _
            rw [← HR.out]
            unfold taskP
            simp only [Int.reduceEq, ↓reduceIte]
            have h2 : st = 2 := by simpa using t2
            have ho : on = cpu := by simpa using tO
            rw [if_pos ⟨h2, ho⟩]
            unfold doP
            have hz : z.op = a := by simpa using tz
            rw [show insP ps ⟨(k : Int), (j : Int), ⟨ra, rb, rc, rd⟩, st, on⟩ a b = some ⟨prio, some ⟨lb, lo, none⟩, l, cp⟩ from ?_]
            ·
             rw [HBC.out]
             show some (FT.mk (k : Int) (stepF prio l (j : Int) ⟨ra, rb, rc, rd⟩).pc (stepF prio l (j : Int) ⟨ra, rb, rc, rd⟩).r st on) = _
             rw [HG.out]
            unfold insP
            rw [if_pos ⟨by show (0 : Int) ≤ (k : Int); omega, HBC.out, by rw [HBC.out]; show (0 : Int) ≤ (j : Int); omega⟩, show ((k : Int)).toNat = k by omega, HQ.out]
            dsimp only
            rw [HBC.out, show ((j : Int)).toNat = j by omega, HZ.out]
            rw [if_pos (by show some z.op = some a; rw [hz])]
           
            (try rfl)
           clear s0 s1 s2 s3 s4 s5 s6 s7 e0 e1 e2 e3 e4 f6 f7 c0 c17
           obtain ⟨old, hbr, hold⟩ := HV.out.br
           have HBR := Lib.hid hbr; have HOL := Lib.hid hold; have HBF := Lib.hid HV.out.bf; have HBX := Lib.hid HV.out.bx
           clear hbr hold
           obtain ⟨C, hC⟩ : ∃ C, taskC ⟨(k : Int), gp, ⟨g0, g1, g2, g3⟩, st, on⟩ = C := ⟨_, rfl⟩
           have HCL : Hid (C.length = 8) := by show _ = _; rw [← hC]; rfl
           have HWI : Hid (Calls Tryd.prog 23 #[.agg (flL (.slice (some ⟨g, off, none⟩) n c) (.slice A2 m c2) f.p f.tm).toArray, .int .i64 i, .agg C.toArray] V (WitG V (.slice (some ⟨g, off, none⟩) n c) (.slice A2 m c2) f.ts f.ow f.p f.tm (f.ts.set i ⟨(k : Int), gp, ⟨g0, g1, g2, g3⟩, st, on⟩) f.ow)) := by
            rw [← hC]; exact with_any (HH.out.below HV.out.bl) (by rw [HN.out]; exact hl) i (by rw [HN.out]; omega) ⟨(k : Int), gp, ⟨g0, g1, g2, g3⟩, st, on⟩
           rw [hC] at HBX
           have e1 : V.cell? ⟨w.heap.size + 1, 1, none⟩ = some (.int .i64 i) := HV.out.ev.2.1
           clear hC
           go_wp2_with (first
            | (with_reducible (show wpList _ _ _ _ _ _); refine ld_flat rfl (.tmp 3) rfl w.heap.size rfl HBF.out ?_)
            | (with_reducible (show wpList _ _ _ _ _ _); refine ld_ft rfl (.tmp 8) rfl q3 rfl HBX.out HCL.out ?_)
            | (go_at_call 23; (with_reducible refine HWI.out.mono ?_); rintro e w7 ⟨F7, O7, rfl, h7, hX7, hC7, hb7⟩; have HB7 := Lib.hid hb7; have HC7 := Lib.hid hC7; have H7 := Lib.hid h7; have HX7 := Lib.hid hX7; have HBR7 := Lib.hid (HBR.out.below hb7 HBR.out.lt); have oF7 := h7.one.1; have oO7 := h7.one.2; clear h7 hb7 hX7 hC7)
            | (with_reducible (show wpList _ _ _ _ _ _); refine st_flat rfl (.tmp 6) (.tmp 370) rfl (w.heap.size + 1 + 1) rfl rfl oF7 oO7 old HBR7.out HOL.out ?_))
           refine ret_flat2 rfl (w.heap.size + 1 + 1) rfl (BF.row HBR7.out) rfl ?_
           exact FrN.yes HV.out HH.out H7.out HX7.out HC7.out HB7.out (by show Option.map _ R = _; rw [HRE.out]; rfl)
end
end Go.Proofs.YtilaalleiiakoaaDoor
