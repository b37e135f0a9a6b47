/- The document's Next: its boxes; a task stops (layer 19): printed by wip/src19/gen_mg.py. -/
import Derived.Test.YtilaalleiiakoaaDoorMd
namespace Go.Proofs.YtilaalleiiakoaaDoor
open Go.RowKit
set_option maxRecDepth 100000

/-- A task's box is read whole. -/
theorem ld_ft {C : List Value} {w : World} {ops : Array Oper} {rest : List Oper} {o : Oper} {a : Act} {Q : Exit → Act → World → Prop} (hgd : o.guard = none) (x : Operand) (ho : o.op = .load 45 x)
  (g : Nat) (hx : a.eval x = .pointer (some ⟨g, 0, none⟩)) (hb : Blk w g 45 C.toArray) (hC : C.length = 8) (h : wpList Tryd.prog ops Q rest (a.put o.dst (.agg C.toArray)) w) : wpList Tryd.prog ops Q (o :: rest) a w :=
 wpList_load_mid hgd 45 x ho g 0 hx C _ (fun j u hj => by rw [Nat.zero_add, hb.cell, List.getElem?_toArray]; exact hj) Tryd.underlying45 rfl (by rw [hC, infoTaskZS]) h
/-- Who is online is read, at a step that is guarded and wanted. -/
theorem ld_on_if {F O : Value} {p : Nat → Bool} {t : Int} {w : World} {ops : Array Oper} {rest : List Oper} {o : Oper} {a : Act} {Q : Exit → Act → World → Prop} (hw : Region.wanted o (yielded ops a.tmps) = true) (x : Operand) (ho : o.op = .load 24 x)
  (g : Nat) (hx : a.eval x = .pointer (some ⟨g, 1, none⟩)) (hb : BF w g F O p t) (h : wpList Tryd.prog ops Q rest (a.put o.dst (.agg (cellsOf p))) w) : wpList Tryd.prog ops Q (o :: rest) a w :=
 wpList_step fun K hK => by
  rw [if_pos hw]
  exact wp_load_mid 24 x ho g 1 hx (cellsOf p).toList _ hb.set underSet rfl (by rw [infoSetS]; simp [cellsOf]) (by rw [Array.toArray_toList]; exact hK _ _ h)
/-- The boxes of Next: the machine, the event, what is handed back, the task. -/
structure FrN (w V : World) (F O : Value) (p : Nat → Bool) (t : Int) (e : EvP) (q : Nat) (C : List Value) : Prop where
 bl : Below w.heap.size w V
 bf : BF V w.heap.size F O p t
 be : Blk V (w.heap.size + 1) 36 #[.int .i64 e.kd, .int .i64 e.tk, .int .i64 e.cpu, .int .i64 e.a, .int .i64 e.b]
 br : ∃ old, Blk V (w.heap.size + 1 + 1) 30 old ∧ old.size = 19
 bx : Blk V q 45 C.toArray
 ne : w.heap.size + 1 + 1 < q
section
variable {w W V : World} {F O : Value} {f : Fl} {p : Nat → Bool} {t : Int} {e : EvP} {q : Nat} {C : List Value}
theorem FrN.new (h : FrU w W F O p t e) (C : List Value) : FrN w (W.alloc (.cells C.toArray 45)) F O p t e W.heap.size C := by
 obtain ⟨old, h1, h2⟩ := h.br
 have ha : Below W.heap.size W (W.alloc (.cells C.toArray 45)) := (Below.refl _ _).alloc (Nat.le_refl _) _
 exact ⟨h.bl.trans (ha.mono h.bl.size), Blk.below h.bf ha (Blk.lt h.bf), h.be.below ha h.be.lt, ⟨old, h1.below ha h1.lt, h2⟩, Blk.new W _ _, h1.lt⟩
theorem FrN.on (h : FrN w V F O p t e q C) (hb : Below V.heap.size V W) : FrN w W F O p t e q C := by
 obtain ⟨old, h1, h2⟩ := h.br
 exact ⟨h.bl.trans (hb.mono h.bl.size), Blk.below h.bf hb (Blk.lt h.bf), h.be.below hb h.be.lt, ⟨old, h1.below hb h1.lt, h2⟩, h.bx.below hb h.bx.lt, h.ne⟩
theorem FrN.set (h : FrN w V F O p t e q C) (k : Nat) (v : Value) {D : List Value} (hD : C.set k v = D) : FrN w (V.setCell ⟨q, k, none⟩ v) F O p t e q D := by
 obtain ⟨old, h1, h2⟩ := h.br
 have hn := h.ne
 have hx := h.bx.set_ k v
 rw [List.setIfInBounds_toArray, hD] at hx
 exact ⟨((But.of_below (X := fun k => w.heap.size ≤ k) h.bl).set _ _ (.inl (by show w.heap.size ≤ q; omega))).below (Nat.le_refl _) fun k _ z => z, Blk.far h.bf (by simp; omega) _, h.be.far (by simp; omega) _, ⟨old, h1.far (by simp; omega) _, h2⟩, hx, h.ne⟩
theorem FrN.ev (h : FrN w V F O p t e q C) : V.cell? ⟨w.heap.size + 1, 0, none⟩ = some (.int .i64 e.kd) ∧ V.cell? ⟨w.heap.size + 1, 1, none⟩ = some (.int .i64 e.tk) ∧ V.cell? ⟨w.heap.size + 1, 2, none⟩ = some (.int .i64 e.cpu) ∧ V.cell? ⟨w.heap.size + 1, 3, none⟩ = some (.int .i64 e.a) ∧ V.cell? ⟨w.heap.size + 1, 4, none⟩ = some (.int .i64 e.b) :=
 ⟨h.be.cell 0, h.be.cell 1, h.be.cell 2, h.be.cell 3, h.be.cell 4⟩
theorem FrN.task {x : FT} (h : FrN w V F O p t e q (taskC x)) : V.cell? ⟨q, 0, none⟩ = some (.int .i64 x.pg) ∧ V.cell? ⟨q, 1, none⟩ = some (.int .i64 x.pc) ∧ V.cell? ⟨q, 2, none⟩ = some (.int .i32 x.r.a) ∧ V.cell? ⟨q, 3, none⟩ = some (.int .i32 x.r.b) ∧ V.cell? ⟨q, 4, none⟩ = some (.int .i32 x.r.c) ∧ V.cell? ⟨q, 5, none⟩ = some (.int .i32 x.r.d) ∧ V.cell? ⟨q, 6, none⟩ = some (.int .i64 x.st) ∧ V.cell? ⟨q, 7, none⟩ = some (.int .i64 x.on) :=
 ⟨h.bx.cell 0, h.bx.cell 1, h.bx.cell 2, h.bx.cell 3, h.bx.cell 4, h.bx.cell 5, h.bx.cell 6, h.bx.cell 7⟩
theorem FrN.free (h : FrN w V F O p t e q C) (k : Nat) : V.frozen? ⟨q, k, none⟩ = false := h.bx.free k
theorem FrN.facts {kd tk cpu a b pg pc ra rb rc rd st on : Int} (h : FrN w V F O p t ⟨kd, tk, cpu, a, b⟩ q (taskC ⟨pg, pc, ⟨ra, rb, rc, rd⟩, st, on⟩)) :
  V.cell? ⟨w.heap.size + 1, 0, none⟩ = some (.int .i64 kd) ∧ V.cell? ⟨w.heap.size + 1, 1, none⟩ = some (.int .i64 tk) ∧ V.cell? ⟨w.heap.size + 1, 2, none⟩ = some (.int .i64 cpu) ∧ V.cell? ⟨w.heap.size + 1, 3, none⟩ = some (.int .i64 a) ∧ V.cell? ⟨w.heap.size + 1, 4, none⟩ = some (.int .i64 b) ∧
  V.cell? ⟨q, 0, none⟩ = some (.int .i64 pg) ∧ V.cell? ⟨q, 1, none⟩ = some (.int .i64 pc) ∧ V.cell? ⟨q, 2, none⟩ = some (.int .i32 ra) ∧ V.cell? ⟨q, 3, none⟩ = some (.int .i32 rb) ∧ V.cell? ⟨q, 4, none⟩ = some (.int .i32 rc) ∧ V.cell? ⟨q, 5, none⟩ = some (.int .i32 rd) ∧ V.cell? ⟨q, 6, none⟩ = some (.int .i64 st) ∧ V.cell? ⟨q, 7, none⟩ = some (.int .i64 on) ∧
  V.frozen? ⟨q, 6, none⟩ = false ∧ V.frozen? ⟨q, 7, none⟩ = false ∧ V.cell? ⟨w.heap.size, 0, none⟩ = some F ∧ V.cell? ⟨w.heap.size, 17, none⟩ = some O :=
 ⟨h.be.cell 0, h.be.cell 1, h.be.cell 2, h.be.cell 3, h.be.cell 4, h.bx.cell 0, h.bx.cell 1, h.bx.cell 2, h.bx.cell 3, h.bx.cell 4, h.bx.cell 5, h.bx.cell 6, h.bx.cell 7, h.bx.free 6, h.bx.free 7, BF.c0 h.bf, BF.c17 h.bf⟩
theorem FrN.no {R : Option Fl} (h : FrN w V F O f.p f.tm e q C) (hH : InF w F O f.ts f.ow) (hR : R = none) : NxtG w F O f R (.returned (.tuple #[flV F O f.p f.tm, .bool false])) (V.setRow (w.heap.size + 1 + 1) (flL F O f.p f.tm).toArray) := by
 subst hR
 have hn := h.ne
 exact NxtG.same (g := f) (R := none) hH rfl rfl rfl (((But.of_below (X := fun k => w.heap.size ≤ k) h.bl).row _ _ (.inl (by show w.heap.size ≤ w.heap.size + 1 + 1; omega))).below (Nat.le_refl _) fun k _ z => z)
/-- What a call gave, handed back whole. -/
theorem FrN.yes {R : Option Fl} {ts' : List FT} {ow' : List Int} {F' O' : Value} (h : FrN w V F O f.p f.tm e q C) (hH : InF w F O f.ts f.ow) (hW : InF W F' O' ts' ow') (hX : ∀ k, OwnX F' O' ts' ow' k → V.heap.size ≤ k ∨ OwnX F O f.ts f.ow k) (hC : CapF F f.ts.length → CapF F' ts'.length) (hb : Below V.heap.size V W) (hR : R = some { f with ts := ts', ow := ow' }) :
  NxtG w F O f R (.returned (.tuple #[flV F' O' f.p f.tm, .bool true])) (W.setRow (w.heap.size + 1 + 1) (flL F' O' f.p f.tm).toArray) := by
 subst hR
 have hn := h.ne
 have hq := h.bx.lt
 have hB : But (fun k => k = w.heap.size + 1 + 1) W (W.setRow (w.heap.size + 1 + 1) (flL F' O' f.p f.tm).toArray) := (But.refl _ _).row _ _ (.inl rfl)
 refine ⟨F', O', rfl, hW.but hB fun k hk z => ?_, fun k hk => ?_, hC, ?_⟩
 ·
  subst z
  rcases hX _ hk with z | z
  ·
   omega
  ·
   have := hH.lt z; omega
 ·
  rcases hX k hk with z | z
  ·
   exact .inl (Nat.le_trans h.bl.size z)
  ·
   exact .inr z
 ·
  exact (((But.of_below (X := fun k => w.heap.size ≤ k) (h.bl.trans (hb.mono h.bl.size))).row _ _ (.inl (by show w.heap.size ≤ w.heap.size + 1 + 1; omega))).below (Nat.le_refl _) fun k _ z => z)
end
section
variable {w : World} {B : Nat} {F O : Value} {f : Fl} {i : Nat} {x : FT} {PA : Option Addr} {ps : List PR}

set_option maxHeartbeats 8000000 in
theorem nx_4 (h : InF w F O f.ts f.ow) (hl : f.ts.length ≤ 1000) (_ : f.ow.length ≤ 1000) (hx : f.ts[i]? = some x) (pcap : Nat) (cpu a b : Int) :
  Calls Tryd.prog 10 #[flV F O f.p f.tm, .slice PA ps.length pcap, evV ⟨4, i, cpu, a, b⟩] w (NxtG w F O f ((taskP f ps ⟨4, i, cpu, a, b⟩ x).map fun y => { f with ts := f.ts.set i y })) := by
 have hH := h
 obtain ⟨⟨A, c, rfl, hT⟩, ⟨A2, c2, rfl, hO⟩⟩ := h
 obtain ⟨g, off, rfl, -, -⟩ := hT i x hx
 have HH := Lib.hid hH; have HX := Lib.hid hx; have HT := Lib.hid hT
 have hfr := FrU.new w (.slice (some ⟨g, off, none⟩) f.ts.length c) (.slice A2 f.ow.length c2) f.p f.tm ⟨4, i, cpu, a, b⟩ #[.slice none 0 0, .int .u64 0, .int .u64 0, .int .u64 0, .int .u64 0, .int .u64 0, .int .u64 0, .int .u64 0, .int .u64 0, .int .u64 0, .int .u64 0, .int .u64 0, .int .u64 0, .int .u64 0, .int .u64 0, .int .u64 0, .int .u64 0, .slice none 0 0, .int .i64 0] rfl
 obtain ⟨R, hR⟩ : ∃ R, taskP f ps ⟨4, i, cpu, a, b⟩ x = R := ⟨_, rfl⟩
 have HR := Lib.hid hR
 rw [hR]
 have hil := (List.getElem?_eq_some_iff.1 hx).1
 obtain ⟨n, hn⟩ : ∃ n, f.ts.length = n := ⟨_, rfl⟩
 obtain ⟨m, hm'⟩ : ∃ m, f.ow.length = m := ⟨_, rfl⟩
 have HN := Lib.hid hn; have HM := Lib.hid hm'
 rw [hn] at hfr hil hl HH ⊢
 rw [hm'] at hfr  HH ⊢
 clear hH hx hT hO hR hn hm'
 have i0 : (0 : Int) ≤ (i : Int) := by omega
 have i1 : (i : Int) < (n : Int) := by omega
 have u0 : decide ((i : Int) < 0) = false := decide_eq_false (by omega)
 have u1 : decide ((n : Int) ≤ (i : Int)) = false := decide_eq_false (by omega)
 dsimp only at hfr
 go_enter Tryd.func10, Tryd.ntmps10
 go_upto_region 1 with fail
 generalize ((w.alloc (.cells (flL (.slice (some ⟨g, off, none⟩) n c) (.slice A2 m c2) f.p f.tm).toArray 30)).alloc (.cells #[.int .i64 4, .int .i64 i, .int .i64 cpu, .int .i64 a, .int .i64 b] 36)).alloc (.cells #[.slice none 0 0, .int .u64 0, .int .u64 0, .int .u64 0, .int .u64 0, .int .u64 0, .int .u64 0, .int .u64 0, .int .u64 0, .int .u64 0, .int .u64 0, .int .u64 0, .int .u64 0, .int .u64 0, .int .u64 0, .int .u64 0, .int .u64 0, .slice none 0 0, .int .i64 0] 30) = W at *
 have HFR := Lib.hid hfr
 obtain ⟨e0, e1, e2, e3, e4⟩ := hfr.ev
 dsimp only at e0 e1 e2 e3 e4
 have c0 := BF.c0 hfr.bf
 obtain ⟨g', off', hge, -, hr⟩ := (HT.out.below hfr.bl) i _ HX.out
 simp only [Option.some.injEq, Addr.mk.injEq, and_true] at hge
 obtain ⟨rfl, rfl⟩ := hge
 obtain ⟨d0, d1, d2, d3, d4, d5, d6, d7⟩ := task_cells hr
 obtain ⟨pg, pc, ⟨ra, rb, rc, rd⟩, st, on⟩ := x
 dsimp only at d0 d1 d2 d3 d4 d5 d6 d7
 clear hfr hr
 go_upto_region 11 with fail
 have hv : FrN w (W.alloc (.cells #[.int .i64 pg, .int .i64 pc, .int .i32 ra, .int .i32 rb, .int .i32 rc, .int .i32 rd, .int .i64 st, .int .i64 on] 45)) (.slice (some ⟨g, off, none⟩) n c) (.slice A2 m c2) f.p f.tm ⟨4, i, cpu, a, b⟩ W.heap.size (taskC ⟨pg, pc, ⟨ra, rb, rc, rd⟩, st, on⟩) := FrN.new HFR.out _
 generalize W.alloc (.cells #[.int .i64 pg, .int .i64 pc, .int .i32 ra, .int .i32 rb, .int .i32 rc, .int .i32 rd, .int .i64 st, .int .i64 on] 45) = V at *
 generalize W.heap.size = q3 at *
 have HV := Lib.hid hv
 clear e0 e1 e2 e3 e4 c0 d0 d1 d2 d3 d4 d5 d6 d7 HFR hv
 obtain ⟨e0, e1, e2, e3, e4, s0, s1, s2, s3, s4, s5, s6, s7, f6, f7, c0, c17⟩ := HV.out.facts
 obtain ⟨ba, ta⟩ : ∃ ba : Bool, decide (0 ≤ a) = ba := ⟨_, rfl⟩
 obtain ⟨b2, t2⟩ : ∃ b2 : Bool, (st == 2) = b2 := ⟨_, rfl⟩
 obtain ⟨bo, tO⟩ : ∃ bo : Bool, (on == cpu) = bo := ⟨_, rfl⟩
 cases ba
 all_goals
  cases b2 with
  | false =>
   go_upto_region 29 with fail
   have hv := HV.out.set 6 (.int .i64 0) (D := taskC ⟨pg, pc, ⟨ra, rb, rc, rd⟩, 0, on⟩) rfl
   clear s0 s1 s2 s3 s4 s5 s6 s7 e0 e1 e2 e3 e4 f6 f7 c0 c17
   clear HV
   generalize (V.setCell ⟨q3, 6, none⟩ (.int .i64 0)) = V at *
   have HV := Lib.hid hv
   clear hv
   obtain ⟨e0, e1, e2, e3, e4, s0, s1, s2, s3, s4, s5, s6, s7, f6, f7, c0, c17⟩ := HV.out.facts
   go_upto_region 61 with fail
   have hv := HV.out.set 7 (.int .i64 0) (D := taskC ⟨pg, pc, ⟨ra, rb, rc, rd⟩, 0, 0⟩) rfl
   clear s0 s1 s2 s3 s4 s5 s6 s7 e0 e1 e2 e3 e4 f6 f7 c0 c17
   clear HV
   generalize (V.setCell ⟨q3, 7, none⟩ (.int .i64 0)) = V at *
   have HV := Lib.hid hv
   clear hv
   obtain ⟨e0, e1, e2, e3, e4, s0, s1, s2, s3, s4, s5, s6, s7, f6, f7, c0, c17⟩ := HV.out.facts
   go_upto_region 61 with fail
   have HRE : Hid (R = none) := by
    show _ = _
    rw [← HR.out]
    unfold taskP
    simp only [Int.reduceEq, ↓reduceIte]
    have h2 : st ≠ 2 := by simpa using t2
    rw [if_neg fun z => h2 z.1]
    (try rfl)
   clear s0 s1 s2 s3 s4 s5 s6 s7 e0 e1 e2 e3 e4 f6 f7 c0 c17
   obtain ⟨old, hbr, hold⟩ := HV.out.br
   have HBR := Lib.hid hbr; have HOL := Lib.hid hold; have HBF := Lib.hid HV.out.bf; have HBX := Lib.hid HV.out.bx
   clear hbr hold
   go_wp2_with (first
    | (with_reducible (show wpList _ _ _ _ _ _); refine ld_flat rfl (.tmp 3) rfl w.heap.size rfl HBF.out ?_)
    | (with_reducible (show wpList _ _ _ _ _ _); refine st_flat rfl (.tmp 6) (.tmp 365) rfl (w.heap.size + 1 + 1) rfl rfl rfl rfl old HBR.out HOL.out ?_))
   refine ret_flat2 rfl (w.heap.size + 1 + 1) rfl (BF.row HBR.out) rfl ?_
   exact FrN.no HV.out HH.out (by show Option.map _ R = none; rw [HRE.out]; rfl)
  | true =>
   cases bo with
   | false =>
    go_upto_region 29 with fail
    have hv := HV.out.set 6 (.int .i64 0) (D := taskC ⟨pg, pc, ⟨ra, rb, rc, rd⟩, 0, on⟩) rfl
    clear s0 s1 s2 s3 s4 s5 s6 s7 e0 e1 e2 e3 e4 f6 f7 c0 c17
    clear HV
    generalize (V.setCell ⟨q3, 6, none⟩ (.int .i64 0)) = V at *
    have HV := Lib.hid hv
    clear hv
    obtain ⟨e0, e1, e2, e3, e4, s0, s1, s2, s3, s4, s5, s6, s7, f6, f7, c0, c17⟩ := HV.out.facts
    go_upto_region 61 with fail
    have hv := HV.out.set 7 (.int .i64 0) (D := taskC ⟨pg, pc, ⟨ra, rb, rc, rd⟩, 0, 0⟩) rfl
    clear s0 s1 s2 s3 s4 s5 s6 s7 e0 e1 e2 e3 e4 f6 f7 c0 c17
    clear HV
    generalize (V.setCell ⟨q3, 7, none⟩ (.int .i64 0)) = V at *
    have HV := Lib.hid hv
    clear hv
    obtain ⟨e0, e1, e2, e3, e4, s0, s1, s2, s3, s4, s5, s6, s7, f6, f7, c0, c17⟩ := HV.out.facts
    go_upto_region 61 with fail
    have HRE : Hid (R = none) := by
     show _ = _
     rw [← HR.out]
     unfold taskP
     simp only [Int.reduceEq, ↓reduceIte]
     have ho : on ≠ cpu := by simpa using tO
     rw [if_neg fun z => ho z.2]
     (try rfl)
    clear s0 s1 s2 s3 s4 s5 s6 s7 e0 e1 e2 e3 e4 f6 f7 c0 c17
    obtain ⟨old, hbr, hold⟩ := HV.out.br
    have HBR := Lib.hid hbr; have HOL := Lib.hid hold; have HBF := Lib.hid HV.out.bf; have HBX := Lib.hid HV.out.bx
    clear hbr hold
    go_wp2_with (first
     | (with_reducible (show wpList _ _ _ _ _ _); refine ld_flat rfl (.tmp 3) rfl w.heap.size rfl HBF.out ?_)
     | (with_reducible (show wpList _ _ _ _ _ _); refine st_flat rfl (.tmp 6) (.tmp 365) rfl (w.heap.size + 1 + 1) rfl rfl rfl rfl old HBR.out HOL.out ?_))
    refine ret_flat2 rfl (w.heap.size + 1 + 1) rfl (BF.row HBR.out) rfl ?_
    exact FrN.no HV.out HH.out (by show Option.map _ R = none; rw [HRE.out]; rfl)
   | true =>
    go_upto_region 29 with fail
    have hv := HV.out.set 6 (.int .i64 0) (D := taskC ⟨pg, pc, ⟨ra, rb, rc, rd⟩, 0, on⟩) rfl
    clear s0 s1 s2 s3 s4 s5 s6 s7 e0 e1 e2 e3 e4 f6 f7 c0 c17
    clear HV
    generalize (V.setCell ⟨q3, 6, none⟩ (.int .i64 0)) = V at *
    have HV := Lib.hid hv
    clear hv
    obtain ⟨e0, e1, e2, e3, e4, s0, s1, s2, s3, s4, s5, s6, s7, f6, f7, c0, c17⟩ := HV.out.facts
    go_upto_region 61 with fail
    have hv := HV.out.set 7 (.int .i64 0) (D := taskC ⟨pg, pc, ⟨ra, rb, rc, rd⟩, 0, 0⟩) rfl
    clear s0 s1 s2 s3 s4 s5 s6 s7 e0 e1 e2 e3 e4 f6 f7 c0 c17
    clear HV
    generalize (V.setCell ⟨q3, 7, none⟩ (.int .i64 0)) = V at *
    have HV := Lib.hid hv
    clear hv
    obtain ⟨e0, e1, e2, e3, e4, s0, s1, s2, s3, s4, s5, s6, s7, f6, f7, c0, c17⟩ := HV.out.facts
    go_upto_region 61 with fail
    have HRE : Hid (R = some ⟨pg, pc, ⟨ra, rb, rc, rd⟩, 0, 0⟩) := by
     show _ = _
     rw [← HR.out]
     unfold taskP
     simp only [Int.reduceEq, ↓reduceIte]
     have h2 : st = 2 := by simpa using t2
     have ho : on = cpu := by simpa using tO
     rw [if_pos ⟨h2, ho⟩]
     (try rfl)
    clear s0 s1 s2 s3 s4 s5 s6 s7 e0 e1 e2 e3 e4 f6 f7 c0 c17
    obtain ⟨old, hbr, hold⟩ := HV.out.br
    have HBR := Lib.hid hbr; have HOL := Lib.hid hold; have HBF := Lib.hid HV.out.bf; have HBX := Lib.hid HV.out.bx
    clear hbr hold
    obtain ⟨C, hC⟩ : ∃ C, taskC ⟨pg, pc, ⟨ra, rb, rc, rd⟩, 0, 0⟩ = C := ⟨_, rfl⟩
    have HCL : Hid (C.length = 8) := by show _ = _; rw [← hC]; rfl
    have HWI : Hid (Calls Tryd.prog 23 #[.agg (flL (.slice (some ⟨g, off, none⟩) n c) (.slice A2 m c2) f.p f.tm).toArray, .int .i64 i, .agg C.toArray] V (WitG V (.slice (some ⟨g, off, none⟩) n c) (.slice A2 m c2) f.ts f.ow f.p f.tm (f.ts.set i ⟨pg, pc, ⟨ra, rb, rc, rd⟩, 0, 0⟩) f.ow)) := by
     rw [← hC]; exact with_any (HH.out.below HV.out.bl) (by rw [HN.out]; exact hl) i (by rw [HN.out]; omega) ⟨pg, pc, ⟨ra, rb, rc, rd⟩, 0, 0⟩
    rw [hC] at HBX
    have e1 : V.cell? ⟨w.heap.size + 1, 1, none⟩ = some (.int .i64 i) := HV.out.ev.2.1
    clear hC
    go_wp2_with (first
     | (with_reducible (show wpList _ _ _ _ _ _); refine ld_flat rfl (.tmp 3) rfl w.heap.size rfl HBF.out ?_)
     | (with_reducible (show wpList _ _ _ _ _ _); refine ld_ft rfl (.tmp 8) rfl q3 rfl HBX.out HCL.out ?_)
     | (go_at_call 23; (with_reducible refine HWI.out.mono ?_); rintro e w7 ⟨F7, O7, rfl, h7, hX7, hC7, hb7⟩; have HB7 := Lib.hid hb7; have HC7 := Lib.hid hC7; have H7 := Lib.hid h7; have HX7 := Lib.hid hX7; have HBR7 := Lib.hid (HBR.out.below hb7 HBR.out.lt); have oF7 := h7.one.1; have oO7 := h7.one.2; clear h7 hb7 hX7 hC7)
     | (with_reducible (show wpList _ _ _ _ _ _); refine st_flat rfl (.tmp 6) (.tmp 370) rfl (w.heap.size + 1 + 1) rfl rfl oF7 oO7 old HBR7.out HOL.out ?_))
    refine ret_flat2 rfl (w.heap.size + 1 + 1) rfl (BF.row HBR7.out) rfl ?_
    exact FrN.yes HV.out HH.out H7.out HX7.out HC7.out HB7.out (by show Option.map _ R = _; rw [HRE.out]; rfl)
end

set_option maxRecDepth 100000

section
variable {w : World} {B : Nat} {F O : Value} {f : Fl} {i : Nat} {x : FT} {PA : Option Addr} {ps : List PR}

set_option maxHeartbeats 8000000 in
theorem nx_out_lo (h : InF w F O f.ts f.ow) (_ : f.ts.length ≤ 1000) (pcap : Nat) (kd tk cpu a b : Int) (hk : kd < 14 ∧ kd ≠ 1) (ht : tk < 0 ∨ (f.ts.length : Int) ≤ tk) :
  Calls Tryd.prog 10 #[flV F O f.p f.tm, .slice PA ps.length pcap, evV ⟨kd, tk, cpu, a, b⟩] w (NxtG w F O f (none)) := by
 have hH := h
 obtain ⟨⟨A, c, rfl, hT⟩, ⟨A2, c2, rfl, hO⟩⟩ := h
 have HH := Lib.hid hH; have HT := Lib.hid hT
 have hfr := FrU.new w (.slice A f.ts.length c) (.slice A2 f.ow.length c2) f.p f.tm ⟨kd, tk, cpu, a, b⟩ #[.slice none 0 0, .int .u64 0, .int .u64 0, .int .u64 0, .int .u64 0, .int .u64 0, .int .u64 0, .int .u64 0, .int .u64 0, .int .u64 0, .int .u64 0, .int .u64 0, .int .u64 0, .int .u64 0, .int .u64 0, .int .u64 0, .int .u64 0, .slice none 0 0, .int .i64 0] rfl
 obtain ⟨n, hn⟩ : ∃ n, f.ts.length = n := ⟨_, rfl⟩
 obtain ⟨m, hm'⟩ : ∃ m, f.ow.length = m := ⟨_, rfl⟩
 have HN := Lib.hid hn; have HM := Lib.hid hm'
 rw [hn] at hfr  HH ht ⊢
 rw [hm'] at hfr HH ⊢
 clear hH hT hO hn hm'
 dsimp only at hfr
 go_enter Tryd.func10, Tryd.ntmps10
 go_upto_region 1 with fail
 generalize ((w.alloc (.cells (flL (.slice A n c) (.slice A2 m c2) f.p f.tm).toArray 30)).alloc (.cells #[.int .i64 kd, .int .i64 tk, .int .i64 cpu, .int .i64 a, .int .i64 b] 36)).alloc (.cells #[.slice none 0 0, .int .u64 0, .int .u64 0, .int .u64 0, .int .u64 0, .int .u64 0, .int .u64 0, .int .u64 0, .int .u64 0, .int .u64 0, .int .u64 0, .int .u64 0, .int .u64 0, .int .u64 0, .int .u64 0, .int .u64 0, .int .u64 0, .slice none 0 0, .int .i64 0] 30) = W at *
 have HFR := Lib.hid hfr
 obtain ⟨e0, e1, e2, e3, e4⟩ := hfr.ev
 dsimp only at e0 e1 e2 e3 e4
 have c0 := BF.c0 hfr.bf
 have HBF := Lib.hid hfr.bf
 obtain ⟨old, hbr, hold⟩ := hfr.br
 have HBR := Lib.hid hbr; have HOL := Lib.hid hold
 clear hfr hbr hold
 have v1 : (kd == 1) = false := by simp; omega
 have v14 : decide (14 ≤ kd) = false := by simp; omega
 by_cases h0 : tk < 0
 ·
  have t0 : decide (tk < 0) = true := by simpa using h0
  go_wp2_with (first
   | (with_reducible (show wpList _ _ _ _ _ _); refine ld_flat rfl (.tmp 3) rfl w.heap.size rfl HBF.out ?_)
   | (with_reducible (show wpList _ _ _ _ _ _); refine st_flat rfl (.tmp 6) (.tmp 72) rfl (w.heap.size + 1 + 1) rfl rfl rfl rfl old HBR.out HOL.out ?_))
  refine ret_flat2 rfl (w.heap.size + 1 + 1) rfl (BF.row HBR.out) rfl ?_
  exact NxtG.same (g := f) (R := none) HH.out rfl rfl rfl (((But.of_below (X := fun k => w.heap.size ≤ k) HFR.out.bl).row _ _ (.inl (by show w.heap.size ≤ w.heap.size + 1 + 1; omega))).below (Nat.le_refl _) fun k _ z => z)
 ·
  have t0 : decide (tk < 0) = false := by simpa using h0
  have t1 : decide ((n : Int) ≤ tk) = true := by simp; omega
  go_wp2_with (first
   | (with_reducible (show wpList _ _ _ _ _ _); refine ld_flat rfl (.tmp 3) rfl w.heap.size rfl HBF.out ?_)
   | (with_reducible (show wpList _ _ _ _ _ _); refine st_flat rfl (.tmp 6) (.tmp 72) rfl (w.heap.size + 1 + 1) rfl rfl rfl rfl old HBR.out HOL.out ?_))
  refine ret_flat2 rfl (w.heap.size + 1 + 1) rfl (BF.row HBR.out) rfl ?_
  exact NxtG.same (g := f) (R := none) HH.out rfl rfl rfl (((But.of_below (X := fun k => w.heap.size ≤ k) HFR.out.bl).row _ _ (.inl (by show w.heap.size ≤ w.heap.size + 1 + 1; omega))).below (Nat.le_refl _) fun k _ z => z)

set_option maxHeartbeats 8000000 in
theorem nx_out_hi (h : InF w F O f.ts f.ow) (_ : f.ts.length ≤ 1000) (pcap : Nat) (kd tk cpu a b : Int) (hk : 20 < kd) (ht : tk < 0 ∨ (f.ts.length : Int) ≤ tk) :
  Calls Tryd.prog 10 #[flV F O f.p f.tm, .slice PA ps.length pcap, evV ⟨kd, tk, cpu, a, b⟩] w (NxtG w F O f (none)) := by
 have hH := h
 obtain ⟨⟨A, c, rfl, hT⟩, ⟨A2, c2, rfl, hO⟩⟩ := h
 have HH := Lib.hid hH; have HT := Lib.hid hT
 have hfr := FrU.new w (.slice A f.ts.length c) (.slice A2 f.ow.length c2) f.p f.tm ⟨kd, tk, cpu, a, b⟩ #[.slice none 0 0, .int .u64 0, .int .u64 0, .int .u64 0, .int .u64 0, .int .u64 0, .int .u64 0, .int .u64 0, .int .u64 0, .int .u64 0, .int .u64 0, .int .u64 0, .int .u64 0, .int .u64 0, .int .u64 0, .int .u64 0, .int .u64 0, .slice none 0 0, .int .i64 0] rfl
 obtain ⟨n, hn⟩ : ∃ n, f.ts.length = n := ⟨_, rfl⟩
 obtain ⟨m, hm'⟩ : ∃ m, f.ow.length = m := ⟨_, rfl⟩
 have HN := Lib.hid hn; have HM := Lib.hid hm'
 rw [hn] at hfr  HH ht ⊢
 rw [hm'] at hfr HH ⊢
 clear hH hT hO hn hm'
 dsimp only at hfr
 go_enter Tryd.func10, Tryd.ntmps10
 go_upto_region 1 with fail
 generalize ((w.alloc (.cells (flL (.slice A n c) (.slice A2 m c2) f.p f.tm).toArray 30)).alloc (.cells #[.int .i64 kd, .int .i64 tk, .int .i64 cpu, .int .i64 a, .int .i64 b] 36)).alloc (.cells #[.slice none 0 0, .int .u64 0, .int .u64 0, .int .u64 0, .int .u64 0, .int .u64 0, .int .u64 0, .int .u64 0, .int .u64 0, .int .u64 0, .int .u64 0, .int .u64 0, .int .u64 0, .int .u64 0, .int .u64 0, .int .u64 0, .int .u64 0, .slice none 0 0, .int .i64 0] 30) = W at *
 have HFR := Lib.hid hfr
 obtain ⟨e0, e1, e2, e3, e4⟩ := hfr.ev
 dsimp only at e0 e1 e2 e3 e4
 have c0 := BF.c0 hfr.bf
 have HBF := Lib.hid hfr.bf
 obtain ⟨old, hbr, hold⟩ := hfr.br
 have HBR := Lib.hid hbr; have HOL := Lib.hid hold
 clear hfr hbr hold
 have v1 : (kd == 1) = false := by simp; omega
 have v14 : decide (14 ≤ kd) = true := by simp; omega
 have v20 : decide (kd ≤ 20) = false := by simp; omega
 by_cases h0 : tk < 0
 ·
  have t0 : decide (tk < 0) = true := by simpa using h0
  go_wp2_with (first
   | (with_reducible (show wpList _ _ _ _ _ _); refine ld_flat rfl (.tmp 3) rfl w.heap.size rfl HBF.out ?_)
   | (with_reducible (show wpList _ _ _ _ _ _); refine st_flat rfl (.tmp 6) (.tmp 72) rfl (w.heap.size + 1 + 1) rfl rfl rfl rfl old HBR.out HOL.out ?_))
  refine ret_flat2 rfl (w.heap.size + 1 + 1) rfl (BF.row HBR.out) rfl ?_
  exact NxtG.same (g := f) (R := none) HH.out rfl rfl rfl (((But.of_below (X := fun k => w.heap.size ≤ k) HFR.out.bl).row _ _ (.inl (by show w.heap.size ≤ w.heap.size + 1 + 1; omega))).below (Nat.le_refl _) fun k _ z => z)
 ·
  have t0 : decide (tk < 0) = false := by simpa using h0
  have t1 : decide ((n : Int) ≤ tk) = true := by simp; omega
  go_wp2_with (first
   | (with_reducible (show wpList _ _ _ _ _ _); refine ld_flat rfl (.tmp 3) rfl w.heap.size rfl HBF.out ?_)
   | (with_reducible (show wpList _ _ _ _ _ _); refine st_flat rfl (.tmp 6) (.tmp 72) rfl (w.heap.size + 1 + 1) rfl rfl rfl rfl old HBR.out HOL.out ?_))
  refine ret_flat2 rfl (w.heap.size + 1 + 1) rfl (BF.row HBR.out) rfl ?_
  exact NxtG.same (g := f) (R := none) HH.out rfl rfl rfl (((But.of_below (X := fun k => w.heap.size ≤ k) HFR.out.bl).row _ _ (.inl (by show w.heap.size ≤ w.heap.size + 1 + 1; omega))).below (Nat.le_refl _) fun k _ z => z)

set_option maxHeartbeats 8000000 in
theorem nx_1no (h : InF w F O f.ts f.ow) (_ : f.ts.length ≤ 1000) (pcap : Nat) (tk cpu a b : Int) (hk : ¬ (tk = (f.ts.length : Int) ∧ 0 ≤ a ∧ a < (ps.length : Int))) :
  Calls Tryd.prog 10 #[flV F O f.p f.tm, .slice PA ps.length pcap, evV ⟨1, tk, cpu, a, b⟩] w (NxtG w F O f (none)) := by
 have hH := h
 obtain ⟨⟨A, c, rfl, hT⟩, ⟨A2, c2, rfl, hO⟩⟩ := h
 have HH := Lib.hid hH; have HT := Lib.hid hT
 have hfr := FrU.new w (.slice A f.ts.length c) (.slice A2 f.ow.length c2) f.p f.tm ⟨1, tk, cpu, a, b⟩ #[.slice none 0 0, .int .u64 0, .int .u64 0, .int .u64 0, .int .u64 0, .int .u64 0, .int .u64 0, .int .u64 0, .int .u64 0, .int .u64 0, .int .u64 0, .int .u64 0, .int .u64 0, .int .u64 0, .int .u64 0, .int .u64 0, .int .u64 0, .slice none 0 0, .int .i64 0] rfl
 obtain ⟨n, hn⟩ : ∃ n, f.ts.length = n := ⟨_, rfl⟩
 obtain ⟨m, hm'⟩ : ∃ m, f.ow.length = m := ⟨_, rfl⟩
 have HN := Lib.hid hn; have HM := Lib.hid hm'
 rw [hn] at hfr  HH hk ⊢
 rw [hm'] at hfr HH ⊢
 clear hH hT hO hn hm'
 dsimp only at hfr
 have HK := Lib.hid hk
 clear hk
 go_enter Tryd.func10, Tryd.ntmps10
 go_upto_region 1 with fail
 generalize ((w.alloc (.cells (flL (.slice A n c) (.slice A2 m c2) f.p f.tm).toArray 30)).alloc (.cells #[.int .i64 1, .int .i64 tk, .int .i64 cpu, .int .i64 a, .int .i64 b] 36)).alloc (.cells #[.slice none 0 0, .int .u64 0, .int .u64 0, .int .u64 0, .int .u64 0, .int .u64 0, .int .u64 0, .int .u64 0, .int .u64 0, .int .u64 0, .int .u64 0, .int .u64 0, .int .u64 0, .int .u64 0, .int .u64 0, .int .u64 0, .int .u64 0, .slice none 0 0, .int .i64 0] 30) = W at *
 have HFR := Lib.hid hfr
 obtain ⟨e0, e1, e2, e3, e4⟩ := hfr.ev
 dsimp only at e0 e1 e2 e3 e4
 have c0 := BF.c0 hfr.bf
 have HBF := Lib.hid hfr.bf
 obtain ⟨old, hbr, hold⟩ := hfr.br
 have HBR := Lib.hid hbr; have HOL := Lib.hid hold
 clear hfr hbr hold
 by_cases h0 : tk = (n : Int)
 ·
  subst h0
  have t0 : ((n : Int) != (n : Int)) = false := by simp
  by_cases h1 : a < 0
  ·
   have t1 : decide (a < 0) = true := by simpa using h1
   go_wp2_with (first
    | (with_reducible (show wpList _ _ _ _ _ _); refine ld_flat rfl (.tmp 3) rfl w.heap.size rfl HBF.out ?_)
    | (with_reducible (show wpList _ _ _ _ _ _); refine st_flat rfl (.tmp 6) (.tmp 49) rfl (w.heap.size + 1 + 1) rfl rfl rfl rfl old HBR.out HOL.out ?_))
   refine ret_flat2 rfl (w.heap.size + 1 + 1) rfl (BF.row HBR.out) rfl ?_
   exact NxtG.same (g := f) (R := none) HH.out rfl rfl rfl (((But.of_below (X := fun k => w.heap.size ≤ k) HFR.out.bl).row _ _ (.inl (by show w.heap.size ≤ w.heap.size + 1 + 1; omega))).below (Nat.le_refl _) fun k _ z => z)
  ·
   have t1 : decide (a < 0) = false := by simpa using h1
   have t2 : decide ((ps.length : Int) ≤ a) = true := by have := HK.out; simp; omega
   go_wp2_with (first
    | (with_reducible (show wpList _ _ _ _ _ _); refine ld_flat rfl (.tmp 3) rfl w.heap.size rfl HBF.out ?_)
    | (with_reducible (show wpList _ _ _ _ _ _); refine st_flat rfl (.tmp 6) (.tmp 49) rfl (w.heap.size + 1 + 1) rfl rfl rfl rfl old HBR.out HOL.out ?_))
   refine ret_flat2 rfl (w.heap.size + 1 + 1) rfl (BF.row HBR.out) rfl ?_
   exact NxtG.same (g := f) (R := none) HH.out rfl rfl rfl (((But.of_below (X := fun k => w.heap.size ≤ k) HFR.out.bl).row _ _ (.inl (by show w.heap.size ≤ w.heap.size + 1 + 1; omega))).below (Nat.le_refl _) fun k _ z => z)
 ·
  have t0 : (tk != (n : Int)) = true := by simpa using h0
  go_wp2_with (first
   | (with_reducible (show wpList _ _ _ _ _ _); refine ld_flat rfl (.tmp 3) rfl w.heap.size rfl HBF.out ?_)
   | (with_reducible (show wpList _ _ _ _ _ _); refine st_flat rfl (.tmp 6) (.tmp 49) rfl (w.heap.size + 1 + 1) rfl rfl rfl rfl old HBR.out HOL.out ?_))
  refine ret_flat2 rfl (w.heap.size + 1 + 1) rfl (BF.row HBR.out) rfl ?_
  exact NxtG.same (g := f) (R := none) HH.out rfl rfl rfl (((But.of_below (X := fun k => w.heap.size ≤ k) HFR.out.bl).row _ _ (.inl (by show w.heap.size ≤ w.heap.size + 1 + 1; omega))).below (Nat.le_refl _) fun k _ z => z)
end
end Go.Proofs.YtilaalleiiakoaaDoor
