/- The document's others, kind by kind: a tick, and what is only told (layer 19): printed by wip/src19/gen_md.py. -/
import Derived.Test.YtilaalleiiakoaaDoorMa
import Derived.Test.YtilaalleiiakoaaDoorKr
namespace Go.Proofs.YtilaalleiiakoaaDoor
open Go.RowKit
set_option maxRecDepth 100000

/-- A machine handed back by the document, whose rows may be read (fresh ones, or the elder ones), and whether it could be. -/
def NxtG (w : World) (F O : Value) (f : Fl) (R : Option Fl) (e : Ending) (w' : World) : Prop :=
  ∃ F' O', e = .returned (.tuple #[flV F' O' (R.getD f).p (R.getD f).tm, .bool R.isSome]) ∧ InF w' F' O' (R.getD f).ts (R.getD f).ow ∧ (∀ k, OwnX F' O' (R.getD f).ts (R.getD f).ow k → w.heap.size ≤ k ∨ OwnX F O f.ts f.ow k) ∧ (CapF F f.ts.length → CapF F' (R.getD f).ts.length) ∧ Below w.heap.size w w'
theorem NxtG.same {w w' : World} {F O : Value} {f g : Fl} {R : Option Fl} (h : InF w F O f.ts f.ow) (hR : R.getD f = g) (hts : g.ts = f.ts) (how : g.ow = f.ow) (hb : Below w.heap.size w w') :
    NxtG w F O f R (.returned (.tuple #[flV F O g.p g.tm, .bool R.isSome])) w' := by
  subst hR
  exact ⟨F, O, rfl, by rw [hts, how]; exact h.below hb, fun k hk => by rw [hts, how] at hk; exact .inr hk, fun z => by rw [hts]; exact z, hb⟩
theorem FrU.on1 {w W W' : World} {F O : Value} {p : Nat → Bool} {t : Int} {e : EvP} (h : FrU w W F O p t e) (hb : Below W.heap.size W W') : FrU w W' F O p t e := by
  obtain ⟨old, h1, h2⟩ := h.br
  exact ⟨h.bl.trans (hb.mono h.bl.size), Blk.below h.bf hb (Blk.lt h.bf), h.be.below hb h.be.lt, old, h1.below hb h1.lt, h2⟩
section
variable {w : World} {F O : Value} {f : Fl}

set_option maxHeartbeats 4000000 in
theorem oth_17 (h : InF w F O f.ts f.ow) (tk cpu a b : Int) : Calls Tryd.prog 19 #[flV F O f.p f.tm, evV ⟨17, tk, cpu, a, b⟩] w (NxtG w F O f (some f)) := by
  have hfr := FrU.new w F O f.p f.tm ⟨17, tk, cpu, a, b⟩ #[.slice none 0 0, .int .u64 0, .int .u64 0, .int .u64 0, .int .u64 0, .int .u64 0, .int .u64 0, .int .u64 0, .int .u64 0, .int .u64 0, .int .u64 0, .int .u64 0, .int .u64 0, .int .u64 0, .int .u64 0, .int .u64 0, .int .u64 0, .slice none 0 0, .int .i64 0] rfl
  obtain ⟨oF, oO⟩ := h.one
  have HH := Lib.hid h
  obtain ⟨R, hR⟩ : ∃ R, (some f) = R := ⟨_, rfl⟩
  have HR := Lib.hid hR
  rw [hR]
  clear h hR
  dsimp only at hfr
  go_enter Tryd.func19, Tryd.ntmps19
  go_upto_region 1 with fail
  generalize ((w.alloc (.cells (flL F O f.p f.tm).toArray 30)).alloc (.cells #[.int .i64 17, .int .i64 tk, .int .i64 cpu, .int .i64 a, .int .i64 b] 36)).alloc (.cells #[.slice none 0 0, .int .u64 0, .int .u64 0, .int .u64 0, .int .u64 0, .int .u64 0, .int .u64 0, .int .u64 0, .int .u64 0, .int .u64 0, .int .u64 0, .int .u64 0, .int .u64 0, .int .u64 0, .int .u64 0, .int .u64 0, .int .u64 0, .slice none 0 0, .int .i64 0] 30) = W at *
  have HFR := Lib.hid hfr
  have HB0 := Lib.hid hfr.bf
  obtain ⟨e0, e1, e2, e3, e4⟩ := hfr.ev
  dsimp only at e0 e1 e2 e3 e4
  clear hfr
  have HHA := Lib.hid (refHas_any f.p cpu W)
  go_upto_region 2 with (first
    | (with_reducible (show wpList _ _ _ _ _ _); refine ld_on rfl (.tmp 11) rfl w.heap.size rfl HB0.out ?_)
    | (go_at_call 17; (with_reducible refine HHA.out.mono ?_); rintro e w3 ⟨rfl, h3⟩; have HFR3 := Lib.hid (HFR.out.on1 h3); clear h3))
  clear e0 e1 e2 e3 e4
  have HB3 := Lib.hid HFR3.out.bf
  have HLI := Lib.hid (refList_any f.p w3)
  go_upto_region 3 with (first
    | (with_reducible (show wpList _ _ _ _ _ _); refine ld_on rfl (.tmp 16) rfl w.heap.size rfl HB3.out ?_)
    | (go_at_call 32; (with_reducible refine HLI.out.mono ?_); rintro e w4 ⟨lv, rfl, hrow⟩; have HROW := Lib.hid hrow; have HFR4 := Lib.hid (HFR3.out.on1 hrow.bel); clear hrow))
  obtain ⟨e0, e1, e2, e3, e4⟩ := HFR4.out.ev
  dsimp only at e0 e1 e2 e3 e4
  obtain ⟨old, hbr, hold⟩ := HFR4.out.br
  have HBR := Lib.hid hbr; have HBF := Lib.hid HFR4.out.bf; have HOL := Lib.hid hold; have HB := Lib.hid HFR4.out.bl
  clear hbr hold
  go_wp2_with (first
    | (with_reducible (show wpList _ _ _ _ _ _); refine ld_flat rfl (.tmp 2) rfl w.heap.size rfl HBF.out ?_)
    | (with_reducible (show wpList _ _ _ _ _ _); refine st_flat rfl (.tmp 4) (.tmp 88) rfl (w.heap.size + 1 + 1) rfl rfl oF oO old HBR.out HOL.out ?_))
  refine ret_flat2 rfl (w.heap.size + 1 + 1) rfl (BF.row HBR.out) rfl ?_
  have e := HR.out
  subst e
  exact NxtG.same (g := f) HH.out rfl rfl rfl (((But.of_below (X := fun k => w.heap.size ≤ k) HB.out).row _ _ (.inr (by omega))).below (Nat.le_refl _) fun k _ q => q)

set_option maxHeartbeats 4000000 in
theorem oth_18 (h : InF w F O f.ts f.ow) (tk cpu a b : Int) : Calls Tryd.prog 19 #[flV F O f.p f.tm, evV ⟨18, tk, cpu, a, b⟩] w (NxtG w F O f (some f)) := by
  have hfr := FrU.new w F O f.p f.tm ⟨18, tk, cpu, a, b⟩ #[.slice none 0 0, .int .u64 0, .int .u64 0, .int .u64 0, .int .u64 0, .int .u64 0, .int .u64 0, .int .u64 0, .int .u64 0, .int .u64 0, .int .u64 0, .int .u64 0, .int .u64 0, .int .u64 0, .int .u64 0, .int .u64 0, .int .u64 0, .slice none 0 0, .int .i64 0] rfl
  obtain ⟨oF, oO⟩ := h.one
  have HH := Lib.hid h
  obtain ⟨R, hR⟩ : ∃ R, (some f) = R := ⟨_, rfl⟩
  have HR := Lib.hid hR
  rw [hR]
  clear h hR
  dsimp only at hfr
  go_enter Tryd.func19, Tryd.ntmps19
  go_upto_region 1 with fail
  generalize ((w.alloc (.cells (flL F O f.p f.tm).toArray 30)).alloc (.cells #[.int .i64 18, .int .i64 tk, .int .i64 cpu, .int .i64 a, .int .i64 b] 36)).alloc (.cells #[.slice none 0 0, .int .u64 0, .int .u64 0, .int .u64 0, .int .u64 0, .int .u64 0, .int .u64 0, .int .u64 0, .int .u64 0, .int .u64 0, .int .u64 0, .int .u64 0, .int .u64 0, .int .u64 0, .int .u64 0, .int .u64 0, .int .u64 0, .slice none 0 0, .int .i64 0] 30) = W at *
  have HFR := Lib.hid hfr
  have HB0 := Lib.hid hfr.bf
  obtain ⟨e0, e1, e2, e3, e4⟩ := hfr.ev
  dsimp only at e0 e1 e2 e3 e4
  clear hfr
  have HHA := Lib.hid (refHas_any f.p cpu W)
  go_upto_region 2 with (first
    | (with_reducible (show wpList _ _ _ _ _ _); refine ld_on rfl (.tmp 11) rfl w.heap.size rfl HB0.out ?_)
    | (go_at_call 17; (with_reducible refine HHA.out.mono ?_); rintro e w3 ⟨rfl, h3⟩; have HFR3 := Lib.hid (HFR.out.on1 h3); clear h3))
  clear e0 e1 e2 e3 e4
  have HB3 := Lib.hid HFR3.out.bf
  have HLI := Lib.hid (refList_any f.p w3)
  go_upto_region 3 with (first
    | (with_reducible (show wpList _ _ _ _ _ _); refine ld_on rfl (.tmp 16) rfl w.heap.size rfl HB3.out ?_)
    | (go_at_call 32; (with_reducible refine HLI.out.mono ?_); rintro e w4 ⟨lv, rfl, hrow⟩; have HROW := Lib.hid hrow; have HFR4 := Lib.hid (HFR3.out.on1 hrow.bel); clear hrow))
  obtain ⟨e0, e1, e2, e3, e4⟩ := HFR4.out.ev
  dsimp only at e0 e1 e2 e3 e4
  obtain ⟨old, hbr, hold⟩ := HFR4.out.br
  have HBR := Lib.hid hbr; have HBF := Lib.hid HFR4.out.bf; have HOL := Lib.hid hold; have HB := Lib.hid HFR4.out.bl
  clear hbr hold
  go_wp2_with (first
    | (with_reducible (show wpList _ _ _ _ _ _); refine ld_flat rfl (.tmp 2) rfl w.heap.size rfl HBF.out ?_)
    | (with_reducible (show wpList _ _ _ _ _ _); refine st_flat rfl (.tmp 4) (.tmp 88) rfl (w.heap.size + 1 + 1) rfl rfl oF oO old HBR.out HOL.out ?_))
  refine ret_flat2 rfl (w.heap.size + 1 + 1) rfl (BF.row HBR.out) rfl ?_
  have e := HR.out
  subst e
  exact NxtG.same (g := f) HH.out rfl rfl rfl (((But.of_below (X := fun k => w.heap.size ≤ k) HB.out).row _ _ (.inr (by omega))).below (Nat.le_refl _) fun k _ q => q)

set_option maxHeartbeats 4000000 in
theorem oth_19 (h : InF w F O f.ts f.ow) (tk cpu a b : Int) : Calls Tryd.prog 19 #[flV F O f.p f.tm, evV ⟨19, tk, cpu, a, b⟩] w (NxtG w F O f (some f)) := by
  have hfr := FrU.new w F O f.p f.tm ⟨19, tk, cpu, a, b⟩ #[.slice none 0 0, .int .u64 0, .int .u64 0, .int .u64 0, .int .u64 0, .int .u64 0, .int .u64 0, .int .u64 0, .int .u64 0, .int .u64 0, .int .u64 0, .int .u64 0, .int .u64 0, .int .u64 0, .int .u64 0, .int .u64 0, .int .u64 0, .slice none 0 0, .int .i64 0] rfl
  obtain ⟨oF, oO⟩ := h.one
  have HH := Lib.hid h
  obtain ⟨R, hR⟩ : ∃ R, (some f) = R := ⟨_, rfl⟩
  have HR := Lib.hid hR
  rw [hR]
  clear h hR
  dsimp only at hfr
  go_enter Tryd.func19, Tryd.ntmps19
  go_upto_region 1 with fail
  generalize ((w.alloc (.cells (flL F O f.p f.tm).toArray 30)).alloc (.cells #[.int .i64 19, .int .i64 tk, .int .i64 cpu, .int .i64 a, .int .i64 b] 36)).alloc (.cells #[.slice none 0 0, .int .u64 0, .int .u64 0, .int .u64 0, .int .u64 0, .int .u64 0, .int .u64 0, .int .u64 0, .int .u64 0, .int .u64 0, .int .u64 0, .int .u64 0, .int .u64 0, .int .u64 0, .int .u64 0, .int .u64 0, .int .u64 0, .slice none 0 0, .int .i64 0] 30) = W at *
  have HFR := Lib.hid hfr
  have HB0 := Lib.hid hfr.bf
  obtain ⟨e0, e1, e2, e3, e4⟩ := hfr.ev
  dsimp only at e0 e1 e2 e3 e4
  clear hfr
  have HHA := Lib.hid (refHas_any f.p cpu W)
  go_upto_region 2 with (first
    | (with_reducible (show wpList _ _ _ _ _ _); refine ld_on rfl (.tmp 11) rfl w.heap.size rfl HB0.out ?_)
    | (go_at_call 17; (with_reducible refine HHA.out.mono ?_); rintro e w3 ⟨rfl, h3⟩; have HFR3 := Lib.hid (HFR.out.on1 h3); clear h3))
  clear e0 e1 e2 e3 e4
  have HB3 := Lib.hid HFR3.out.bf
  have HLI := Lib.hid (refList_any f.p w3)
  go_upto_region 3 with (first
    | (with_reducible (show wpList _ _ _ _ _ _); refine ld_on rfl (.tmp 16) rfl w.heap.size rfl HB3.out ?_)
    | (go_at_call 32; (with_reducible refine HLI.out.mono ?_); rintro e w4 ⟨lv, rfl, hrow⟩; have HROW := Lib.hid hrow; have HFR4 := Lib.hid (HFR3.out.on1 hrow.bel); clear hrow))
  obtain ⟨e0, e1, e2, e3, e4⟩ := HFR4.out.ev
  dsimp only at e0 e1 e2 e3 e4
  obtain ⟨old, hbr, hold⟩ := HFR4.out.br
  have HBR := Lib.hid hbr; have HBF := Lib.hid HFR4.out.bf; have HOL := Lib.hid hold; have HB := Lib.hid HFR4.out.bl
  clear hbr hold
  go_wp2_with (first
    | (with_reducible (show wpList _ _ _ _ _ _); refine ld_flat rfl (.tmp 2) rfl w.heap.size rfl HBF.out ?_)
    | (with_reducible (show wpList _ _ _ _ _ _); refine st_flat rfl (.tmp 4) (.tmp 88) rfl (w.heap.size + 1 + 1) rfl rfl oF oO old HBR.out HOL.out ?_))
  refine ret_flat2 rfl (w.heap.size + 1 + 1) rfl (BF.row HBR.out) rfl ?_
  have e := HR.out
  subst e
  exact NxtG.same (g := f) HH.out rfl rfl rfl (((But.of_below (X := fun k => w.heap.size ≤ k) HB.out).row _ _ (.inr (by omega))).below (Nat.le_refl _) fun k _ q => q)

set_option maxHeartbeats 4000000 in
theorem oth_20 (h : InF w F O f.ts f.ow) (tk cpu a b : Int) : Calls Tryd.prog 19 #[flV F O f.p f.tm, evV ⟨20, tk, cpu, a, b⟩] w (NxtG w F O f (some f)) := by
  have hfr := FrU.new w F O f.p f.tm ⟨20, tk, cpu, a, b⟩ #[.slice none 0 0, .int .u64 0, .int .u64 0, .int .u64 0, .int .u64 0, .int .u64 0, .int .u64 0, .int .u64 0, .int .u64 0, .int .u64 0, .int .u64 0, .int .u64 0, .int .u64 0, .int .u64 0, .int .u64 0, .int .u64 0, .int .u64 0, .slice none 0 0, .int .i64 0] rfl
  obtain ⟨oF, oO⟩ := h.one
  have HH := Lib.hid h
  obtain ⟨R, hR⟩ : ∃ R, (some f) = R := ⟨_, rfl⟩
  have HR := Lib.hid hR
  rw [hR]
  clear h hR
  dsimp only at hfr
  go_enter Tryd.func19, Tryd.ntmps19
  go_upto_region 1 with fail
  generalize ((w.alloc (.cells (flL F O f.p f.tm).toArray 30)).alloc (.cells #[.int .i64 20, .int .i64 tk, .int .i64 cpu, .int .i64 a, .int .i64 b] 36)).alloc (.cells #[.slice none 0 0, .int .u64 0, .int .u64 0, .int .u64 0, .int .u64 0, .int .u64 0, .int .u64 0, .int .u64 0, .int .u64 0, .int .u64 0, .int .u64 0, .int .u64 0, .int .u64 0, .int .u64 0, .int .u64 0, .int .u64 0, .int .u64 0, .slice none 0 0, .int .i64 0] 30) = W at *
  have HFR := Lib.hid hfr
  have HB0 := Lib.hid hfr.bf
  obtain ⟨e0, e1, e2, e3, e4⟩ := hfr.ev
  dsimp only at e0 e1 e2 e3 e4
  clear hfr
  have HHA := Lib.hid (refHas_any f.p cpu W)
  go_upto_region 2 with (first
    | (with_reducible (show wpList _ _ _ _ _ _); refine ld_on rfl (.tmp 11) rfl w.heap.size rfl HB0.out ?_)
    | (go_at_call 17; (with_reducible refine HHA.out.mono ?_); rintro e w3 ⟨rfl, h3⟩; have HFR3 := Lib.hid (HFR.out.on1 h3); clear h3))
  clear e0 e1 e2 e3 e4
  have HB3 := Lib.hid HFR3.out.bf
  have HLI := Lib.hid (refList_any f.p w3)
  go_upto_region 3 with (first
    | (with_reducible (show wpList _ _ _ _ _ _); refine ld_on rfl (.tmp 16) rfl w.heap.size rfl HB3.out ?_)
    | (go_at_call 32; (with_reducible refine HLI.out.mono ?_); rintro e w4 ⟨lv, rfl, hrow⟩; have HROW := Lib.hid hrow; have HFR4 := Lib.hid (HFR3.out.on1 hrow.bel); clear hrow))
  obtain ⟨e0, e1, e2, e3, e4⟩ := HFR4.out.ev
  dsimp only at e0 e1 e2 e3 e4
  obtain ⟨old, hbr, hold⟩ := HFR4.out.br
  have HBR := Lib.hid hbr; have HBF := Lib.hid HFR4.out.bf; have HOL := Lib.hid hold; have HB := Lib.hid HFR4.out.bl
  clear hbr hold
  go_wp2_with (first
    | (with_reducible (show wpList _ _ _ _ _ _); refine ld_flat rfl (.tmp 2) rfl w.heap.size rfl HBF.out ?_)
    | (with_reducible (show wpList _ _ _ _ _ _); refine st_flat rfl (.tmp 4) (.tmp 88) rfl (w.heap.size + 1 + 1) rfl rfl oF oO old HBR.out HOL.out ?_))
  refine ret_flat2 rfl (w.heap.size + 1 + 1) rfl (BF.row HBR.out) rfl ?_
  have e := HR.out
  subst e
  exact NxtG.same (g := f) HH.out rfl rfl rfl (((But.of_below (X := fun k => w.heap.size ≤ k) HB.out).row _ _ (.inr (by omega))).below (Nat.le_refl _) fun k _ q => q)

set_option maxHeartbeats 4000000 in
theorem oth_16 (h : InF w F O f.ts f.ow) (tk cpu a b : Int) (ht : In64F f.tm) (ha : In64F a) : Calls Tryd.prog 19 #[flV F O f.p f.tm, evV ⟨16, tk, cpu, a, b⟩] w (NxtG w F O f (if 1 ≤ a ∧ a = f.tm + 1 then some { f with tm := a } else none)) := by
  have hfr := FrU.new w F O f.p f.tm ⟨16, tk, cpu, a, b⟩ #[.slice none 0 0, .int .u64 0, .int .u64 0, .int .u64 0, .int .u64 0, .int .u64 0, .int .u64 0, .int .u64 0, .int .u64 0, .int .u64 0, .int .u64 0, .int .u64 0, .int .u64 0, .int .u64 0, .int .u64 0, .int .u64 0, .int .u64 0, .slice none 0 0, .int .i64 0] rfl
  obtain ⟨oF, oO⟩ := h.one
  have HH := Lib.hid h
  obtain ⟨R, hR⟩ : ∃ R, (if 1 ≤ a ∧ a = f.tm + 1 then some { f with tm := a } else none) = R := ⟨_, rfl⟩
  have HR := Lib.hid hR
  rw [hR]
  clear h hR
  dsimp only at hfr
  go_enter Tryd.func19, Tryd.ntmps19
  go_upto_region 1 with fail
  generalize ((w.alloc (.cells (flL F O f.p f.tm).toArray 30)).alloc (.cells #[.int .i64 16, .int .i64 tk, .int .i64 cpu, .int .i64 a, .int .i64 b] 36)).alloc (.cells #[.slice none 0 0, .int .u64 0, .int .u64 0, .int .u64 0, .int .u64 0, .int .u64 0, .int .u64 0, .int .u64 0, .int .u64 0, .int .u64 0, .int .u64 0, .int .u64 0, .int .u64 0, .int .u64 0, .int .u64 0, .int .u64 0, .int .u64 0, .slice none 0 0, .int .i64 0] 30) = W at *
  have HFR := Lib.hid hfr
  have HB0 := Lib.hid hfr.bf
  obtain ⟨e0, e1, e2, e3, e4⟩ := hfr.ev
  dsimp only at e0 e1 e2 e3 e4
  clear hfr
  have HHA := Lib.hid (refHas_any f.p cpu W)
  go_upto_region 2 with (first
    | (with_reducible (show wpList _ _ _ _ _ _); refine ld_on rfl (.tmp 11) rfl w.heap.size rfl HB0.out ?_)
    | (go_at_call 17; (with_reducible refine HHA.out.mono ?_); rintro e w3 ⟨rfl, h3⟩; have HFR3 := Lib.hid (HFR.out.on1 h3); clear h3))
  clear e0 e1 e2 e3 e4
  have HB3 := Lib.hid HFR3.out.bf
  have HLI := Lib.hid (refList_any f.p w3)
  go_upto_region 3 with (first
    | (with_reducible (show wpList _ _ _ _ _ _); refine ld_on rfl (.tmp 16) rfl w.heap.size rfl HB3.out ?_)
    | (go_at_call 32; (with_reducible refine HLI.out.mono ?_); rintro e w4 ⟨lv, rfl, hrow⟩; have HROW := Lib.hid hrow; have HFR4 := Lib.hid (HFR3.out.on1 hrow.bel); clear hrow))
  obtain ⟨e0, e1, e2, e3, e4⟩ := HFR4.out.ev
  dsimp only at e0 e1 e2 e3 e4
  obtain ⟨old, hbr, hold⟩ := HFR4.out.br
  have HBR := Lib.hid hbr; have HBF := Lib.hid HFR4.out.bf; have HOL := Lib.hid hold; have HB := Lib.hid HFR4.out.bl
  clear hbr hold
  have c18 := BF.c18 HBF.out
  have f18 := BF.free HBF.out 18
  by_cases h0 : 1 ≤ a ∧ a = f.tm + 1
  · have e := HR.out
    rw [if_pos h0] at e
    subst e
    obtain ⟨h1, h2⟩ := h0
    have t0 : decide (a < 1) = false := by simp; omega
    have t1 : wrap64 (a - 1) = f.tm := by unfold wrap64; unfold In64F at ht ha; omega
    have t2 : (f.tm != f.tm) = false := by simp
    have hbw : BF (w4.setCell ⟨w.heap.size, 18, none⟩ (.int .i64 a)) w.heap.size F O f.p a := by
      have := Blk.set_ HBF.out 18 (.int .i64 a)
      rw [List.setIfInBounds_toArray, flL_set18] at this
      exact this
    have hbq : Blk (w4.setCell ⟨w.heap.size, 18, none⟩ (.int .i64 a)) (w.heap.size + 1 + 1) 30 old := HBR.out.far (by simp; omega) _
    have HBW := Lib.hid hbw; have HBQ := Lib.hid hbq
    clear hbw hbq h1 h2 HR ht ha
    go_wp2_with (first
      | (with_reducible (show wpList _ _ _ _ _ _); refine ld_flat rfl (.tmp 2) rfl w.heap.size rfl HBW.out ?_)
      | (with_reducible (show wpList _ _ _ _ _ _); refine st_flat rfl (.tmp 4) (.tmp 88) rfl (w.heap.size + 1 + 1) rfl rfl oF oO old HBQ.out HOL.out ?_))
    refine ret_flat2 rfl (w.heap.size + 1 + 1) rfl (BF.row HBQ.out) rfl ?_
    refine NxtG.same (g := { f with tm := a }) HH.out rfl rfl rfl ?_
    exact ((((But.of_below (X := fun k => w.heap.size ≤ k) HB.out).set _ _ (.inr (Nat.le_refl _)))).row _ _ (.inr (by omega))).below (Nat.le_refl _) fun k _ q => q
  · have e := HR.out
    rw [if_neg h0] at e
    subst e
    have hfin : NxtG w F O f none (.returned (.tuple #[flV F O f.p f.tm, .bool false])) (w4.setRow (w.heap.size + 1 + 1) (flL F O f.p f.tm).toArray) := NxtG.same (g := f) (R := none) HH.out rfl rfl rfl (((But.of_below (X := fun k => w.heap.size ≤ k) HB.out).row _ _ (.inr (by omega))).below (Nat.le_refl _) fun k _ q => q)
    have HFIN := Lib.hid hfin
    clear hfin HR
    by_cases h1 : a < 1
    · have t0 : decide (a < 1) = true := by simpa using h1
      clear h0 ht ha
      go_wp2_with (first
        | (with_reducible (show wpList _ _ _ _ _ _); refine ld_flat rfl (.tmp 2) rfl w.heap.size rfl HBF.out ?_)
        | (with_reducible (show wpList _ _ _ _ _ _); refine st_flat rfl (.tmp 4) (.tmp 84) rfl (w.heap.size + 1 + 1) rfl rfl oF oO old HBR.out HOL.out ?_))
      exact ret_flat2 rfl (w.heap.size + 1 + 1) rfl (BF.row HBR.out) rfl HFIN.out
    · have t0 : decide (a < 1) = false := by simpa using h1
      have t1 : (wrap64 (a - 1) != f.tm) = true := by
        have : wrap64 (a - 1) ≠ f.tm := fun e => h0 (by unfold wrap64 at e; unfold In64F at ht ha; omega)
        simpa using this
      clear h0 ht ha
      go_wp2_with (first
        | (with_reducible (show wpList _ _ _ _ _ _); refine ld_flat rfl (.tmp 2) rfl w.heap.size rfl HBF.out ?_)
        | (with_reducible (show wpList _ _ _ _ _ _); refine st_flat rfl (.tmp 4) (.tmp 84) rfl (w.heap.size + 1 + 1) rfl rfl oF oO old HBR.out HOL.out ?_))
      exact ret_flat2 rfl (w.heap.size + 1 + 1) rfl (BF.row HBR.out) rfl HFIN.out
end

set_option maxRecDepth 100000

section
variable {w : World} {F O : Value} {f : Fl}

set_option maxHeartbeats 4000000 in
theorem oth_14 (h : InF w F O f.ts f.ow) (tk cpu a b : Int) : Calls Tryd.prog 19 #[flV F O f.p f.tm, evV ⟨14, tk, cpu, a, b⟩] w (NxtG w F O f (if 0 ≤ cpu ∧ cpu < 1024 ∧ hasP f.p cpu = false then some { f with p := putP f.p cpu } else none)) := by
  have hfr := FrU.new w F O f.p f.tm ⟨14, tk, cpu, a, b⟩ #[.slice none 0 0, .int .u64 0, .int .u64 0, .int .u64 0, .int .u64 0, .int .u64 0, .int .u64 0, .int .u64 0, .int .u64 0, .int .u64 0, .int .u64 0, .int .u64 0, .int .u64 0, .int .u64 0, .int .u64 0, .int .u64 0, .int .u64 0, .slice none 0 0, .int .i64 0] rfl
  obtain ⟨oF, oO⟩ := h.one
  have HH := Lib.hid h
  obtain ⟨R, hR⟩ : ∃ R, (if 0 ≤ cpu ∧ cpu < 1024 ∧ hasP f.p cpu = false then some { f with p := putP f.p cpu } else none) = R := ⟨_, rfl⟩
  have HR := Lib.hid hR
  rw [hR]
  clear h hR
  dsimp only at hfr
  go_enter Tryd.func19, Tryd.ntmps19
  go_upto_region 1 with fail
  generalize ((w.alloc (.cells (flL F O f.p f.tm).toArray 30)).alloc (.cells #[.int .i64 14, .int .i64 tk, .int .i64 cpu, .int .i64 a, .int .i64 b] 36)).alloc (.cells #[.slice none 0 0, .int .u64 0, .int .u64 0, .int .u64 0, .int .u64 0, .int .u64 0, .int .u64 0, .int .u64 0, .int .u64 0, .int .u64 0, .int .u64 0, .int .u64 0, .int .u64 0, .int .u64 0, .int .u64 0, .int .u64 0, .int .u64 0, .slice none 0 0, .int .i64 0] 30) = W at *
  have HFR := Lib.hid hfr
  have HB0 := Lib.hid hfr.bf
  obtain ⟨e0, e1, e2, e3, e4⟩ := hfr.ev
  dsimp only at e0 e1 e2 e3 e4
  clear hfr
  have HHA := Lib.hid (refHas_any f.p cpu W)
  go_upto_region 2 with (first
    | (with_reducible (show wpList _ _ _ _ _ _); refine ld_on rfl (.tmp 11) rfl w.heap.size rfl HB0.out ?_)
    | (go_at_call 17; (with_reducible refine HHA.out.mono ?_); rintro e w3 ⟨rfl, h3⟩; have HFR3 := Lib.hid (HFR.out.on1 h3); clear h3))
  clear e0 e1 e2 e3 e4
  have HB3 := Lib.hid HFR3.out.bf
  have HLI := Lib.hid (refList_any f.p w3)
  go_upto_region 3 with (first
    | (with_reducible (show wpList _ _ _ _ _ _); refine ld_on rfl (.tmp 16) rfl w.heap.size rfl HB3.out ?_)
    | (go_at_call 32; (with_reducible refine HLI.out.mono ?_); rintro e w4 ⟨lv, rfl, hrow⟩; have HROW := Lib.hid hrow; have HFR4 := Lib.hid (HFR3.out.on1 hrow.bel); clear hrow))
  obtain ⟨e0, e1, e2, e3, e4⟩ := HFR4.out.ev
  dsimp only at e0 e1 e2 e3 e4
  by_cases h0 : 0 ≤ cpu ∧ cpu < 1024 ∧ hasP f.p cpu = false
  · have e := HR.out
    rw [if_pos h0] at e
    subst e
    obtain ⟨h1, h2, h3⟩ := h0
    have HHP := Lib.hid h3
    obtain ⟨k, rfl⟩ := Int.eq_ofNat_of_zero_le h1
    have hk : k < 1024 := by omega
    have t0 : decide ((k : Int) < 0) = false := by simp
    have t1 : decide ((1023 : Int) < (k : Int)) = false := by simp; omega
    have hc : cellsOf (ofP (fun i => (((upto f.p 1024 ++ [k]).getD i 0 : Nat) : Int)) (upto f.p 1024 ++ [k]).length) = cellsOf (putP f.p (k : Int)) :=
      cellsOf_congr fun n hn => by
        rw [ofP_list, Bool.eq_iff_iff, decide_eq_true_eq]
        unfold putP
        simp [upto, hn]
        exact or_congr_right (by omega)
    have HC := Lib.hid hc
    have hlen := upto_len f.p 1024
    obtain ⟨i0, hi0, hz0, hz1, hz2⟩ := info_parts infoInt
    have HLW : Hid (w3.heap.size ≤ w4.heap.size) := HROW.out.lt
    rw [HHP.out] at *
    clear hc h1 h2 h3 HR HLI
    go_upto_region 7 with fail
    go_upto_region 23 with (first
      | (go_at_call 15; (with_reducible refine HMK.out.mono ?_); rintro e w6 ⟨rfl, h6⟩; rw [HC.out]; have HFR6 := Lib.hid (HFR5.out.on1 h6); have HBF6 := Lib.hid HFR6.out.bf; clear h6)
      | (with_reducible (show wpList _ _ _ _ _ _); refine st_on rfl (.tmp 41) (.tmp 40) rfl (putP f.p (k : Int)) w.heap.size rfl rfl HBF6.out ?_)
      | (at_builtin; refine wpList_append_lies _ rfl (.tmp 35) (.tmp 38) 28 rfl w3.heap.size 3 i0 (.int .i64 0) 1 8 Tryd.underlying28 hi0 hz0 hz1 hz2 rfl (by decide) _ _ _ rfl (HROW.out.own.alloc _) ⟨w4.heap.size, 0, none⟩ 1 1 [.int .i64 k] rfl rfl (cell_one_new _ _ _) (by intro u hu; simp at hu; subst hu; rfl) (by decide) (by unfold maxLen; omega) (by omega) (by have := HLW.out; simp; omega) (w4.heap.size + 1) (by simp) ?_; intro g cap w5 own5 g5 hat5 hl5; have HR5 := Lib.hid (HROW.out.push own5 g5); have HMK := Lib.hid (make_any (fun i => (((upto f.p 1024 ++ [k]).getD i 0 : Nat) : Int)) (upto f.p 1024 ++ [k]).length (.slice (some ⟨g, 0, none⟩) ((upto f.p 1024).length + 1) cap) w5 (by simp; omega) (ints_of_own HR5.out.own)); have HFR5 := Lib.hid (HFR3.out.on1 HR5.out.bel); have HBF5 := Lib.hid HFR5.out.bf; clear own5 g5 hat5))
    obtain ⟨o1, o2⟩ := BF.online HBF6.out (putP f.p (k : Int))
    obtain ⟨old, hbr, hold⟩ := HFR6.out.br
    have HBR := Lib.hid (Blk.but hbr o2 (by omega)); have HOL := Lib.hid hold; have HB7 := Lib.hid o1; have HO2 := Lib.hid o2
    clear hbr hold o1 o2
    go_wp2_with (first
      | (with_reducible (show wpList _ _ _ _ _ _); refine ld_flat rfl (.tmp 2) rfl w.heap.size rfl HB7.out ?_)
      | (with_reducible (show wpList _ _ _ _ _ _); refine st_flat rfl (.tmp 4) (.tmp 88) rfl (w.heap.size + 1 + 1) rfl rfl oF oO old HBR.out HOL.out ?_))
    refine ret_flat2 rfl (w.heap.size + 1 + 1) rfl (BF.row HBR.out) rfl ?_
    refine NxtG.same (g := { f with p := putP f.p (k : Int) }) (R := some { f with p := putP f.p (k : Int) }) HH.out rfl rfl rfl ?_
    exact (((But.of_below (X := fun k => w.heap.size ≤ k) HFR6.out.bl).trans (HO2.out.mono fun k _ q => by omega)).row _ _ (.inr (by omega))).below (Nat.le_refl _) fun k _ q => q
  · have e := HR.out
    rw [if_neg h0] at e
    subst e
    have hfin : NxtG w F O f none (.returned (.tuple #[flV F O f.p f.tm, .bool false])) (w4.setRow (w.heap.size + 1 + 1) (flL F O f.p f.tm).toArray) := NxtG.same (g := f) (R := none) HH.out rfl rfl rfl (((But.of_below (X := fun k => w.heap.size ≤ k) HFR4.out.bl).row _ _ (.inr (by omega))).below (Nat.le_refl _) fun k _ q => q)
    have HFIN := Lib.hid hfin
    obtain ⟨old, hbr, hold⟩ := HFR4.out.br
    have HBR := Lib.hid hbr; have HBF := Lib.hid HFR4.out.bf; have HOL := Lib.hid hold
    clear hfin HR hbr hold HLI
    by_cases h1 : hasP f.p cpu = true
    · rw [h1] at *
      clear h0
      go_wp2_with (first
        | (with_reducible (show wpList _ _ _ _ _ _); refine ld_flat rfl (.tmp 2) rfl w.heap.size rfl HBF.out ?_)
        | (with_reducible (show wpList _ _ _ _ _ _); refine st_flat rfl (.tmp 4) (.tmp 34) rfl (w.heap.size + 1 + 1) rfl rfl oF oO old HBR.out HOL.out ?_))
      exact ret_flat2 rfl (w.heap.size + 1 + 1) rfl (BF.row HBR.out) rfl HFIN.out
    · have h2 : hasP f.p cpu = false := by simpa using h1
      have h4 : ¬ (0 ≤ cpu ∧ cpu < 1024) := fun q => h0 ⟨q.1, q.2, h2⟩
      rw [h2] at *
      clear h1
      by_cases h3 : cpu < 0
      · have t0 : decide (cpu < 0) = true := by simpa using h3
        clear h0
        go_wp2_with (first
          | (with_reducible (show wpList _ _ _ _ _ _); refine ld_flat rfl (.tmp 2) rfl w.heap.size rfl HBF.out ?_)
          | (with_reducible (show wpList _ _ _ _ _ _); refine st_flat rfl (.tmp 4) (.tmp 34) rfl (w.heap.size + 1 + 1) rfl rfl oF oO old HBR.out HOL.out ?_))
        exact ret_flat2 rfl (w.heap.size + 1 + 1) rfl (BF.row HBR.out) rfl HFIN.out
      · have t0 : decide (cpu < 0) = false := by simpa using h3
        have t1 : decide ((1023 : Int) < cpu) = true := by
          simp; omega
        clear h0
        go_wp2_with (first
          | (with_reducible (show wpList _ _ _ _ _ _); refine ld_flat rfl (.tmp 2) rfl w.heap.size rfl HBF.out ?_)
          | (with_reducible (show wpList _ _ _ _ _ _); refine st_flat rfl (.tmp 4) (.tmp 34) rfl (w.heap.size + 1 + 1) rfl rfl oF oO old HBR.out HOL.out ?_))
        exact ret_flat2 rfl (w.heap.size + 1 + 1) rfl (BF.row HBR.out) rfl HFIN.out
end

set_option maxRecDepth 100000

/-- A machine's box is read whole, at a step that is guarded and wanted. -/
theorem ld_flat_if {F O : Value} {p : Nat → Bool} {t : Int} {w : World} {ops : Array Oper} {rest : List Oper} {o : Oper} {a : Act} {Q : Exit → Act → World → Prop} (hw : Region.wanted o (yielded ops a.tmps) = true) (x : Operand) (ho : o.op = .load 30 x)
    (g : Nat) (hx : a.eval x = .pointer (some ⟨g, 0, none⟩)) (hb : BF w g F O p t) (h : wpList Tryd.prog ops Q rest (a.put o.dst (flV F O p t)) w) : wpList Tryd.prog ops Q (o :: rest) a w :=
  wpList_step fun K hK => by
    rw [if_pos hw]
    exact wp_load_mid 30 x ho g 0 hx (flL F O p t) _ hb.all under30 rfl (by rw [infoFlat, flL_len]) (hK _ _ h)
section
variable {w : World} {F O : Value} {f : Fl}

set_option maxHeartbeats 4000000 in
theorem oth_15 (h : InF w F O f.ts f.ow) (tk cpu a b : Int) (hl : f.ts.length ≤ 1000) : Calls Tryd.prog 19 #[flV F O f.p f.tm, evV ⟨15, tk, cpu, a, b⟩] w (NxtG w F O f (if hasP f.p cpu = true ∧ busyP f.ts cpu = false then some { f with p := dropP f.p cpu } else none)) := by
  have hfr := FrU.new w F O f.p f.tm ⟨15, tk, cpu, a, b⟩ #[.slice none 0 0, .int .u64 0, .int .u64 0, .int .u64 0, .int .u64 0, .int .u64 0, .int .u64 0, .int .u64 0, .int .u64 0, .int .u64 0, .int .u64 0, .int .u64 0, .int .u64 0, .int .u64 0, .int .u64 0, .int .u64 0, .int .u64 0, .slice none 0 0, .int .i64 0] rfl
  obtain ⟨oF, oO⟩ := h.one
  have HH := Lib.hid h
  obtain ⟨R, hR⟩ : ∃ R, (if hasP f.p cpu = true ∧ busyP f.ts cpu = false then some { f with p := dropP f.p cpu } else none) = R := ⟨_, rfl⟩
  have HR := Lib.hid hR
  rw [hR]
  clear h hR
  dsimp only at hfr
  go_enter Tryd.func19, Tryd.ntmps19
  go_upto_region 1 with fail
  generalize ((w.alloc (.cells (flL F O f.p f.tm).toArray 30)).alloc (.cells #[.int .i64 15, .int .i64 tk, .int .i64 cpu, .int .i64 a, .int .i64 b] 36)).alloc (.cells #[.slice none 0 0, .int .u64 0, .int .u64 0, .int .u64 0, .int .u64 0, .int .u64 0, .int .u64 0, .int .u64 0, .int .u64 0, .int .u64 0, .int .u64 0, .int .u64 0, .int .u64 0, .int .u64 0, .int .u64 0, .int .u64 0, .int .u64 0, .slice none 0 0, .int .i64 0] 30) = W at *
  have HFR := Lib.hid hfr
  have HB0 := Lib.hid hfr.bf
  obtain ⟨e0, e1, e2, e3, e4⟩ := hfr.ev
  dsimp only at e0 e1 e2 e3 e4
  clear hfr
  have HHA := Lib.hid (refHas_any f.p cpu W)
  go_upto_region 2 with (first
    | (with_reducible (show wpList _ _ _ _ _ _); refine ld_on rfl (.tmp 11) rfl w.heap.size rfl HB0.out ?_)
    | (go_at_call 17; (with_reducible refine HHA.out.mono ?_); rintro e w3 ⟨rfl, h3⟩; have HFR3 := Lib.hid (HFR.out.on1 h3); clear h3))
  clear e0 e1 e2 e3 e4
  have HB3 := Lib.hid HFR3.out.bf
  have HLI := Lib.hid (refList_any f.p w3)
  go_upto_region 3 with (first
    | (with_reducible (show wpList _ _ _ _ _ _); refine ld_on rfl (.tmp 16) rfl w.heap.size rfl HB3.out ?_)
    | (go_at_call 32; (with_reducible refine HLI.out.mono ?_); rintro e w4 ⟨lv, rfl, hrow⟩; have HROW := Lib.hid hrow; have HFR4 := Lib.hid (HFR3.out.on1 hrow.bel); clear hrow))
  obtain ⟨e0, e1, e2, e3, e4⟩ := HFR4.out.ev
  dsimp only at e0 e1 e2 e3 e4
  have HHP : Hid (0 ≤ cpu ∧ cpu < 1024 ∨ hasP f.p cpu = false) := by
    show _ ∨ _
    by_cases q : 0 ≤ cpu ∧ cpu < 1024
    · exact .inl q
    · right; unfold hasP; rw [show decide (0 ≤ cpu ∧ cpu < 1024) = false by simpa using q]; rfl
  cases hh : hasP f.p cpu with
  | false =>
    have e := HR.out
    rw [if_neg (by rw [hh]; simp)] at e
    subst e
    have hfin : NxtG w F O f none (.returned (.tuple #[flV F O f.p f.tm, .bool false])) (w4.setRow (w.heap.size + 1 + 1) (flL F O f.p f.tm).toArray) := NxtG.same (g := f) (R := none) HH.out rfl rfl rfl (((But.of_below (X := fun k => w.heap.size ≤ k) HFR4.out.bl).row _ _ (.inr (by omega))).below (Nat.le_refl _) fun k _ q => q)
    have HFIN := Lib.hid hfin
    obtain ⟨old, hbr, hold⟩ := HFR4.out.br
    have HBR := Lib.hid hbr; have HBF := Lib.hid HFR4.out.bf; have HOL := Lib.hid hold
    clear hfin HR hbr hold HLI HHP
    rw [hh] at *
    go_wp2_with (first
      | (with_reducible (show wpList _ _ _ _ _ _); refine ld_flat rfl (.tmp 2) rfl w.heap.size rfl HBF.out ?_)
      | (with_reducible (show wpList _ _ _ _ _ _); refine st_flat rfl (.tmp 4) (.tmp 52) rfl (w.heap.size + 1 + 1) rfl rfl oF oO old HBR.out HOL.out ?_))
    exact ret_flat2 rfl (w.heap.size + 1 + 1) rfl (BF.row HBR.out) rfl HFIN.out
  | true =>
    have HBF4 := Lib.hid HFR4.out.bf
    have HH4 := Lib.hid (HH.out.below HFR4.out.bl)
    cases hb : busyP f.ts cpu with
    | true =>
      have e := HR.out
      rw [if_neg (by rw [hb]; simp)] at e
      subst e
      have hrun := runs_any (p := f.p) (t := f.tm) HH4.out hl cpu
      rw [hb] at hrun
      have HRU := Lib.hid hrun
      clear hrun HR HLI HHP
      rw [hh] at *
      go_upto_region 10 with (first
        | (with_reducible (show wpList _ _ _ _ _ _); refine ld_flat_if (by rfl) (.tmp 2) rfl w.heap.size rfl HBF4.out ?_)
        | (with_reducible (show Oper.wp _ _ _ _ _ _); refine wp_load_mid 30 (.tmp 2) rfl w.heap.size 0 rfl (flL F O f.p f.tm) _ HBF4.out.all under30 rfl (by rw [infoFlat, flL_len]) ?_)
        | (go_at_call 20; (with_reducible refine HRU.out.mono ?_); rintro e w5 ⟨rfl, h5⟩; have HFR5 := Lib.hid (HFR4.out.on1 h5); clear h5))
      have hfin : NxtG w F O f none (.returned (.tuple #[flV F O f.p f.tm, .bool false])) (w5.setRow (w.heap.size + 1 + 1) (flL F O f.p f.tm).toArray) := NxtG.same (g := f) (R := none) HH.out rfl rfl rfl (((But.of_below (X := fun k => w.heap.size ≤ k) HFR5.out.bl).row _ _ (.inr (by omega))).below (Nat.le_refl _) fun k _ q => q)
      have HFIN := Lib.hid hfin
      obtain ⟨old, hbr, hold⟩ := HFR5.out.br
      have HBR := Lib.hid hbr; have HBF := Lib.hid HFR5.out.bf; have HOL := Lib.hid hold
      clear hfin hbr hold
      go_wp2_with (first
        | (with_reducible (show wpList _ _ _ _ _ _); refine ld_flat rfl (.tmp 2) rfl w.heap.size rfl HBF.out ?_)
        | (with_reducible (show wpList _ _ _ _ _ _); refine st_flat rfl (.tmp 4) (.tmp 52) rfl (w.heap.size + 1 + 1) rfl rfl oF oO old HBR.out HOL.out ?_))
      exact ret_flat2 rfl (w.heap.size + 1 + 1) rfl (BF.row HBR.out) rfl HFIN.out
    | false =>
      have e := HR.out
      rw [if_pos ⟨hh, hb⟩] at e
      subst e
      have hrun := runs_any (p := f.p) (t := f.tm) HH4.out hl cpu
      rw [hb] at hrun
      have HRU := Lib.hid hrun
      clear hrun HR HLI
      rw [hh] at *
      go_upto_region 12 with (first
        | (with_reducible (show wpList _ _ _ _ _ _); refine ld_flat_if (by rfl) (.tmp 2) rfl w.heap.size rfl HBF4.out ?_)
        | (with_reducible (show Oper.wp _ _ _ _ _ _); refine wp_load_mid 30 (.tmp 2) rfl w.heap.size 0 rfl (flL F O f.p f.tm) _ HBF4.out.all under30 rfl (by rw [infoFlat, flL_len]) ?_)
        | (go_at_call 20; (with_reducible refine HRU.out.mono ?_); rintro e w5 ⟨rfl, h5⟩; have HFR5 := Lib.hid (HFR4.out.on1 h5); have HROW5 := Lib.hid (HROW.out.on h5); clear h5))
      obtain ⟨ad, lcap, rfl, hin⟩ := ints_of_own HROW5.out.own
      have hnl := upto_len f.p 1024
      obtain ⟨L, hL⟩ : ∃ L, upto f.p 1024 = L := ⟨_, rfl⟩
      have HL := Lib.hid hL
      rw [hL] at hin hnl ⊢
      clear hL
      obtain ⟨n, hn⟩ : ∃ n, L.length = n := ⟨_, rfl⟩
      have HN := Lib.hid hn
      rw [hn] at hin hnl ⊢
      have HIN := Lib.hid hin
      clear hn hin e0 e1 e2 e3 e4
      obtain ⟨i0, hi0, hz0, hz1, hz2⟩ := info_parts infoInt
      have HI := Lib.hid (show Row1 w5.heap.size w5 [] (.slice none 0 0) w5 from ⟨Below.refl _ _, Nat.le_refl _, World.ownsRow_nil _ _ _ _⟩)
      go_wp2_with fail
      go_loopw [8, 55] (fun a i wr => ∃ k : Nat, k ≤ n ∧ i = .int .i64 k ∧ Row1 w5.heap.size w5 ((L.take k).filter fun m : Nat => !decide ((m : Int) = cpu)) a wr) (fun _ i _ => n - (intOf i).toNat)
      case atStart => exact ⟨0, by omega, rfl, by simpa using HI.out⟩
      case round =>
        obtain ⟨k, hk, rfl, hI⟩ := hrel
        have HJ := Lib.hid hI
        obtain ⟨-, -, e2, -, -⟩ := (HFR5.out.on1 hI.bel).ev
        dsimp only at e2
        clear hI HI
        by_cases hlt : k < n
        · obtain ⟨bb, off, rfl, hbb, hcell⟩ := HIN.out.resolve_left (by omega)
          have hc0 := (HJ.out.bel.cell (p := ⟨bb, off + k, none⟩) hbb).trans (hcell k hlt)
          obtain ⟨x, hx⟩ : ∃ x, L[k]? = some x := ⟨_, List.getElem?_eq_getElem (by rw [HN.out]; exact hlt)⟩
          have hg : L.getD k 0 = x := by rw [List.getD_eq_getElem?_getD, hx]; rfl
          rw [hg] at hc0
          have htk : L.take (k + 1) = L.take k ++ [x] := by rw [List.take_add_one, hx]; rfl
          have HTK := Lib.hid htk
          have hfl : ((L.take k).filter fun m : Nat => !decide ((m : Int) = cpu)).length ≤ 1024 := Nat.le_trans (List.length_filter_le _ _) (by rw [List.length_take]; omega)
          have k0 : (0 : Int) ≤ (k : Int) := by omega
          have k1 : (k : Int) < (n : Int) := by omega
          clear hcell hbb hx hg htk
          by_cases hxc : (x : Int) = cpu
          · have t1 : ((x : Int) != cpu) = false := by simpa using hxc
            have HX := Lib.hid hxc
            clear hxc
            go_wp2_with fail
            go_roundw
            case rel => exact ⟨k + 1, by omega, by go_num, by rw [HTK.out, List.filter_append]; simpa [HX.out] using HJ.out⟩
            case measure => simp [intOf]; omega
          · have t1 : ((x : Int) != cpu) = true := by simpa using hxc
            have HX := Lib.hid hxc
            have HLJ := Lib.hid HJ.out.lt
            clear hxc
            go_wp2_with (at_builtin; refine wpList_append_lies _ rfl (.tmp 63) (.tmp 65) 28 rfl w5.heap.size 3 i0 (.int .i64 0) 1 8 Tryd.underlying28 hi0 hz0 hz1 hz2 rfl (by decide) _ _ _ rfl (HJ.out.own.alloc _) ⟨wr.heap.size, 0, none⟩ 1 1 [.int .i64 x] rfl rfl (cell_one_new _ _ _) (by intro u hu; simp at hu; subst hu; rfl) (by decide) (by unfold maxLen; omega) (by omega) (by have := HLJ.out; simp; omega) (wr.heap.size + 1) (by simp) ?_; intro g cap w6 own6 g6 hat6 hl6; have HR6 := Lib.hid (HJ.out.push own6 g6); clear own6 g6 hat6)
            go_roundw
            case rel => exact ⟨k + 1, by omega, by go_num, by rw [HTK.out, List.filter_append]; simpa [HX.out] using HR6.out⟩
            case measure => simp [intOf]; omega
        · obtain rfl : k = n := by omega
          have HLL : Hid (L.take k = L) := by show _ = _; rw [← HN.out]; exact List.take_length
          have hc : cellsOf (ofP (fun i => (((L.filter fun m : Nat => !decide ((m : Int) = cpu)).getD i 0 : Nat) : Int)) (L.filter fun m : Nat => !decide ((m : Int) = cpu)).length) = cellsOf (dropP f.p cpu) :=
            cellsOf_congr fun m hm => by
              rw [ofP_list, Bool.eq_iff_iff, decide_eq_true_eq, ← HL.out]
              unfold dropP
              simp [upto, hm, and_comm]
          have HC := Lib.hid hc
          have hR := HJ.out
          rw [HLL.out] at hR
          have HR6 := Lib.hid hR
          have hfl : (L.filter fun m : Nat => !decide ((m : Int) = cpu)).length ≤ 1024 := Nat.le_trans (List.length_filter_le _ _) (by rw [HN.out]; omega)
          have HMK := Lib.hid (make_any _ _ _ wr (by omega) (ints_of_own HR6.out.own))
          have HFR6 := Lib.hid (HFR5.out.on1 HR6.out.bel)
          clear hR hc HJ hk
          go_upto_region 23 with (first
            | (go_at_call 15; (with_reducible refine HMK.out.mono ?_); rintro e w7 ⟨rfl, h7⟩; rw [HC.out]; have HFR7 := Lib.hid (HFR6.out.on1 h7); have HBF7 := Lib.hid HFR7.out.bf; clear h7)
            | (with_reducible (show wpList _ _ _ _ _ _); refine st_on rfl (.tmp 70) (.tmp 69) rfl (dropP f.p cpu) w.heap.size rfl rfl HBF7.out ?_))
          obtain ⟨o1, o2⟩ := BF.online HBF7.out (dropP f.p cpu)
          obtain ⟨old, hbr, hold⟩ := HFR7.out.br
          have HBR := Lib.hid (Blk.but hbr o2 (by omega)); have HOL := Lib.hid hold; have HB8 := Lib.hid o1; have HO2 := Lib.hid o2
          clear hbr hold o1 o2
          go_wp2_with (first
            | (with_reducible (show wpList _ _ _ _ _ _); refine ld_flat rfl (.tmp 2) rfl w.heap.size rfl HB8.out ?_)
            | (with_reducible (show wpList _ _ _ _ _ _); refine st_flat rfl (.tmp 4) (.tmp 88) rfl (w.heap.size + 1 + 1) rfl rfl oF oO old HBR.out HOL.out ?_))
          refine ret_flat2 rfl (w.heap.size + 1 + 1) rfl (BF.row HBR.out) rfl ?_
          refine NxtG.same (g := { f with p := dropP f.p cpu }) (R := some { f with p := dropP f.p cpu }) HH.out rfl rfl rfl ?_
          exact (((But.of_below (X := fun k => w.heap.size ≤ k) HFR7.out.bl).trans (HO2.out.mono fun k _ q => by omega)).row _ _ (.inr (by omega))).below (Nat.le_refl _) fun k _ q => q
end
end Go.Proofs.YtilaalleiiakoaaDoor
