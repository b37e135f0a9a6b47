/- What an event does to a machine: the frame, and what is handed on whole (layer 19): printed by wip/src19/gen_kq.py. -/
import Derived.Test.YtilaalleiiakoaaDoorKo
namespace Go.Proofs.YtilaalleiiakoaaDoor
open Go.RowKit
set_option maxRecDepth 100000

/-- A machine's box, the event's, and the result's. -/
structure FrU (w W : World) (F O : Value) (p : Nat → Bool) (t : Int) (e : EvP) : Prop where
  bl : Below w.heap.size w W
  bf : BF W w.heap.size F O p t
  be : Blk W (w.heap.size + 1) 36 #[.int .i64 e.kd, .int .i64 e.tk, .int .i64 e.cpu, .int .i64 e.a, .int .i64 e.b]
  br : ∃ old, Blk W (w.heap.size + 1 + 1) 30 old ∧ old.size = 19
section
variable {w W W' : World} {F O : Value} {p : Nat → Bool} {t : Int} {e : EvP} {B : Nat} {f : Fl}
theorem FrU.new (w : World) (F O : Value) (p : Nat → Bool) (t : Int) (e : EvP) (old : Array Value) (h : old.size = 19) : FrU w (((w.alloc (.cells (flL F O p t).toArray 30)).alloc (.cells #[.int .i64 e.kd, .int .i64 e.tk, .int .i64 e.cpu, .int .i64 e.a, .int .i64 e.b] 36)).alloc (.cells old 30)) F O p t e where
  bl := (((Below.refl _ _).alloc (Nat.le_refl _) _).alloc (by simp) _).alloc (by simp; omega) _
  bf := ((Blk.new w _ _).alloc _).alloc _
  be := by
    have := Blk.new (w.alloc (.cells (flL F O p t).toArray 30)) 36 #[.int .i64 e.kd, .int .i64 e.tk, .int .i64 e.cpu, .int .i64 e.a, .int .i64 e.b]
    refine Blk.alloc ?_ _
    simpa using this
  br := ⟨old, by have := Blk.new ((w.alloc (.cells (flL F O p t).toArray 30)).alloc (.cells #[.int .i64 e.kd, .int .i64 e.tk, .int .i64 e.cpu, .int .i64 e.a, .int .i64 e.b] 36)) 30 old; simpa using this, h⟩
theorem FrU.ev (h : FrU w W F O p t e) : W.cell? ⟨w.heap.size + 1, 0, none⟩ = some (.int .i64 e.kd) ∧ W.cell? ⟨w.heap.size + 1, 1, none⟩ = some (.int .i64 e.tk) ∧ W.cell? ⟨w.heap.size + 1, 2, none⟩ = some (.int .i64 e.cpu) ∧ W.cell? ⟨w.heap.size + 1, 3, none⟩ = some (.int .i64 e.a) ∧ W.cell? ⟨w.heap.size + 1, 4, none⟩ = some (.int .i64 e.b) :=
  ⟨h.be.cell 0, h.be.cell 1, h.be.cell 2, h.be.cell 3, h.be.cell 4⟩
theorem FlG.from {R : Option Fl} {e : Ending} {w' : World} (h : FlG W B F O f R e w') (hb : Below w.heap.size w W) : FlG w B F O f R e w' := by
  obtain ⟨F', h1, h2, h3, h4⟩ := h
  exact ⟨F', h1, h2, (But.of_below hb).trans h3, fun k hk => (h4 k hk).imp id fun q => Nat.le_trans hb.size q⟩
theorem OwnF.row {ts : List FT} {ow : List Int} (h : OwnF w B F O ts ow) (g : Nat) (cs : Array Value) (hg : ∀ k, OwnB F O k → k ≠ g) : OwnF (w.setRow g cs) B F O ts ow :=
  h.but ((But.refl (fun k => k = g) w).row _ _ (.inl rfl)) fun k hk q => hg k hk q
/-- What was handed on is stored as the result. -/
theorem FlG.stored {R : Option Fl} {F' : Value} {w3 : World} {r : Nat} {cs : Array Value} (h : OwnF w B F O f.ts f.ow) (hb : Below w.heap.size w W) (h3 : OwnF w3 B F' O (R.getD f).ts (R.getD f).ow) (hb3 : But (OwnB F O) W w3) (hk : ∀ k, F'.ownBlock = some k → F.ownBlock = some k ∨ W.heap.size ≤ k) (hr : w.heap.size ≤ r) (hrW : r < W.heap.size) :
    FlG w B F O f R (.returned (.tuple #[flV F' O (R.getD f).p (R.getD f).tm, .bool R.isSome])) (w3.setRow r cs) := by
  refine ⟨F', rfl, h3.row r _ fun k hk' e => ?_, ?_, fun k hk' => (hk k hk').imp id fun q => Nat.le_trans hb.size q⟩
  · subst e
    rcases hk' with q | q
    · rcases hk k q with q | q
      · have := (h.lt (.inl q)).2; omega
      · omega
    · have := (h.lt (.inr q)).2; omega
  · exact ((But.of_below hb).trans hb3).row _ _ (.inr hr)
end
set_option maxHeartbeats 4000000 in
theorem turn_17 {w : World} {B : Nat} {F O : Value} {f : Fl} {PA : Option Addr} {ps : List PR} (h : OwnF w B F O f.ts f.ow) (pcap : Nat) (tk cpu a b : Int) :
    Calls Tryd.prog 25 #[flV F O f.p f.tm, .slice PA ps.length pcap, evV ⟨17, tk, cpu, a, b⟩] w (FlG w B F O f (turnP f ps ⟨17, tk, cpu, a, b⟩)) := by
  have hfr := FrU.new w F O f.p f.tm ⟨17, tk, cpu, a, b⟩ #[.slice none 0 0, .int .u64 0, .int .u64 0, .int .u64 0, .int .u64 0, .int .u64 0, .int .u64 0, .int .u64 0, .int .u64 0, .int .u64 0, .int .u64 0, .int .u64 0, .int .u64 0, .int .u64 0, .int .u64 0, .int .u64 0, .int .u64 0, .slice none 0 0, .int .i64 0] rfl
  obtain ⟨oF, oO⟩ := h.one
  have HH := Lib.hid h
  obtain ⟨R, hR⟩ : ∃ R, turnP f ps ⟨17, tk, cpu, a, b⟩ = R := ⟨_, rfl⟩
  have HR := Lib.hid hR
  rw [hR]
  clear h hR
  dsimp only at hfr
  go_enter Tryd.func25, Tryd.ntmps25
  go_upto_region 1 with fail
  generalize ((w.alloc (.cells (flL F O f.p f.tm).toArray 30)).alloc (.cells #[.int .i64 17, .int .i64 tk, .int .i64 cpu, .int .i64 a, .int .i64 b] 36)).alloc (.cells #[.slice none 0 0, .int .u64 0, .int .u64 0, .int .u64 0, .int .u64 0, .int .u64 0, .int .u64 0, .int .u64 0, .int .u64 0, .int .u64 0, .int .u64 0, .int .u64 0, .int .u64 0, .int .u64 0, .int .u64 0, .int .u64 0, .int .u64 0, .slice none 0 0, .int .i64 0] 30) = W at *
  obtain ⟨e0, e1, e2, e3, e4⟩ := hfr.ev
  dsimp only at e0 e1 e2 e3 e4
  obtain ⟨old, hbr, hold⟩ := hfr.br
  have HBR := Lib.hid hbr; have HBF := Lib.hid hfr.bf; have HOL := Lib.hid hold; have HB := Lib.hid hfr.bl
  have HLT : Hid (∀ k, OwnB F O k → k < w.heap.size) := fun k hk => (HH.out.lt hk).2
  have HO := Lib.hid (HH.out.below hfr.bl)
  clear hbr hold hfr
  have e : R = some f := HR.out ▸ rfl
  subst e
  clear HR
  go_wp2_with (first
    | (with_reducible (show wpList _ _ _ _ _ _); refine ld_flat rfl (.tmp 3) rfl w.heap.size rfl HBF.out ?_)
    | (with_reducible (show wpList _ _ _ _ _ _); refine st_flat rfl (.tmp 6) (.tmp 15) rfl (w.heap.size + 1 + 1) rfl rfl oF oO old HBR.out HOL.out ?_))
  refine ret_flat2 rfl (w.heap.size + 1 + 1) rfl (BF.row HBR.out) rfl ?_
  exact FlG.stored (R := some f) HH.out HB.out HO.out (But.refl _ _) (fun k hk => .inl hk) (by omega) HBR.out.lt
set_option maxHeartbeats 4000000 in
theorem turn_18 {w : World} {B : Nat} {F O : Value} {f : Fl} {PA : Option Addr} {ps : List PR} (h : OwnF w B F O f.ts f.ow) (pcap : Nat) (tk cpu a b : Int) :
    Calls Tryd.prog 25 #[flV F O f.p f.tm, .slice PA ps.length pcap, evV ⟨18, tk, cpu, a, b⟩] w (FlG w B F O f (turnP f ps ⟨18, tk, cpu, a, b⟩)) := by
  have hfr := FrU.new w F O f.p f.tm ⟨18, tk, cpu, a, b⟩ #[.slice none 0 0, .int .u64 0, .int .u64 0, .int .u64 0, .int .u64 0, .int .u64 0, .int .u64 0, .int .u64 0, .int .u64 0, .int .u64 0, .int .u64 0, .int .u64 0, .int .u64 0, .int .u64 0, .int .u64 0, .int .u64 0, .int .u64 0, .slice none 0 0, .int .i64 0] rfl
  obtain ⟨oF, oO⟩ := h.one
  have HH := Lib.hid h
  obtain ⟨R, hR⟩ : ∃ R, turnP f ps ⟨18, tk, cpu, a, b⟩ = R := ⟨_, rfl⟩
  have HR := Lib.hid hR
  rw [hR]
  clear h hR
  dsimp only at hfr
  go_enter Tryd.func25, Tryd.ntmps25
  go_upto_region 1 with fail
  generalize ((w.alloc (.cells (flL F O f.p f.tm).toArray 30)).alloc (.cells #[.int .i64 18, .int .i64 tk, .int .i64 cpu, .int .i64 a, .int .i64 b] 36)).alloc (.cells #[.slice none 0 0, .int .u64 0, .int .u64 0, .int .u64 0, .int .u64 0, .int .u64 0, .int .u64 0, .int .u64 0, .int .u64 0, .int .u64 0, .int .u64 0, .int .u64 0, .int .u64 0, .int .u64 0, .int .u64 0, .int .u64 0, .int .u64 0, .slice none 0 0, .int .i64 0] 30) = W at *
  obtain ⟨e0, e1, e2, e3, e4⟩ := hfr.ev
  dsimp only at e0 e1 e2 e3 e4
  obtain ⟨old, hbr, hold⟩ := hfr.br
  have HBR := Lib.hid hbr; have HBF := Lib.hid hfr.bf; have HOL := Lib.hid hold; have HB := Lib.hid hfr.bl
  have HLT : Hid (∀ k, OwnB F O k → k < w.heap.size) := fun k hk => (HH.out.lt hk).2
  have HO := Lib.hid (HH.out.below hfr.bl)
  clear hbr hold hfr
  have e : R = some f := HR.out ▸ rfl
  subst e
  clear HR
  go_wp2_with (first
    | (with_reducible (show wpList _ _ _ _ _ _); refine ld_flat rfl (.tmp 3) rfl w.heap.size rfl HBF.out ?_)
    | (with_reducible (show wpList _ _ _ _ _ _); refine st_flat rfl (.tmp 6) (.tmp 15) rfl (w.heap.size + 1 + 1) rfl rfl oF oO old HBR.out HOL.out ?_))
  refine ret_flat2 rfl (w.heap.size + 1 + 1) rfl (BF.row HBR.out) rfl ?_
  exact FlG.stored (R := some f) HH.out HB.out HO.out (But.refl _ _) (fun k hk => .inl hk) (by omega) HBR.out.lt
set_option maxHeartbeats 4000000 in
theorem turn_19 {w : World} {B : Nat} {F O : Value} {f : Fl} {PA : Option Addr} {ps : List PR} (h : OwnF w B F O f.ts f.ow) (pcap : Nat) (tk cpu a b : Int) :
    Calls Tryd.prog 25 #[flV F O f.p f.tm, .slice PA ps.length pcap, evV ⟨19, tk, cpu, a, b⟩] w (FlG w B F O f (turnP f ps ⟨19, tk, cpu, a, b⟩)) := by
  have hfr := FrU.new w F O f.p f.tm ⟨19, tk, cpu, a, b⟩ #[.slice none 0 0, .int .u64 0, .int .u64 0, .int .u64 0, .int .u64 0, .int .u64 0, .int .u64 0, .int .u64 0, .int .u64 0, .int .u64 0, .int .u64 0, .int .u64 0, .int .u64 0, .int .u64 0, .int .u64 0, .int .u64 0, .int .u64 0, .slice none 0 0, .int .i64 0] rfl
  obtain ⟨oF, oO⟩ := h.one
  have HH := Lib.hid h
  obtain ⟨R, hR⟩ : ∃ R, turnP f ps ⟨19, tk, cpu, a, b⟩ = R := ⟨_, rfl⟩
  have HR := Lib.hid hR
  rw [hR]
  clear h hR
  dsimp only at hfr
  go_enter Tryd.func25, Tryd.ntmps25
  go_upto_region 1 with fail
  generalize ((w.alloc (.cells (flL F O f.p f.tm).toArray 30)).alloc (.cells #[.int .i64 19, .int .i64 tk, .int .i64 cpu, .int .i64 a, .int .i64 b] 36)).alloc (.cells #[.slice none 0 0, .int .u64 0, .int .u64 0, .int .u64 0, .int .u64 0, .int .u64 0, .int .u64 0, .int .u64 0, .int .u64 0, .int .u64 0, .int .u64 0, .int .u64 0, .int .u64 0, .int .u64 0, .int .u64 0, .int .u64 0, .int .u64 0, .slice none 0 0, .int .i64 0] 30) = W at *
  obtain ⟨e0, e1, e2, e3, e4⟩ := hfr.ev
  dsimp only at e0 e1 e2 e3 e4
  obtain ⟨old, hbr, hold⟩ := hfr.br
  have HBR := Lib.hid hbr; have HBF := Lib.hid hfr.bf; have HOL := Lib.hid hold; have HB := Lib.hid hfr.bl
  have HLT : Hid (∀ k, OwnB F O k → k < w.heap.size) := fun k hk => (HH.out.lt hk).2
  have HO := Lib.hid (HH.out.below hfr.bl)
  clear hbr hold hfr
  have e : R = some f := HR.out ▸ rfl
  subst e
  clear HR
  go_wp2_with (first
    | (with_reducible (show wpList _ _ _ _ _ _); refine ld_flat rfl (.tmp 3) rfl w.heap.size rfl HBF.out ?_)
    | (with_reducible (show wpList _ _ _ _ _ _); refine st_flat rfl (.tmp 6) (.tmp 15) rfl (w.heap.size + 1 + 1) rfl rfl oF oO old HBR.out HOL.out ?_))
  refine ret_flat2 rfl (w.heap.size + 1 + 1) rfl (BF.row HBR.out) rfl ?_
  exact FlG.stored (R := some f) HH.out HB.out HO.out (But.refl _ _) (fun k hk => .inl hk) (by omega) HBR.out.lt
set_option maxHeartbeats 4000000 in
theorem turn_20 {w : World} {B : Nat} {F O : Value} {f : Fl} {PA : Option Addr} {ps : List PR} (h : OwnF w B F O f.ts f.ow) (pcap : Nat) (tk cpu a b : Int) :
    Calls Tryd.prog 25 #[flV F O f.p f.tm, .slice PA ps.length pcap, evV ⟨20, tk, cpu, a, b⟩] w (FlG w B F O f (turnP f ps ⟨20, tk, cpu, a, b⟩)) := by
  have hfr := FrU.new w F O f.p f.tm ⟨20, tk, cpu, a, b⟩ #[.slice none 0 0, .int .u64 0, .int .u64 0, .int .u64 0, .int .u64 0, .int .u64 0, .int .u64 0, .int .u64 0, .int .u64 0, .int .u64 0, .int .u64 0, .int .u64 0, .int .u64 0, .int .u64 0, .int .u64 0, .int .u64 0, .int .u64 0, .slice none 0 0, .int .i64 0] rfl
  obtain ⟨oF, oO⟩ := h.one
  have HH := Lib.hid h
  obtain ⟨R, hR⟩ : ∃ R, turnP f ps ⟨20, tk, cpu, a, b⟩ = R := ⟨_, rfl⟩
  have HR := Lib.hid hR
  rw [hR]
  clear h hR
  dsimp only at hfr
  go_enter Tryd.func25, Tryd.ntmps25
  go_upto_region 1 with fail
  generalize ((w.alloc (.cells (flL F O f.p f.tm).toArray 30)).alloc (.cells #[.int .i64 20, .int .i64 tk, .int .i64 cpu, .int .i64 a, .int .i64 b] 36)).alloc (.cells #[.slice none 0 0, .int .u64 0, .int .u64 0, .int .u64 0, .int .u64 0, .int .u64 0, .int .u64 0, .int .u64 0, .int .u64 0, .int .u64 0, .int .u64 0, .int .u64 0, .int .u64 0, .int .u64 0, .int .u64 0, .int .u64 0, .int .u64 0, .slice none 0 0, .int .i64 0] 30) = W at *
  obtain ⟨e0, e1, e2, e3, e4⟩ := hfr.ev
  dsimp only at e0 e1 e2 e3 e4
  obtain ⟨old, hbr, hold⟩ := hfr.br
  have HBR := Lib.hid hbr; have HBF := Lib.hid hfr.bf; have HOL := Lib.hid hold; have HB := Lib.hid hfr.bl
  have HLT : Hid (∀ k, OwnB F O k → k < w.heap.size) := fun k hk => (HH.out.lt hk).2
  have HO := Lib.hid (HH.out.below hfr.bl)
  clear hbr hold hfr
  have e : R = some f := HR.out ▸ rfl
  subst e
  clear HR
  go_wp2_with (first
    | (with_reducible (show wpList _ _ _ _ _ _); refine ld_flat rfl (.tmp 3) rfl w.heap.size rfl HBF.out ?_)
    | (with_reducible (show wpList _ _ _ _ _ _); refine st_flat rfl (.tmp 6) (.tmp 15) rfl (w.heap.size + 1 + 1) rfl rfl oF oO old HBR.out HOL.out ?_))
  refine ret_flat2 rfl (w.heap.size + 1 + 1) rfl (BF.row HBR.out) rfl ?_
  exact FlG.stored (R := some f) HH.out HB.out HO.out (But.refl _ _) (fun k hk => .inl hk) (by omega) HBR.out.lt
set_option maxHeartbeats 4000000 in
theorem turn_1 {w : World} {B : Nat} {F O : Value} {f : Fl} {PA : Option Addr} {ps : List PR} (h : OwnF w B F O f.ts f.ow) (pcap : Nat) (tk cpu a b : Int) (hl : f.ts.length ≤ 1000) (hBw : B ≤ w.heap.size) :
    Calls Tryd.prog 25 #[flV F O f.p f.tm, .slice PA ps.length pcap, evV ⟨1, tk, cpu, a, b⟩] w (FlG w B F O f (turnP f ps ⟨1, tk, cpu, a, b⟩)) := by
  have hfr := FrU.new w F O f.p f.tm ⟨1, tk, cpu, a, b⟩ #[.slice none 0 0, .int .u64 0, .int .u64 0, .int .u64 0, .int .u64 0, .int .u64 0, .int .u64 0, .int .u64 0, .int .u64 0, .int .u64 0, .int .u64 0, .int .u64 0, .int .u64 0, .int .u64 0, .int .u64 0, .int .u64 0, .int .u64 0, .slice none 0 0, .int .i64 0] rfl
  obtain ⟨oF, oO⟩ := h.one
  have HH := Lib.hid h
  obtain ⟨R, hR⟩ : ∃ R, turnP f ps ⟨1, tk, cpu, a, b⟩ = R := ⟨_, rfl⟩
  have HR := Lib.hid hR
  rw [hR]
  clear h hR
  dsimp only at hfr
  go_enter Tryd.func25, Tryd.ntmps25
  go_upto_region 1 with fail
  generalize ((w.alloc (.cells (flL F O f.p f.tm).toArray 30)).alloc (.cells #[.int .i64 1, .int .i64 tk, .int .i64 cpu, .int .i64 a, .int .i64 b] 36)).alloc (.cells #[.slice none 0 0, .int .u64 0, .int .u64 0, .int .u64 0, .int .u64 0, .int .u64 0, .int .u64 0, .int .u64 0, .int .u64 0, .int .u64 0, .int .u64 0, .int .u64 0, .int .u64 0, .int .u64 0, .int .u64 0, .int .u64 0, .int .u64 0, .slice none 0 0, .int .i64 0] 30) = W at *
  obtain ⟨e0, e1, e2, e3, e4⟩ := hfr.ev
  dsimp only at e0 e1 e2 e3 e4
  obtain ⟨old, hbr, hold⟩ := hfr.br
  have HBR := Lib.hid hbr; have HBF := Lib.hid hfr.bf; have HOL := Lib.hid hold; have HB := Lib.hid hfr.bl
  have HLT : Hid (∀ k, OwnB F O k → k < w.heap.size) := fun k hk => (HH.out.lt hk).2
  have HO := Lib.hid (HH.out.below hfr.bl)
  clear hbr hold hfr
  have hC : Calls Tryd.prog 37 #[flV F O f.p f.tm, .slice PA ps.length pcap, .int .i64 tk, .int .i64 a] W (FlG W B F O f R) := by
    rw [← HR.out]
    have hBW : B ≤ W.heap.size := Nat.le_trans hBw HB.out.size
    show Calls _ _ _ _ (FlG W B F O f (if tk = (f.ts.length : Int) ∧ 0 ≤ a ∧ a < (ps.length : Int) then some { f with ts := f.ts ++ [FT.new a] } else none))
    by_cases q : tk = (f.ts.length : Int) ∧ 0 ≤ a ∧ a < (ps.length : Int)
    · rw [if_pos q]; exact add_yes HO.out PA ps.length pcap tk a hl hBW q
    · rw [if_neg q]; exact add_no HO.out PA ps.length pcap tk a q
  have HC := Lib.hid hC
  clear hC HR
  go_wp2_with (first
    | (with_reducible (show wpList _ _ _ _ _ _); refine ld_flat rfl (.tmp 3) rfl w.heap.size rfl HBF.out ?_)
    | (go_at_call 37; (with_reducible refine HC.out.mono ?_); rintro e w3 ⟨F', rfl, h3, hb3, hk3⟩; have H3 := Lib.hid h3; have HB3 := Lib.hid hb3; have HK3 := Lib.hid hk3; have HBR3 := Lib.hid (Blk.but HBR.out hb3 fun q => by have := HLT.out _ q; omega); obtain ⟨oF', -⟩ := h3.one; clear h3 hb3 hk3)
    | (with_reducible (show wpList _ _ _ _ _ _); refine st_flat rfl (.tmp 6) (.tmp 25) rfl (w.heap.size + 1 + 1) rfl rfl oF' oO old HBR3.out HOL.out ?_))
  refine ret_flat2 rfl (w.heap.size + 1 + 1) rfl (BF.row HBR3.out) rfl ?_
  exact FlG.stored HH.out HB.out H3.out HB3.out HK3.out (by omega) HBR.out.lt
set_option maxHeartbeats 4000000 in
theorem turn_14 {w : World} {B : Nat} {F O : Value} {f : Fl} {PA : Option Addr} {ps : List PR} (h : OwnF w B F O f.ts f.ow) (pcap : Nat) (tk cpu a b : Int) :
    Calls Tryd.prog 25 #[flV F O f.p f.tm, .slice PA ps.length pcap, evV ⟨14, tk, cpu, a, b⟩] w (FlG w B F O f (turnP f ps ⟨14, tk, cpu, a, b⟩)) := by
  have hfr := FrU.new w F O f.p f.tm ⟨14, tk, cpu, a, b⟩ #[.slice none 0 0, .int .u64 0, .int .u64 0, .int .u64 0, .int .u64 0, .int .u64 0, .int .u64 0, .int .u64 0, .int .u64 0, .int .u64 0, .int .u64 0, .int .u64 0, .int .u64 0, .int .u64 0, .int .u64 0, .int .u64 0, .int .u64 0, .slice none 0 0, .int .i64 0] rfl
  obtain ⟨oF, oO⟩ := h.one
  have HH := Lib.hid h
  obtain ⟨R, hR⟩ : ∃ R, turnP f ps ⟨14, tk, cpu, a, b⟩ = R := ⟨_, rfl⟩
  have HR := Lib.hid hR
  rw [hR]
  clear h hR
  dsimp only at hfr
  go_enter Tryd.func25, Tryd.ntmps25
  go_upto_region 1 with fail
  generalize ((w.alloc (.cells (flL F O f.p f.tm).toArray 30)).alloc (.cells #[.int .i64 14, .int .i64 tk, .int .i64 cpu, .int .i64 a, .int .i64 b] 36)).alloc (.cells #[.slice none 0 0, .int .u64 0, .int .u64 0, .int .u64 0, .int .u64 0, .int .u64 0, .int .u64 0, .int .u64 0, .int .u64 0, .int .u64 0, .int .u64 0, .int .u64 0, .int .u64 0, .int .u64 0, .int .u64 0, .int .u64 0, .int .u64 0, .slice none 0 0, .int .i64 0] 30) = W at *
  obtain ⟨e0, e1, e2, e3, e4⟩ := hfr.ev
  dsimp only at e0 e1 e2 e3 e4
  obtain ⟨old, hbr, hold⟩ := hfr.br
  have HBR := Lib.hid hbr; have HBF := Lib.hid hfr.bf; have HOL := Lib.hid hold; have HB := Lib.hid hfr.bl
  have HLT : Hid (∀ k, OwnB F O k → k < w.heap.size) := fun k hk => (HH.out.lt hk).2
  have HO := Lib.hid (HH.out.below hfr.bl)
  clear hbr hold hfr
  have hC : Calls Tryd.prog 38 #[flV F O f.p f.tm, .int .i64 cpu] W (FlG W B F O f R) := by
    rw [← HR.out]
    exact come_any HO.out cpu
  have HC := Lib.hid hC
  clear hC HR
  go_wp2_with (first
    | (with_reducible (show wpList _ _ _ _ _ _); refine ld_flat rfl (.tmp 3) rfl w.heap.size rfl HBF.out ?_)
    | (go_at_call 38; (with_reducible refine HC.out.mono ?_); rintro e w3 ⟨F', rfl, h3, hb3, hk3⟩; have H3 := Lib.hid h3; have HB3 := Lib.hid hb3; have HK3 := Lib.hid hk3; have HBR3 := Lib.hid (Blk.but HBR.out hb3 fun q => by have := HLT.out _ q; omega); obtain ⟨oF', -⟩ := h3.one; clear h3 hb3 hk3)
    | (with_reducible (show wpList _ _ _ _ _ _); refine st_flat rfl (.tmp 6) (.tmp 33) rfl (w.heap.size + 1 + 1) rfl rfl oF' oO old HBR3.out HOL.out ?_))
  refine ret_flat2 rfl (w.heap.size + 1 + 1) rfl (BF.row HBR3.out) rfl ?_
  exact FlG.stored HH.out HB.out H3.out HB3.out HK3.out (by omega) HBR.out.lt
set_option maxHeartbeats 4000000 in
theorem turn_15 {w : World} {B : Nat} {F O : Value} {f : Fl} {PA : Option Addr} {ps : List PR} (h : OwnF w B F O f.ts f.ow) (pcap : Nat) (tk cpu a b : Int) (hl : f.ts.length ≤ 1000) :
    Calls Tryd.prog 25 #[flV F O f.p f.tm, .slice PA ps.length pcap, evV ⟨15, tk, cpu, a, b⟩] w (FlG w B F O f (turnP f ps ⟨15, tk, cpu, a, b⟩)) := by
  have hfr := FrU.new w F O f.p f.tm ⟨15, tk, cpu, a, b⟩ #[.slice none 0 0, .int .u64 0, .int .u64 0, .int .u64 0, .int .u64 0, .int .u64 0, .int .u64 0, .int .u64 0, .int .u64 0, .int .u64 0, .int .u64 0, .int .u64 0, .int .u64 0, .int .u64 0, .int .u64 0, .int .u64 0, .int .u64 0, .slice none 0 0, .int .i64 0] rfl
  obtain ⟨oF, oO⟩ := h.one
  have HH := Lib.hid h
  obtain ⟨R, hR⟩ : ∃ R, turnP f ps ⟨15, tk, cpu, a, b⟩ = R := ⟨_, rfl⟩
  have HR := Lib.hid hR
  rw [hR]
  clear h hR
  dsimp only at hfr
  go_enter Tryd.func25, Tryd.ntmps25
  go_upto_region 1 with fail
  generalize ((w.alloc (.cells (flL F O f.p f.tm).toArray 30)).alloc (.cells #[.int .i64 15, .int .i64 tk, .int .i64 cpu, .int .i64 a, .int .i64 b] 36)).alloc (.cells #[.slice none 0 0, .int .u64 0, .int .u64 0, .int .u64 0, .int .u64 0, .int .u64 0, .int .u64 0, .int .u64 0, .int .u64 0, .int .u64 0, .int .u64 0, .int .u64 0, .int .u64 0, .int .u64 0, .int .u64 0, .int .u64 0, .int .u64 0, .slice none 0 0, .int .i64 0] 30) = W at *
  obtain ⟨e0, e1, e2, e3, e4⟩ := hfr.ev
  dsimp only at e0 e1 e2 e3 e4
  obtain ⟨old, hbr, hold⟩ := hfr.br
  have HBR := Lib.hid hbr; have HBF := Lib.hid hfr.bf; have HOL := Lib.hid hold; have HB := Lib.hid hfr.bl
  have HLT : Hid (∀ k, OwnB F O k → k < w.heap.size) := fun k hk => (HH.out.lt hk).2
  have HO := Lib.hid (HH.out.below hfr.bl)
  clear hbr hold hfr
  have hC : Calls Tryd.prog 39 #[flV F O f.p f.tm, .int .i64 cpu] W (FlG W B F O f R) := by
    rw [← HR.out]
    exact leave_any HO.out cpu hl
  have HC := Lib.hid hC
  clear hC HR
  go_wp2_with (first
    | (with_reducible (show wpList _ _ _ _ _ _); refine ld_flat rfl (.tmp 3) rfl w.heap.size rfl HBF.out ?_)
    | (go_at_call 39; (with_reducible refine HC.out.mono ?_); rintro e w3 ⟨F', rfl, h3, hb3, hk3⟩; have H3 := Lib.hid h3; have HB3 := Lib.hid hb3; have HK3 := Lib.hid hk3; have HBR3 := Lib.hid (Blk.but HBR.out hb3 fun q => by have := HLT.out _ q; omega); obtain ⟨oF', -⟩ := h3.one; clear h3 hb3 hk3)
    | (with_reducible (show wpList _ _ _ _ _ _); refine st_flat rfl (.tmp 6) (.tmp 41) rfl (w.heap.size + 1 + 1) rfl rfl oF' oO old HBR3.out HOL.out ?_))
  refine ret_flat2 rfl (w.heap.size + 1 + 1) rfl (BF.row HBR3.out) rfl ?_
  exact FlG.stored HH.out HB.out H3.out HB3.out HK3.out (by omega) HBR.out.lt
set_option maxHeartbeats 4000000 in
theorem turn_16 {w : World} {B : Nat} {F O : Value} {f : Fl} {PA : Option Addr} {ps : List PR} (h : OwnF w B F O f.ts f.ow) (pcap : Nat) (tk cpu a b : Int) (ht : In64F f.tm) (ha : In64F a) :
    Calls Tryd.prog 25 #[flV F O f.p f.tm, .slice PA ps.length pcap, evV ⟨16, tk, cpu, a, b⟩] w (FlG w B F O f (turnP f ps ⟨16, tk, cpu, a, b⟩)) := by
  have hfr := FrU.new w F O f.p f.tm ⟨16, tk, cpu, a, b⟩ #[.slice none 0 0, .int .u64 0, .int .u64 0, .int .u64 0, .int .u64 0, .int .u64 0, .int .u64 0, .int .u64 0, .int .u64 0, .int .u64 0, .int .u64 0, .int .u64 0, .int .u64 0, .int .u64 0, .int .u64 0, .int .u64 0, .int .u64 0, .slice none 0 0, .int .i64 0] rfl
  obtain ⟨oF, oO⟩ := h.one
  have HH := Lib.hid h
  obtain ⟨R, hR⟩ : ∃ R, turnP f ps ⟨16, tk, cpu, a, b⟩ = R := ⟨_, rfl⟩
  have HR := Lib.hid hR
  rw [hR]
  clear h hR
  dsimp only at hfr
  go_enter Tryd.func25, Tryd.ntmps25
  go_upto_region 1 with fail
  generalize ((w.alloc (.cells (flL F O f.p f.tm).toArray 30)).alloc (.cells #[.int .i64 16, .int .i64 tk, .int .i64 cpu, .int .i64 a, .int .i64 b] 36)).alloc (.cells #[.slice none 0 0, .int .u64 0, .int .u64 0, .int .u64 0, .int .u64 0, .int .u64 0, .int .u64 0, .int .u64 0, .int .u64 0, .int .u64 0, .int .u64 0, .int .u64 0, .int .u64 0, .int .u64 0, .int .u64 0, .int .u64 0, .int .u64 0, .slice none 0 0, .int .i64 0] 30) = W at *
  obtain ⟨e0, e1, e2, e3, e4⟩ := hfr.ev
  dsimp only at e0 e1 e2 e3 e4
  obtain ⟨old, hbr, hold⟩ := hfr.br
  have HBR := Lib.hid hbr; have HBF := Lib.hid hfr.bf; have HOL := Lib.hid hold; have HB := Lib.hid hfr.bl
  have HLT : Hid (∀ k, OwnB F O k → k < w.heap.size) := fun k hk => (HH.out.lt hk).2
  have HO := Lib.hid (HH.out.below hfr.bl)
  clear hbr hold hfr
  have hC : Calls Tryd.prog 40 #[flV F O f.p f.tm, .int .i64 a] W (FlG W B F O f R) := by
    rw [← HR.out]
    exact tick_any HO.out a ht ha
  have HC := Lib.hid hC
  clear hC HR
  go_wp2_with (first
    | (with_reducible (show wpList _ _ _ _ _ _); refine ld_flat rfl (.tmp 3) rfl w.heap.size rfl HBF.out ?_)
    | (go_at_call 40; (with_reducible refine HC.out.mono ?_); rintro e w3 ⟨F', rfl, h3, hb3, hk3⟩; have H3 := Lib.hid h3; have HB3 := Lib.hid hb3; have HK3 := Lib.hid hk3; have HBR3 := Lib.hid (Blk.but HBR.out hb3 fun q => by have := HLT.out _ q; omega); obtain ⟨oF', -⟩ := h3.one; clear h3 hb3 hk3)
    | (with_reducible (show wpList _ _ _ _ _ _); refine st_flat rfl (.tmp 6) (.tmp 49) rfl (w.heap.size + 1 + 1) rfl rfl oF' oO old HBR3.out HOL.out ?_))
  refine ret_flat2 rfl (w.heap.size + 1 + 1) rfl (BF.row HBR3.out) rfl ?_
  exact FlG.stored HH.out HB.out H3.out HB3.out HK3.out (by omega) HBR.out.lt
end Go.Proofs.YtilaalleiiakoaaDoor
