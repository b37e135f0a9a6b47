/- An instruction is done (layer 19). -/
import Derived.Test.YtilaalleiiakoaaDoorKc
namespace Go.Proofs.YtilaalleiiakoaaDoor
open Go.RowKit
set_option maxRecDepth 100000

section
variable {w : World} {B g cap : Nat} {O : Value} {ts : List FT} {ow : List Int} {i : Nat} {x : FT} {PA : Option Addr} {ps : List PR}
set_option maxHeartbeats 2000000 in
theorem do_no (h : OwnF w B (.slice (some ⟨g, 0, none⟩) ts.length cap) O ts ow) (hx : ts[i]? = some x) (pcap : Nat) (hG : Gnd w B PA ps) (op pc : Int) (hn : insP ps x op pc = none) :
    Calls Tryd.prog 54 #[.pointer (some ⟨g, i * 8, none⟩), .slice PA ps.length pcap, .int .i64 op, .int .i64 pc] w (GotB w.heap.size (.bool false) w) := by
  obtain ⟨c0, c1, -, -, -, -, -, -⟩ := task_cells (h.cells hx)
  have HN := Lib.hid hn; have HG := Lib.hid hG
  have HB := Lib.hid (Below.refl w.heap.size w)
  clear h hx hn hG
  obtain ⟨pg, xpc, r, st, on⟩ := x
  dsimp only at c0 c1
  by_cases h0 : pg < 0
  · have t0 : decide (pg < 0) = true := by simpa using h0
    go_enter Tryd.func54, Tryd.ntmps54
    go_wp2_with fail
    go_ret
    exact ⟨rfl, HB.out⟩
  · have t0 : decide (pg < 0) = false := by simpa using h0
    by_cases h1 : (ps.length : Int) ≤ pg
    · have t1 : decide ((ps.length : Int) ≤ pg) = true := by simpa using h1
      go_enter Tryd.func54, Tryd.ntmps54
      go_wp2_with fail
      go_ret
      exact ⟨rfl, HB.out⟩
    · have t1 : decide ((ps.length : Int) ≤ pg) = false := by simpa using h1
      by_cases h2 : pc = xpc
      · subst h2
        have t2 : (pc != pc) = false := by simp
        obtain ⟨k, rfl⟩ := Int.eq_ofNat_of_zero_le (show 0 ≤ pg by omega)
        obtain ⟨q, hq⟩ : ∃ q, ps[k]? = some q := ⟨_, List.getElem?_eq_getElem (by omega)⟩
        have hn := HN.out
        unfold insP at hn
        dsimp only at hn
        obtain ⟨pb, off, rfl, hpb, d0, d1, hI, -⟩ := HG.out.ps k q hq
        rw [show ((k : Int)).toNat = k by omega, hq] at hn
        have HQ := Lib.hid hq; have HI := Lib.hid hI
        have k0 : (0 : Int) ≤ (k : Int) := by omega
        have k1 : (k : Int) < (ps.length : Int) := by omega
        obtain ⟨prio, A, l, cp⟩ := q
        dsimp only at hn d0 d1 HI
        have hb1 : Below w.heap.size w (w.alloc (.cells #[.int .i64 prio, .slice A l.length cp] 53)) := (Below.refl _ _).alloc (Nat.le_refl _) _
        have HB1 := Lib.hid hb1
        clear hq hI hb1
        by_cases h3 : pc < 0
        · have t3 : decide (pc < 0) = true := by simpa using h3
          clear hn
          generalize ps.length = N at *
          generalize l.length = M at *
          go_enter Tryd.func54, Tryd.ntmps54
          go_wp2_with fail
          go_ret
          exact ⟨rfl, HB1.out⟩
        · have t3 : decide (pc < 0) = false := by simpa using h3
          rw [if_pos ⟨k0, rfl, by omega⟩] at hn
          by_cases h4 : (l.length : Int) ≤ pc
          · have t4 : decide ((l.length : Int) ≤ pc) = true := by simpa using h4
            clear hn
            generalize ps.length = N at *
            generalize l.length = M at *
            go_enter Tryd.func54, Tryd.ntmps54
            go_wp2_with fail
            go_ret
            exact ⟨rfl, HB1.out⟩
          · have t4 : decide ((l.length : Int) ≤ pc) = false := by simpa using h4
            obtain ⟨j, rfl⟩ := Int.eq_ofNat_of_zero_le (show 0 ≤ pc by omega)
            obtain ⟨z, hz⟩ : ∃ z, l[j]? = some z := ⟨_, List.getElem?_eq_getElem (by omega)⟩
            rw [show ((j : Int)).toNat = j by omega, hz] at hn
            obtain ⟨ft, bb, of2, rfl, hbb, e0, -, -, -⟩ := (HI.out.below HB1.out) j z hz
            have hzo : z.op ≠ op := fun e => by rw [if_pos (by simp [e])] at hn; cases hn
            have t5 : (z.op != op) = true := by simpa using hzo
            have j0 : (0 : Int) ≤ (j : Int) := by omega
            have j1 : (j : Int) < (l.length : Int) := by omega
            clear hn hz ft hbb hzo
            generalize z.op = zo at *
            generalize ps.length = N at *
            generalize l.length = M at *
            go_enter Tryd.func54, Tryd.ntmps54
            go_wp2_with fail
            go_ret
            exact ⟨rfl, HB1.out⟩
      · have t2 : (pc != xpc) = true := by simpa using h2
        generalize ps.length = N at *
        go_enter Tryd.func54, Tryd.ntmps54
        go_wp2_with fail
        go_ret
        exact ⟨rfl, HB.out⟩
set_option maxHeartbeats 2000000 in
theorem do_yes (h : OwnF w B (.slice (some ⟨g, 0, none⟩) ts.length cap) O ts ow) (hx : ts[i]? = some x) (pcap : Nat) (hG : Gnd w B PA ps) (op pc : Int) (q : PR) (hs : insP ps x op pc = some q) :
    Calls Tryd.prog 54 #[.pointer (some ⟨g, i * 8, none⟩), .slice PA ps.length pcap, .int .i64 op, .int .i64 pc] w (TaskG w B g cap O ts ow i (some { x with pc := (stepF q.prio q.l pc x.r).pc, r := (stepF q.prio q.l pc x.r).r })) := by
  have hG' := hG
  have hxx := hx
  have hk : 0 ≤ x.pg ∧ pc = x.pc ∧ 0 ≤ pc ∧ ps[x.pg.toNat]? = some q ∧ ∃ z, q.l[pc.toNat]? = some z ∧ z.op = op := by
    unfold insP at hs
    split at hs
    · rename_i hc
      split at hs
      · rename_i q' hq'
        split at hs
        · rename_i hz
          obtain rfl := Option.some.inj hs
          obtain ⟨z, hz1, hz2⟩ := Option.map_eq_some_iff.1 hz
          exact ⟨hc.1, hc.2.1, hc.2.2, hq', z, hz1, hz2⟩
        · cases hs
      · cases hs
    · cases hs
  obtain ⟨c0, c1, c2, c3, c4, c5, -, -⟩ := task_cells (h.cells hx)
  have f1 := h.free (i * 8 + 1); have f2 := h.free (i * 8 + 2); have f3 := h.free (i * 8 + 3); have f4 := h.free (i * 8 + 4); have f5 := h.free (i * 8 + 5)
  have HH := Lib.hid h; have HX := Lib.hid hxx
  clear h hx hs
  obtain ⟨pg, xpc, ⟨ra, rb, rc, rd⟩, st, on⟩ := x
  dsimp only at c0 c1 c2 c3 c4 c5 hk
  obtain ⟨p0, rfl, p1, hq, z, hz, rfl⟩ := hk
  obtain ⟨k, rfl⟩ := Int.eq_ofNat_of_zero_le p0
  obtain ⟨j, rfl⟩ := Int.eq_ofNat_of_zero_le p1
  rw [show ((k : Int)).toNat = k by omega] at hq
  rw [show ((j : Int)).toNat = j by omega] at hz
  have hkl := (List.getElem?_eq_some_iff.1 hq).1
  have hjl := (List.getElem?_eq_some_iff.1 hz).1
  obtain ⟨pb, off, rfl, hpb, d0, d1, hI, hA⟩ := hG.ps k q hq
  obtain ⟨prio, A, l, cp⟩ := q
  dsimp only at hz hjl d0 d1 hI hA ⊢
  have hb1 : Below w.heap.size w (w.alloc (.cells #[.int .i64 prio, .slice A l.length cp] 53)) := (Below.refl _ _).alloc (Nat.le_refl _) _
  obtain ⟨ft, bb, of2, rfl, hbb, e0, -, -, -⟩ := (hI.below hb1) j z hz
  have HST : Hid (∀ W, Below w.heap.size w W → Calls Tryd.prog 60 #[.agg #[.int .i64 prio, .slice (some ⟨bb, of2, none⟩) l.length cp], .int .i64 j, regV ⟨ra, rb, rc, rd⟩] W (StepG (stepF prio l j ⟨ra, rb, rc, rd⟩) W)) := fun W hW => Step_any prio _ l cp j _ W (hG'.tabs.on hW) (hI.below hW)
  have HB1 := Lib.hid hb1
  have t0 : decide ((k : Int) < 0) = false := by simp
  have t1 : decide ((ps.length : Int) ≤ (k : Int)) = false := by simp; omega
  have t2 : ((j : Int) != (j : Int)) = false := by simp
  have t3 : decide ((j : Int) < 0) = false := by simp
  have t4 : decide ((l.length : Int) ≤ (j : Int)) = false := by simp; omega
  have t5 : (z.op != z.op) = false := by simp
  have k0 : (0 : Int) ≤ (k : Int) := by omega
  have k1 : (k : Int) < (ps.length : Int) := by omega
  have j0 : (0 : Int) ≤ (j : Int) := by omega
  have j1 : (j : Int) < (l.length : Int) := by omega
  have hg := (HH.out.lt (.inl rfl)).2
  have b2 := (HB1.out.cell (p := ⟨g, i * 8 + 2, none⟩) hg).trans c2
  have b3 := (HB1.out.cell (p := ⟨g, i * 8 + 3, none⟩) hg).trans c3
  have b4 := (HB1.out.cell (p := ⟨g, i * 8 + 4, none⟩) hg).trans c4
  have b5 := (HB1.out.cell (p := ⟨g, i * 8 + 5, none⟩) hg).trans c5
  obtain ⟨G, hG⟩ : ∃ G, stepF prio l j ⟨ra, rb, rc, rd⟩ = G := ⟨_, rfl⟩
  rw [hG] at HST ⊢
  clear ft hbb hz hq hI hA hG hG' hb1 hkl hjl p0 p1
  obtain ⟨gp, ⟨g0, g1, g2, g3⟩, ⟨go, gr, gn⟩⟩ := G
  generalize z.op = zo at *
  generalize ps.length = N at *
  generalize l.length = M at *
  go_enter Tryd.func54, Tryd.ntmps54
  go_upto_region 6 with fail
  clear t0 t1 t2 t3 t4 t5 c0 c1 c2 c3 c4 c5 f1 f2 f3 f4 f5 d0 d1 e0 k0 k1 j0 j1
  go_region_with (go_at_call 60; (with_reducible refine (HST.out _ HB1.out.drew).mono ?_); rintro e w4 ⟨rfl, h4⟩; have HB4 := Lib.hid (HB1.out.drew.trans (h4.mono HB1.out.size)); have HO4 := Lib.hid (HH.out.below HB4.out); obtain ⟨z0, z1, z2, z3, z4, z5, -, -⟩ := task_cells (HO4.out.cells HX.out); have f1 := HO4.out.free (i * 8 + 1); have f2 := HO4.out.free (i * 8 + 2); have f3 := HO4.out.free (i * 8 + 3); have f4 := HO4.out.free (i * 8 + 4); have f5 := HO4.out.free (i * 8 + 5); clear h4)
  all_goals
    go_wp2_with fail
    go_ret
    obtain ⟨k1, k2⟩ := HO4.out.step HX.out gp ⟨g0, g1, g2, g3⟩
    exact ⟨rfl, .inr ⟨_, rfl, k1, (But.of_below HB4.out).trans k2⟩⟩
theorem do_any (h : OwnF w B (.slice (some ⟨g, 0, none⟩) ts.length cap) O ts ow) (hx : ts[i]? = some x) (pcap : Nat) (hG : Gnd w B PA ps) (op pc : Int) :
    Calls Tryd.prog 54 #[.pointer (some ⟨g, i * 8, none⟩), .slice PA ps.length pcap, .int .i64 op, .int .i64 pc] w (TaskG w B g cap O ts ow i (doP ps x op pc)) := by
  unfold doP
  cases hq : insP ps x op pc with
  | none =>
    refine (do_no h hx pcap hG op pc hq).mono ?_
    rintro e w' ⟨rfl, hb⟩
    exact ⟨rfl, .inl ⟨rfl, hb⟩⟩
  | some q => exact do_yes h hx pcap hG op pc q hq
end

set_option maxRecDepth 100000

/-- The three boxes of an event's task. -/
structure Fro (w W : World) (F O : Value) (p : Nat → Bool) (t : Int) (e : EvP) (g a : Nat) : Prop where
  bl : Below w.heap.size w W
  bf : BF W w.heap.size F O p t
  be : Blk W (w.heap.size + 1) 36 #[.int .i64 e.kd, .int .i64 e.tk, .int .i64 e.cpu, .int .i64 e.a, .int .i64 e.b]
  bp : Blk W (w.heap.size + 2) 91 #[.pointer (some ⟨g, a, none⟩)]
section
variable {w W W' : World} {F O : Value} {p : Nat → Bool} {t : Int} {e : EvP} {g a : Nat}
theorem Fro.on (h : Fro w W F O p t e g a) (hb : Below W.heap.size W W') : Fro w W' F O p t e g a :=
  ⟨h.bl.trans (hb.mono h.bl.size), Blk.below h.bf hb (Blk.lt h.bf), h.be.below hb h.be.lt, h.bp.below hb h.bp.lt⟩
theorem Fro.drew (h : Fro w W F O p t e g a) : Fro w W.drew F O p t e g a := h.on ((Below.refl _ _).drew)
theorem Fro.ev (h : Fro w W F O p t e g a) : W.cell? ⟨w.heap.size + 1, 0, none⟩ = some (.int .i64 e.kd) ∧ W.cell? ⟨w.heap.size + 1, 1, none⟩ = some (.int .i64 e.tk) ∧ W.cell? ⟨w.heap.size + 1, 2, none⟩ = some (.int .i64 e.cpu) ∧ W.cell? ⟨w.heap.size + 1, 3, none⟩ = some (.int .i64 e.a) ∧ W.cell? ⟨w.heap.size + 1, 4, none⟩ = some (.int .i64 e.b) :=
  ⟨h.be.cell 0, h.be.cell 1, h.be.cell 2, h.be.cell 3, h.be.cell 4⟩
theorem Fro.new (w : World) (F O : Value) (p : Nat → Bool) (t : Int) (e : EvP) (g a : Nat) :
    Fro w (((w.alloc (.cells (flL F O p t).toArray 30)).alloc (.cells #[.int .i64 e.kd, .int .i64 e.tk, .int .i64 e.cpu, .int .i64 e.a, .int .i64 e.b] 36)).alloc (.cells #[.pointer (some ⟨g, a, none⟩)] 91)) F O p t e g a where
  bl := (((Below.refl _ _).alloc (Nat.le_refl _) _).alloc (by simp) _).alloc (by simp; omega) _
  bf := ((Blk.new w _ _).alloc _).alloc _
  be := by
    have := Blk.new (w.alloc (.cells (flL F O p t).toArray 30)) 36 #[.int .i64 e.kd, .int .i64 e.tk, .int .i64 e.cpu, .int .i64 e.a, .int .i64 e.b]
    refine Blk.alloc ?_ _
    simpa using this
  bp := by
    have := Blk.new ((w.alloc (.cells (flL F O p t).toArray 30)).alloc (.cells #[.int .i64 e.kd, .int .i64 e.tk, .int .i64 e.cpu, .int .i64 e.a, .int .i64 e.b] 36)) 91 #[.pointer (some ⟨g, a, none⟩)]
    simpa using this
end
section
variable {w w' W : World} {B g cap : Nat} {O : Value} {ts : List FT} {ow : List Int} {i : Nat} {R : Option FT} {e : Ending}
theorem TaskW.from (h : TaskW W B g cap O ts ow i R w') (hb : Below w.heap.size w W) : TaskW w B g cap O ts ow i R w' := by
  rcases h with ⟨a, c⟩ | ⟨y, a, c, d⟩
  · exact .inl ⟨a, hb.trans (c.mono hb.size)⟩
  · exact .inr ⟨y, a, c, (But.of_below hb).trans d⟩
theorem TaskG.from (h : TaskG W B g cap O ts ow i R e w') (hb : Below w.heap.size w W) : TaskG w B g cap O ts ow i R e w' := ⟨h.1, h.2.from hb⟩
end
end Go.Proofs.YtilaalleiiakoaaDoor
