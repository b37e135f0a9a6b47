/- The lock goes on: give (layer 14). -/
import Derived.Test.YtdomgipbadimmaaCv
import Derived.Test.YtdomgipbadimmaaCj
namespace Go.Proofs.Ytdomgipbadimmaa
open Go.RowKit
set_option maxRecDepth 100000

theorem run_load_intC (w : World) (p : Addr) (n : Int) (h : w.cell? p = some (.int .i64 n)) : (Instr.loadAt 3 (.pointer (some p))).run Try.prog w = .ok (.int .i64 n) w := by
  have hp := Try.underlying3
  have h2 : Try.prog.underlying 3 = some (.int .i64) := hp
  simp [Instr.loadAt, Instr.sureAddr, loadVar, isAgg, run_underlying hp, h, go_sem]
theorem step_load_intC {ops : Array Oper} {o : Oper} {a : Act} {w : World} {K : Act → World → Prop} {Q : Exit → Act → World → Prop} {E : Prop} (hg : o.guard = none) (x : Operand) (ho : o.op = .load 3 x)
    (p : Addr) (n : Int) (hx : a.eval x = .pointer (some p)) (hc : w.cell? p = some (.int .i64 n)) (hK : K (a.put o.dst (.int .i64 n)) w) : if Region.wanted o (yielded ops a.tmps) = true then Oper.wp Try.prog o a w K Q else E := by
  rw [if_pos (by simp [Region.wanted, hg])]
  have hr := run_load_intC w p n hc
  unfold Oper.wp execOp
  simp only [ho, hx, Sem.run_bind, Sem.run_pure, Result.andThen_ok, hr]
  exact hK
/-- What give gives. -/
def GiveP (c : Coh) (lb : Nat) (lab : Nat → LabC) (i : Nat) (cs : Array Value) (w : World) (e : Ending) (w' : World) : Prop :=
  e = .returned (.tuple #[.int .i64 (if goesC c = true then (giveC c).own else 0), .bool (goesC c)]) ∧ ∃ lab', TurnC lb lab lab' i (giveC c) cs w w'
theorem givep_yes {c d : Coh} {lb : Nat} {lab lab' : Nat → LabC} {i : Nat} {cs : Array Value} {w w' : World} {ow : Int} (hgo : goesC c = true) (hg : giveC c = d) (ho : d.own = ow) (h : TurnC lb lab lab' i d cs w w') : GiveP c lb lab i cs w (.returned (.tuple #[.int .i64 ow, .bool true])) w' := by
  unfold GiveP; rw [hgo, if_pos rfl, hg, ho]; exact ⟨rfl, lab', h⟩
theorem givep_no {c d : Coh} {lb : Nat} {lab lab' : Nat → LabC} {i : Nat} {cs : Array Value} {w w' : World} (hgo : goesC c = false) (hg : giveC c = d) (h : TurnC lb lab lab' i d cs w w') : GiveP c lb lab i cs w (.returned (.tuple #[.int .i64 0, .bool false])) w' := by
  unfold GiveP; rw [hgo, hg]; exact ⟨by simp, lab', h⟩
theorem nobody_turn {w W : World} {lb : Nat} {lab : Nat → LabC} {i : Nat} {c : Coh} {cs : Array Value} {rv : Value} (h : LockM W lb lab i c cs rv) (hb : Below w.heap.size w W) :
    TurnC lb lab lab i zCoh cs w ((((W.setCell ⟨lb, 4 * i, none⟩ (.int .i64 (-1))).setCell ⟨lb, 4 * i + 1, none⟩ (.int .i64 0)).setCell ⟨lb, 4 * i + 2, none⟩ (.int .i64 0)).setCell ⟨lb, 4 * i + 3, none⟩ (.slice none 0 0)) := by
  have hl := h.val.lt
  have hb2 : But (fun k => k = lb) W ((((W.setCell ⟨lb, 4 * i, none⟩ (.int .i64 (-1))).setCell ⟨lb, 4 * i + 1, none⟩ (.int .i64 0)).setCell ⟨lb, 4 * i + 2, none⟩ (.int .i64 0)).setCell ⟨lb, 4 * i + 3, none⟩ (.slice none 0 0)) :=
    ((((But.refl (fun k => k = lb) _).set ⟨lb, 4 * i, none⟩ _ (.inl rfl)).set ⟨lb, 4 * i + 1, none⟩ _ (.inl rfl)).set ⟨lb, 4 * i + 2, none⟩ _ (.inl rfl)).set ⟨lb, 4 * i + 3, none⟩ _ (.inl rfl)
  refine ⟨⟨_, .slice none 0 0, ⟨(((h.blk.set_ (4 * i) _).set_ (4 * i + 1) _).set_ (4 * i + 2) _).set_ (4 * i + 3) _, ⟨?_, ?_, ?_, ?_⟩, .inl ⟨rfl, rfl⟩, h.own, fun k q => h.fre k (Nat.le_trans hb2.size q)⟩,
    (((OutC.set_ (d := 0) (by omega) _).trans (OutC.set_ (d := 1) (by omega) _)).trans (OutC.set_ (d := 2) (by omega) _)).trans (OutC.set_ (d := 3) (by omega) _)⟩, (But.of_below hb).nob.trans (hb2.mono fun k _ q => .inl q), LabUp.refl _ _ _⟩
  · rw [Array.getElem?_setIfInBounds, if_neg (by omega), Array.getElem?_setIfInBounds, if_neg (by omega), Array.getElem?_setIfInBounds, if_neg (by omega), Array.getElem?_setIfInBounds, if_pos rfl, if_pos (by omega)]; rfl
  · rw [Array.getElem?_setIfInBounds, if_neg (by omega), Array.getElem?_setIfInBounds, if_neg (by omega), Array.getElem?_setIfInBounds, if_pos rfl, if_pos (by simp; omega)]; rfl
  · rw [Array.getElem?_setIfInBounds, if_neg (by omega), Array.getElem?_setIfInBounds, if_pos rfl, if_pos (by simp; omega)]; rfl
  · rw [Array.getElem?_setIfInBounds, if_pos rfl, if_pos (by simp; omega)]
theorem lockV_pas {cs : Array Value} {i : Nat} {c : Coh} {rv : Value} (h : LockV cs i c rv) : LockV (cs.setIfInBounds (4 * i + 2) (.int .i64 (c.pas + 1))) i { c with pas := c.pas + 1 } rv := by
  have hl := h.lt
  refine ⟨?_, ?_, ?_, ?_⟩
  · rw [Array.getElem?_setIfInBounds, if_neg (by omega)]; exact h.c0
  · rw [Array.getElem?_setIfInBounds, if_neg (by omega)]; exact h.c1
  · rw [Array.getElem?_setIfInBounds, if_pos rfl, if_pos (by omega)]
  · rw [Array.getElem?_setIfInBounds, if_neg (by omega)]; exact h.c3
section
variable {w : World} {lb : Nat} {lab : Nat → LabC} {i : Nat} {c : Coh} {cs : Array Value} {rv : Value}
set_option maxHeartbeats 8000000 in
theorem give_any (h : LockM w lb lab i c cs rv) (hok : CohOk c) (hp : c.pas ≤ 1000) (hl : c.rnd.length ≤ 900) (hm : ∀ r ∈ c.rnd, r.2.length ≤ 900) :
    Calls Try.prog 48 #[.pointer (some ⟨lb, 4 * i, none⟩)] w (GiveP c lb lab i cs w) := by
  obtain ⟨c0, c1, c2, c3⟩ := h.cell
  have H := Lib.hid h; have HOK := Lib.hid hok; have HMM := Lib.hid hm; have C1 := Lib.hid c1
  clear h hok hm c0 c1 c2 c3
  go_enter Try.func48, Try.ntmps48
  go_upto_region 1 with fail
  obtain ⟨I1, hI1⟩ : ∃ I, ownI c = I := ⟨_, rfl⟩
  obtain ⟨I2, hI2⟩ : ∃ I, othI c = I := ⟨_, rfl⟩
  have HI1 := Lib.hid hI1; have HI2 := Lib.hid hI2
  have HF1 : Hid (∀ W q, Below w.heap.size w W → W.cell? ⟨q, 0, none⟩ = some (.int .i64 c.soc) → Calls Try.prog 45 #[.pointer (some ⟨lb, 4 * i, none⟩), fOf q] W fun e w' => e = .returned (.int .i64 I1) ∧ Below W.heap.size W w') := fun W q hW hq => by rw [← hI1]; exact find_of c.soc (by omega) (H.out.below hW) q hq
  have HF2 : Hid (∀ W q q0, Below w.heap.size w W → W.cell? ⟨q, 0, none⟩ = some (fOf q0) → W.cell? ⟨q0, 0, none⟩ = some (.int .i64 c.soc) → Calls Try.prog 45 #[.pointer (some ⟨lb, 4 * i, none⟩), fNot q] W fun e w' => e = .returned (.int .i64 I2) ∧ Below W.heap.size W w') := fun W q q0 hW hq hq0 => by rw [← hI2]; exact find_not c.soc (by omega) (H.out.below hW) q q0 hq hq0
  clear hI1 hI2
  obtain ⟨AV, hAV⟩ : ∃ f : (Nat → Value) → Act, f = fun q => { tmps := #[.pointer (some ⟨lb, 4 * i, none⟩), undef, .int .i64 0, .bool false, (q 4), (q 5), (q 6), (q 7), (q 8), (q 9), (q 10), (q 11), (q 12), (q 13), (q 14), (q 15), (q 16), (q 17), (q 18), (q 19), (q 20), undef, undef, undef, undef, undef, undef, undef, undef, undef, undef, undef, undef, undef, undef, undef, undef, undef, undef, undef, undef, undef, undef, undef, undef, undef, undef, undef, undef, undef, undef, undef, undef, undef, undef, undef, undef, undef], defers := [] } := ⟨_, rfl⟩
  obtain ⟨val, hval⟩ : ∃ f : Nat → Value, f = fun o => [(.pointer (some ⟨lb, 4 * i, none⟩) : Value), (.pointer (some ⟨lb, 4 * i, none⟩) : Value), (.pointer (some ⟨lb, 4 * i, none⟩) : Value), (.pointer (some ⟨lb, 4 * i + 1, none⟩) : Value), (.int .i64 c.soc : Value), (undef : Value), (.int .i64 I1 : Value), (.pointer (some ⟨lb, 4 * i, none⟩) : Value), (.pointer (some ⟨lb, 4 * i, none⟩) : Value), (.pointer (some ⟨lb, 4 * i, none⟩) : Value), (.pointer (some ⟨lb, 4 * i + 1, none⟩) : Value), (.int .i64 c.soc : Value), (undef : Value), (undef : Value), (.int .i64 I2 : Value), (.int .i64 I1 : Value), (.int .i64 I2 : Value)].getD o undef := ⟨_, rfl⟩
  refine wp_region_steps2 (J := fun L aa W => ∃ q, aa = AV q ∧ JG val c.soc w L q W) (by kernel_rfl) ?_ ?_ ?_ (fun L aa W h => h.elim fun q h => h.2.sz) (by kernel_rfl)
  · exact ⟨fun _ => undef, by subst hAV; rfl, JG.start⟩
  · intro L aa W ⟨q, haa, hJ⟩ hcl ix o ho hi K' hK
    have hi17 : ix < 17 := ready_lt hi
    subst haa
    subst hval
    subst hAV
    rcases (by omega : ix = 0 ∨ ix = 1 ∨ ix = 2 ∨ ix = 3 ∨ ix = 4 ∨ ix = 5 ∨ ix = 6 ∨ ix = 7 ∨ ix = 8 ∨ ix = 9 ∨ ix = 10 ∨ ix = 11 ∨ ix = 12 ∨ ix = 13 ∨ ix = 14 ∨ ix = 15 ∨ ix = 16) with rfl | rfl | rfl | rfl | rfl | rfl | rfl | rfl | rfl | rfl | rfl | rfl | rfl | rfl | rfl | rfl | rfl
    · cases ho
      go_simp
      exact hK _ _ ⟨updV q 6 (.pointer (some ⟨lb, 4 * i, none⟩) : Value), by simp [updV], hJ.step (o := 0) (by omega) (.pointer (some ⟨lb, 4 * i, none⟩) : Value) (Below.refl _ _) (fun _ _ _ => rfl) (fun h => by cases h) (fun h => by cases h) (fun h => by cases h)⟩
    · cases ho
      go_simp
      exact hK _ _ ⟨updV q 7 (.pointer (some ⟨lb, 4 * i, none⟩) : Value), by simp [updV], hJ.step (o := 1) (by omega) (.pointer (some ⟨lb, 4 * i, none⟩) : Value) (Below.refl _ _) (fun _ _ _ => rfl) (fun h => by cases h) (fun h => by cases h) (fun h => by cases h)⟩
    · cases ho
      have e7 : q 7 = (.pointer (some ⟨lb, 4 * i, none⟩) : Value) := hJ.pv 1 (by omega) (by decide) (by decide) (by decide) (ready_dep hi 1 (by kernel_rfl))
      simp only [e7]
      go_simp
      exact hK _ _ ⟨updV q 8 (.pointer (some ⟨lb, 4 * i, none⟩) : Value), by simp [updV, e7], hJ.step (o := 2) (by omega) (.pointer (some ⟨lb, 4 * i, none⟩) : Value) (Below.refl _ _) (fun _ _ _ => rfl) (fun h => by cases h) (fun h => by cases h) (fun h => by cases h)⟩
    · cases ho
      have e8 : q 8 = (.pointer (some ⟨lb, 4 * i, none⟩) : Value) := hJ.pv 2 (by omega) (by decide) (by decide) (by decide) (ready_dep hi 2 (by kernel_rfl))
      simp only [e8]
      go_simp
      exact hK _ _ ⟨updV q 9 (.pointer (some ⟨lb, 4 * i + 1, none⟩) : Value), by simp [updV, e8], hJ.step (o := 3) (by omega) (.pointer (some ⟨lb, 4 * i + 1, none⟩) : Value) (Below.refl _ _) (fun _ _ _ => rfl) (fun h => by cases h) (fun h => by cases h) (fun h => by cases h)⟩
    · cases ho
      have e9 : q 9 = (.pointer (some ⟨lb, 4 * i + 1, none⟩) : Value) := hJ.pv 3 (by omega) (by decide) (by decide) (by decide) (ready_dep hi 3 (by kernel_rfl))
      have hc : W.cell? ⟨lb, 4 * i + 1, none⟩ = some (.int .i64 c.soc) := (hJ.bl.cell (p := ⟨lb, 4 * i + 1, none⟩) H.out.blk.lt).trans C1.out
      refine step_load_intC rfl _ rfl ⟨lb, 4 * i + 1, none⟩ c.soc (by simp [Act.eval, e9]) hc ?_
      exact hK _ _ ⟨updV q 10 (.int .i64 c.soc : Value), by simp [updV, Act.put, e9], hJ.step (o := 4) (by omega) (.int .i64 c.soc : Value) (Below.refl _ _) (fun _ _ _ => rfl) (fun h => by cases h) (fun h => by cases h) (fun h => by cases h)⟩
    · cases ho
      have e10 : q 10 = (.int .i64 c.soc : Value) := hJ.pv 4 (by omega) (by decide) (by decide) (by decide) (ready_dep hi 4 (by kernel_rfl))
      simp only [e10]
      go_simp
      refine (of_any c.soc W).mono ?_
      rintro e W' ⟨rfl, rfl⟩
      dsimp only
      exact hK _ _ ⟨updV q 11 (fOf W.heap.size), by simp [updV, e10], hJ.step (o := 5) (by omega) _ ((Below.refl _ _).alloc (Nat.le_refl _) _) (fun a b c => absurd rfl a) (fun _ => ⟨W.heap.size, rfl, (Blk.new W 3 #[.int .i64 c.soc]).cell 0⟩) (fun h => by cases h) (fun h => by cases h)⟩
    · cases ho
      have e6 : q 6 = (.pointer (some ⟨lb, 4 * i, none⟩) : Value) := hJ.pv 0 (by omega) (by decide) (by decide) (by decide) (ready_dep hi 0 (by kernel_rfl))
      obtain ⟨q0, e11, hq0⟩ := hJ.c5 (ready_dep hi 5 (by kernel_rfl))
      simp only [e6, e11]
      go_simp
      refine (HF1.out W q0 hJ.bl hq0).mono ?_
      rintro e W' ⟨rfl, hb⟩
      dsimp only
      exact hK _ _ ⟨updV q 12 (.int .i64 I1 : Value), by simp [updV, e6, e11], hJ.step (o := 6) (by omega) (.int .i64 I1 : Value) hb (fun _ _ _ => rfl) (fun h => by cases h) (fun h => by cases h) (fun h => by cases h)⟩
    · cases ho
      go_simp
      exact hK _ _ ⟨updV q 13 (.pointer (some ⟨lb, 4 * i, none⟩) : Value), by simp [updV], hJ.step (o := 7) (by omega) (.pointer (some ⟨lb, 4 * i, none⟩) : Value) (Below.refl _ _) (fun _ _ _ => rfl) (fun h => by cases h) (fun h => by cases h) (fun h => by cases h)⟩
    · cases ho
      go_simp
      exact hK _ _ ⟨updV q 14 (.pointer (some ⟨lb, 4 * i, none⟩) : Value), by simp [updV], hJ.step (o := 8) (by omega) (.pointer (some ⟨lb, 4 * i, none⟩) : Value) (Below.refl _ _) (fun _ _ _ => rfl) (fun h => by cases h) (fun h => by cases h) (fun h => by cases h)⟩
    · cases ho
      have e14 : q 14 = (.pointer (some ⟨lb, 4 * i, none⟩) : Value) := hJ.pv 8 (by omega) (by decide) (by decide) (by decide) (ready_dep hi 8 (by kernel_rfl))
      simp only [e14]
      go_simp
      exact hK _ _ ⟨updV q 15 (.pointer (some ⟨lb, 4 * i, none⟩) : Value), by simp [updV, e14], hJ.step (o := 9) (by omega) (.pointer (some ⟨lb, 4 * i, none⟩) : Value) (Below.refl _ _) (fun _ _ _ => rfl) (fun h => by cases h) (fun h => by cases h) (fun h => by cases h)⟩
    · cases ho
      have e15 : q 15 = (.pointer (some ⟨lb, 4 * i, none⟩) : Value) := hJ.pv 9 (by omega) (by decide) (by decide) (by decide) (ready_dep hi 9 (by kernel_rfl))
      simp only [e15]
      go_simp
      exact hK _ _ ⟨updV q 16 (.pointer (some ⟨lb, 4 * i + 1, none⟩) : Value), by simp [updV, e15], hJ.step (o := 10) (by omega) (.pointer (some ⟨lb, 4 * i + 1, none⟩) : Value) (Below.refl _ _) (fun _ _ _ => rfl) (fun h => by cases h) (fun h => by cases h) (fun h => by cases h)⟩
    · cases ho
      have e16 : q 16 = (.pointer (some ⟨lb, 4 * i + 1, none⟩) : Value) := hJ.pv 10 (by omega) (by decide) (by decide) (by decide) (ready_dep hi 10 (by kernel_rfl))
      have hc : W.cell? ⟨lb, 4 * i + 1, none⟩ = some (.int .i64 c.soc) := (hJ.bl.cell (p := ⟨lb, 4 * i + 1, none⟩) H.out.blk.lt).trans C1.out
      refine step_load_intC rfl _ rfl ⟨lb, 4 * i + 1, none⟩ c.soc (by simp [Act.eval, e16]) hc ?_
      exact hK _ _ ⟨updV q 17 (.int .i64 c.soc : Value), by simp [updV, Act.put, e16], hJ.step (o := 11) (by omega) (.int .i64 c.soc : Value) (Below.refl _ _) (fun _ _ _ => rfl) (fun h => by cases h) (fun h => by cases h) (fun h => by cases h)⟩
    · cases ho
      have e17 : q 17 = (.int .i64 c.soc : Value) := hJ.pv 11 (by omega) (by decide) (by decide) (by decide) (ready_dep hi 11 (by kernel_rfl))
      simp only [e17]
      go_simp
      refine (of_any c.soc W).mono ?_
      rintro e W' ⟨rfl, rfl⟩
      dsimp only
      exact hK _ _ ⟨updV q 18 (fOf W.heap.size), by simp [updV, e17], hJ.step (o := 12) (by omega) _ ((Below.refl _ _).alloc (Nat.le_refl _) _) (fun a b c => absurd rfl b) (fun h => by cases h) (fun _ => ⟨W.heap.size, rfl, (Blk.new W 3 #[.int .i64 c.soc]).cell 0⟩) (fun h => by cases h)⟩
    · cases ho
      obtain ⟨q0, e18, hq0⟩ := hJ.c12 (ready_dep hi 12 (by kernel_rfl))
      simp only [e18]
      go_simp
      refine (not_any q0 W).mono ?_
      rintro e W' ⟨rfl, rfl⟩
      dsimp only
      have hal : Below W.heap.size W (W.alloc (.cells #[fOf q0] 101)) := (Below.refl _ _).alloc (Nat.le_refl _) _
      exact hK _ _ ⟨updV q 19 (fNot W.heap.size), by simp [updV, e18], hJ.step (o := 13) (by omega) _ hal (fun a b c => absurd rfl c) (fun h => by cases h) (fun h => by cases h) (fun _ => ⟨W.heap.size, q0, rfl, (Blk.new W 101 #[fOf q0]).cell 0, keep_cell hal hq0⟩)⟩
    · cases ho
      have e13 : q 13 = (.pointer (some ⟨lb, 4 * i, none⟩) : Value) := hJ.pv 7 (by omega) (by decide) (by decide) (by decide) (ready_dep hi 7 (by kernel_rfl))
      obtain ⟨qq, q0, e19, hqq, hq0⟩ := hJ.c13 (ready_dep hi 13 (by kernel_rfl))
      simp only [e13, e19]
      go_simp
      refine (HF2.out W qq q0 hJ.bl hqq hq0).mono ?_
      rintro e W' ⟨rfl, hb⟩
      dsimp only
      exact hK _ _ ⟨updV q 20 (.int .i64 I2 : Value), by simp [updV, e13, e19], hJ.step (o := 14) (by omega) (.int .i64 I2 : Value) hb (fun _ _ _ => rfl) (fun h => by cases h) (fun h => by cases h) (fun h => by cases h)⟩
    · cases ho
      have e12 : q 12 = (.int .i64 I1 : Value) := hJ.pv 6 (by omega) (by decide) (by decide) (by decide) (ready_dep hi 6 (by kernel_rfl))
      simp only [e12]
      go_simp
      exact hK _ _ ⟨updV q 4 (.int .i64 I1 : Value), by simp [updV, e12], hJ.step (o := 15) (by omega) (.int .i64 I1 : Value) (Below.refl _ _) (fun _ _ _ => rfl) (fun h => by cases h) (fun h => by cases h) (fun h => by cases h)⟩
    · cases ho
      have e20 : q 20 = (.int .i64 I2 : Value) := hJ.pv 14 (by omega) (by decide) (by decide) (by decide) (ready_dep hi 14 (by kernel_rfl))
      simp only [e20]
      go_simp
      exact hK _ _ ⟨updV q 5 (.int .i64 I2 : Value), by simp [updV, e20], hJ.step (o := 16) (by omega) (.int .i64 I2 : Value) (Below.refl _ _) (fun _ _ _ => rfl) (fun h => by cases h) (fun h => by cases h) (fun h => by cases h)⟩
  · intro L aa W ⟨q, haa, hJ⟩ hall
    have e4 : q 4 = (.int .i64 I1 : Value) := by have := hJ.pv 15 (by omega) (by decide) (by decide) (by decide) (hall 15 (by show 15 < 17; omega)); subst hval; exact this
    have e5 : q 5 = (.int .i64 I2 : Value) := by have := hJ.pv 16 (by omega) (by decide) (by decide) (by decide) (hall 16 (by show 16 < 17; omega)); subst hval; exact this
    have hbl := hJ.bl
    subst haa
    subst hAV
    dsimp only
    rw [e4, e5]
    clear hJ hall e4 e5 HF1 HF2 hval
    generalize q 6 = q6 at *
    generalize q 7 = q7 at *
    generalize q 8 = q8 at *
    generalize q 9 = q9 at *
    generalize q 10 = q10 at *
    generalize q 11 = q11 at *
    generalize q 12 = q12 at *
    generalize q 13 = q13 at *
    generalize q 14 = q14 at *
    generalize q 15 = q15 at *
    generalize q 16 = q16 at *
    generalize q 17 = q17 at *
    generalize q 18 = q18 at *
    generalize q 19 = q19 at *
    generalize q 20 = q20 at *
    have HW := Lib.hid (H.out.below hbl)
    have HBL := Lib.hid hbl
    have c2 := HW.out.cell.2.2.1
    clear hbl
    have hlen : c.rnd.length ≤ 1000 := by omega
    have open_ : ∀ A r C, c.rnd = A ++ r :: C → ∃ s x ts, r = (s, x :: ts) ∧ ts.length ≤ 1000 := fun A r C e => by
      obtain ⟨s, ts⟩ := r
      have h1 := HOK.out.one (s, ts) (by rw [e]; simp)
      have h2 : ts.length ≤ 900 := HMM.out (s, ts) (by rw [e]; simp)
      cases ts with
      | nil => exact absurd rfl h1
      | cons x ts => exact ⟨s, x, ts, rfl, by simp at h2; omega⟩
    rcases idxR_split (ofR c.soc) c.rnd 0 with ⟨e1, hn1⟩ | ⟨A1, r1, C1, hL1, e1, hr1, hA1⟩
    · have hII : I1 = -1 := HI1.out.symm.trans e1
      rcases idxR_split (notR c.soc) c.rnd 0 with ⟨e2, hn2⟩ | ⟨A2, r2, C2, hL2, e2, hr2, hA2⟩
      · have hJJ : I2 = -1 := HI2.out.symm.trans e2
        have hg : giveC c = zCoh := by
          unfold giveC
          rw [HI1.out, HI2.out, hII, hJJ, if_neg (by rintro ⟨h, _⟩; omega), if_neg (by omega)]
        have hgo : goesC c = false := by unfold goesC; rw [HI1.out, HI2.out, hII, hJJ]; rfl
        have HG := Lib.hid hg; have HGO := Lib.hid hgo
        rw [hII, hJJ]
        clear hg hgo hII hJJ e1 e2 hn1 hn2 HI1 HI2 open_
        have f0 := HW.out.free (4 * i); have f1 := HW.out.free (4 * i + 1); have f2 := HW.out.free (4 * i + 2); have f3 := HW.out.free (4 * i + 3)
        obtain ⟨d0, d1, d2, d3⟩ := HW.out.cell
        go_wp2_with fail
        go_ret2
        exact givep_no HGO.out HG.out (nobody_turn HW.out HBL.out)
      · have hJJ : I2 = (A2.length : Int) := by rw [← HI2.out]; unfold othI; rw [e2]; omega
        obtain ⟨s2, x2, ts2, rfl, hts⟩ := open_ _ _ _ hL2
        clear open_
        have hg : giveC c = leaveC c A2.length := by
          unfold giveC
          rw [HI1.out, HI2.out, hJJ]
          rw [if_neg (by rw [hII]; rintro ⟨h, _⟩; omega), if_pos (by omega), Int.toNat_natCast]
        have hgo : goesC c = true := by unfold goesC; rw [HI2.out, hJJ]; simp
        have HG := Lib.hid hg; have HGO := Lib.hid hgo
        obtain ⟨a, ha⟩ : ∃ a, A2.length = a := ⟨_, rfl⟩
        have HA := Lib.hid ha
        rw [hJJ, ha]
        have HL2 := Lib.hid hL2
        have HT := Lib.hid (leave_any (A := A2) (C := C2) (s := s2) (x := x2) (ts := ts2) HW.out hL2 hts hlen)
        rw [ha] at HT
        have t0 : ¬ (0 : Int) ≤ I1 := by omega
        have s0 : (0 : Int) ≤ (a : Int) := by omega
        have s1' : ¬ (a : Int) < 0 := by omega
        clear hg hgo ha hJJ hL2 e2 hr2 hA2 hII e1 hn1 HI1 HI2 c2
        go_wp2_with fail
        refine HT.out.mono ?_
        rintro e w3 ⟨rfl, lab', ⟨cs3, rv3, h3, ho3⟩, hb3, hu3⟩
        dsimp only
        have d0 := h3.cell.1
        have H3 := Lib.hid h3; have HO3 := Lib.hid ho3; have HB3 := Lib.hid hb3; have HU3 := Lib.hid hu3
        clear h3 ho3 hb3 hu3 HT
        obtain ⟨ow, how⟩ : ∃ z, (leaveC c a).own = z := ⟨_, rfl⟩
        rw [how] at d0
        have HOW := Lib.hid how
        clear how
        go_wp2_with fail
        go_ret2
        have hg := HG.out
        rw [HA.out] at hg
        exact givep_yes (lab' := lab') HGO.out hg HOW.out ⟨⟨cs3, rv3, H3.out, HO3.out⟩, (But.of_below HBL.out).nob.trans HB3.out, ⟨fun k hk => HU3.out.old k (Nat.lt_of_lt_of_le hk HBL.out.size), fun k hk => by
          by_cases q : k < W.heap.size
          · exact .inr (.inr (HU3.out.old k q))
          · exact HU3.out.new k (by omega)⟩⟩
    · have hII : I1 = (A1.length : Int) := by rw [← HI1.out]; unfold ownI; rw [e1]; omega
      by_cases h3 : c.pas < 3
      · obtain ⟨s1, x1, ts1, rfl, hts⟩ := open_ _ _ _ hL1
        clear open_
        have hg : giveC c = tellC { c with pas := c.pas + 1 } A1.length := by
          unfold giveC
          rw [HI1.out, hII]
          rw [if_pos ⟨by omega, .inl h3⟩]
          rw [Int.toNat_natCast]
        have hgo : goesC c = true := by unfold goesC; rw [HI1.out, hII]; simp
        have HG := Lib.hid hg; have HGO := Lib.hid hgo
        obtain ⟨a, ha⟩ : ∃ a, A1.length = a := ⟨_, rfl⟩
        have HA := Lib.hid ha
        rw [hII, ha]
        obtain ⟨pz, hpz⟩ : ∃ z, c.pas = z := ⟨_, rfl⟩
        have hp0 : 0 ≤ pz := by rw [← hpz]; exact HOK.out.pas
        have hp1 : pz ≤ 1000 := by rw [← hpz]; exact hp
        rw [hpz] at c2
        have hwr : IntKind.i64.wrap (pz + 1) = pz + 1 := IntWalk.i64_in _ (by omega)
        have f2 := HW.out.free (4 * i + 2)
        have s0 : (0 : Int) ≤ (a : Int) := by omega
        have HPZ := Lib.hid hpz; have HL1 := Lib.hid hL1
        have t3 : pz < 3 := by omega
        clear hg hgo ha hII hpz hL1 e1 hr1 hA1 HI1 HI2 h3
        go_upto_region 6 with fail
        have hb2 : But (fun k => k = lb) W (W.setCell ⟨lb, 4 * i + 2, none⟩ (.int .i64 (pz + 1))) := (But.refl (fun k => k = lb) _).set ⟨lb, 4 * i + 2, none⟩ _ (.inl rfl)
        have h2 : LockM (W.setCell ⟨lb, 4 * i + 2, none⟩ (.int .i64 (pz + 1))) lb lab i { c with pas := c.pas + 1 } (cs.setIfInBounds (4 * i + 2) (.int .i64 (pz + 1))) rv := by
          rw [← HPZ.out] at hb2 ⊢
          exact ⟨HW.out.blk.set_ _ _, lockV_pas HW.out.val, HW.out.rnd.but hb2 (fun k q e => by subst e; rw [HW.out.own] at q; exact q) (fun _ _ => rfl), HW.out.own, fun k q => HW.out.fre k (Nat.le_trans hb2.size q)⟩
        have HT := Lib.hid (tell_any (A := A1) (C := C1) (s := s1) (x := x1) (ts := ts1) h2 HL1.out hts hlen)
        rw [HA.out] at HT
        have HB2 := Lib.hid hb2
        clear hb2 h2 c2 f2 hwr
        generalize W.setCell ⟨lb, 4 * i + 2, none⟩ (.int .i64 (pz + 1)) = w2 at *
        go_wp2_with fail
        refine HT.out.mono ?_
        rintro e w3 ⟨rfl, ⟨cs3, rv3, h3, ho3⟩, hb3, hu3⟩
        dsimp only
        have d0 := h3.cell.1
        have H3 := Lib.hid h3; have HO3 := Lib.hid ho3; have HB3 := Lib.hid hb3
        clear h3 ho3 hb3 hu3 HT
        obtain ⟨ow, how⟩ : ∃ z, (tellC { c with pas := c.pas + 1 } a).own = z := ⟨_, rfl⟩
        rw [how] at d0
        have HOW := Lib.hid how
        clear how
        go_wp2_with fail
        go_ret2
        have hg := HG.out
        rw [HA.out] at hg
        exact givep_yes HGO.out hg HOW.out ⟨⟨cs3, rv3, H3.out, (OutC.set_ (d := 2) (by omega) _).trans HO3.out⟩, (But.of_below HBL.out).nob.trans ((HB2.out.mono fun k _ q => .inl q).trans HB3.out), LabUp.refl _ _ _⟩
      · rcases idxR_split (notR c.soc) c.rnd 0 with ⟨e2, hn2⟩ | ⟨A2, r2, C2, hL2, e2, hr2, hA2⟩
        · have hJJ : I2 = -1 := HI2.out.symm.trans e2
          obtain ⟨s1, x1, ts1, rfl, hts⟩ := open_ _ _ _ hL1
          clear open_
          have hg : giveC c = tellC { c with pas := c.pas + 1 } A1.length := by
            unfold giveC
            rw [HI1.out, hII]
            rw [if_pos ⟨by omega, .inr (by rw [HI2.out, hJJ]; omega)⟩]
            rw [Int.toNat_natCast]
          have hgo : goesC c = true := by unfold goesC; rw [HI1.out, hII]; simp
          have HG := Lib.hid hg; have HGO := Lib.hid hgo
          obtain ⟨a, ha⟩ : ∃ a, A1.length = a := ⟨_, rfl⟩
          have HA := Lib.hid ha
          rw [hII, ha]
          obtain ⟨pz, hpz⟩ : ∃ z, c.pas = z := ⟨_, rfl⟩
          have hp0 : 0 ≤ pz := by rw [← hpz]; exact HOK.out.pas
          have hp1 : pz ≤ 1000 := by rw [← hpz]; exact hp
          rw [hpz] at c2
          have hwr : IntKind.i64.wrap (pz + 1) = pz + 1 := IntWalk.i64_in _ (by omega)
          have f2 := HW.out.free (4 * i + 2)
          have s0 : (0 : Int) ≤ (a : Int) := by omega
          have HPZ := Lib.hid hpz; have HL1 := Lib.hid hL1
          have t3 : ¬ pz < 3 := by omega
          have t4 : I2 < 0 := by omega
          clear hg hgo ha hII hpz hL1 e1 hr1 hA1 HI1 HI2 h3 hJJ e2 hn2
          go_upto_region 6 with fail
          have hb2 : But (fun k => k = lb) W (W.setCell ⟨lb, 4 * i + 2, none⟩ (.int .i64 (pz + 1))) := (But.refl (fun k => k = lb) _).set ⟨lb, 4 * i + 2, none⟩ _ (.inl rfl)
          have h2 : LockM (W.setCell ⟨lb, 4 * i + 2, none⟩ (.int .i64 (pz + 1))) lb lab i { c with pas := c.pas + 1 } (cs.setIfInBounds (4 * i + 2) (.int .i64 (pz + 1))) rv := by
            rw [← HPZ.out] at hb2 ⊢
            exact ⟨HW.out.blk.set_ _ _, lockV_pas HW.out.val, HW.out.rnd.but hb2 (fun k q e => by subst e; rw [HW.out.own] at q; exact q) (fun _ _ => rfl), HW.out.own, fun k q => HW.out.fre k (Nat.le_trans hb2.size q)⟩
          have HT := Lib.hid (tell_any (A := A1) (C := C1) (s := s1) (x := x1) (ts := ts1) h2 HL1.out hts hlen)
          rw [HA.out] at HT
          have HB2 := Lib.hid hb2
          clear hb2 h2 c2 f2 hwr
          generalize W.setCell ⟨lb, 4 * i + 2, none⟩ (.int .i64 (pz + 1)) = w2 at *
          go_wp2_with fail
          refine HT.out.mono ?_
          rintro e w3 ⟨rfl, ⟨cs3, rv3, h3, ho3⟩, hb3, hu3⟩
          dsimp only
          have d0 := h3.cell.1
          have H3 := Lib.hid h3; have HO3 := Lib.hid ho3; have HB3 := Lib.hid hb3
          clear h3 ho3 hb3 hu3 HT
          obtain ⟨ow, how⟩ : ∃ z, (tellC { c with pas := c.pas + 1 } a).own = z := ⟨_, rfl⟩
          rw [how] at d0
          have HOW := Lib.hid how
          clear how
          go_wp2_with fail
          go_ret2
          have hg := HG.out
          rw [HA.out] at hg
          exact givep_yes HGO.out hg HOW.out ⟨⟨cs3, rv3, H3.out, (OutC.set_ (d := 2) (by omega) _).trans HO3.out⟩, (But.of_below HBL.out).nob.trans ((HB2.out.mono fun k _ q => .inl q).trans HB3.out), LabUp.refl _ _ _⟩
        · have hJJ : I2 = (A2.length : Int) := by rw [← HI2.out]; unfold othI; rw [e2]; omega
          obtain ⟨s2, x2, ts2, rfl, hts⟩ := open_ _ _ _ hL2
          clear open_
          obtain ⟨pz, hpz⟩ : ∃ z, c.pas = z := ⟨_, rfl⟩
          rw [hpz] at c2
          have hg : giveC c = leaveC c A2.length := by
            unfold giveC
            rw [HI1.out, HI2.out, hJJ]
            rw [if_neg (by rw [hII]; rintro ⟨_, h | h⟩ <;> omega), if_pos (by omega), Int.toNat_natCast]
          have hgo : goesC c = true := by unfold goesC; rw [HI2.out, hJJ]; simp
          have HG := Lib.hid hg; have HGO := Lib.hid hgo
          obtain ⟨a, ha⟩ : ∃ a, A2.length = a := ⟨_, rfl⟩
          have HA := Lib.hid ha
          rw [hJJ, ha]
          have HL2 := Lib.hid hL2
          have HT := Lib.hid (leave_any (A := A2) (C := C2) (s := s2) (x := x2) (ts := ts2) HW.out hL2 hts hlen)
          rw [ha] at HT
          have t0 : (0 : Int) ≤ I1 := by omega
          have t3 : ¬ pz < 3 := by omega
          have s0 : (0 : Int) ≤ (a : Int) := by omega
          have s1' : ¬ (a : Int) < 0 := by omega
          clear hg hgo ha hJJ hL2 e2 hr2 hA2 hII e1 hr1 hA1 hL1 HI1 HI2 h3 hpz
          go_wp2_with fail
          refine HT.out.mono ?_
          rintro e w3 ⟨rfl, lab', ⟨cs3, rv3, h3, ho3⟩, hb3, hu3⟩
          dsimp only
          have d0 := h3.cell.1
          have H3 := Lib.hid h3; have HO3 := Lib.hid ho3; have HB3 := Lib.hid hb3; have HU3 := Lib.hid hu3
          clear h3 ho3 hb3 hu3 HT
          obtain ⟨ow, how⟩ : ∃ z, (leaveC c a).own = z := ⟨_, rfl⟩
          rw [how] at d0
          have HOW := Lib.hid how
          clear how
          go_wp2_with fail
          go_ret2
          have hg := HG.out
          rw [HA.out] at hg
          exact givep_yes (lab' := lab') HGO.out hg HOW.out ⟨⟨cs3, rv3, H3.out, HO3.out⟩, (But.of_below HBL.out).nob.trans HB3.out, ⟨fun k hk => HU3.out.old k (Nat.lt_of_lt_of_le hk HBL.out.size), fun k hk => by
            by_cases q : k < W.heap.size
            · exact .inr (.inr (HU3.out.old k q))
            · exact HU3.out.new k (by omega)⟩⟩
end
end Go.Proofs.Ytdomgipbadimmaa
