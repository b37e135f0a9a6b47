/- layer 31 (codec): what GetSet's walk wants: boxes that numbers are told to; isCpu. -/
import Derived.Test.YtchhenpijbecaaaDoorEb
import Derived.Test.YtchhenpijbecaaaDoorCt
import Derived.Test.YtchhenpijbecaaaDoorCj
namespace Go.Proofs.YtchhenpijbecaaaDoor
open Go.RowKit
set_option maxRecDepth 100000

theorem isCpuC_any (n : Int) (w : World) : Calls Tryd.prog 31 #[.int .i64 n] w fun e w' => e = .returned (.bool (decide (0 ≤ n ∧ n < 1024))) ∧ w = w' := by
  obtain ⟨r, hr⟩ : ∃ r, decide (0 ≤ n ∧ n < 1024) = r := ⟨_, rfl⟩
  rw [hr]
  by_cases h0 : 0 ≤ n
  · by_cases h1 : n < 1024
    · have HE : Hid (r = true) := by show _ = _; rw [← hr]; exact decide_eq_true ⟨h0, h1⟩
      have q0 : n ≥ 0 := h0
      clear hr
      go_enter Tryd.func31, Tryd.ntmps31
      go_wp2
      go_ret
      rw [HE.out]; exact ⟨rfl, rfl⟩
    · have HE : Hid (r = false) := by show _ = _; rw [← hr]; exact decide_eq_false (by omega)
      have q0 : n ≥ 0 := h0
      clear hr
      go_enter Tryd.func31, Tryd.ntmps31
      go_wp2
      go_ret
      rw [HE.out]; exact ⟨rfl, rfl⟩
  · have HE : Hid (r = false) := by show _ = _; rw [← hr]; exact decide_eq_false (by omega)
    have q0 : ¬ n ≥ 0 := h0
    clear hr
    go_enter Tryd.func31, Tryd.ntmps31
    go_wp2
    go_ret
    rw [HE.out]; exact ⟨rfl, rfl⟩
theorem res_set3 {fn : Func} {R : Ending → World → Prop} {a : Act} {w : World} {t u v : Tmp} (h : fn.results = #[.cell t 33, .tmp u, .tmp v]) (g : Nat) (p : Nat → Bool)
    (hp : a.tmps.getD t undef = .pointer (some ⟨g, 0, none⟩)) (hg : w.heap[g]? = some (.cells (cellsOf p) 33 (0, 0))) (hd : a.defers = [])
    (hR : R (.returned (.tuple #[.agg (cellsOf p), a.tmps.getD u undef, a.tmps.getD v undef])) w) : bodyPost Tryd.prog fn R .ret a w := by
  have hp' : a.tmps[t]?.getD undef = .pointer (some ⟨g, 0, none⟩) := by simpa using hp
  refine bodyPost_ret (v := .tuple #[.agg (cellsOf p), a.tmps.getD u undef, a.tmps.getD v undef]) ?_ hd hR
  simp [results, h, hp', asAddr, run_loadVar_row w g 33 33 _ (0, 0) _ hg underSet rfl (by rw [infoSet, cellsOf_size])]

theorem run_load_int (w : World) (p : Addr) (n : Int) (h : w.cell? p = some (.int .i64 n)) : (Instr.loadAt 3 (.pointer (some p))).run Tryd.prog w = .ok (.int .i64 n) w := by
  have hp := Tryd.underlying3
  have h2 : Tryd.prog.underlying 3 = some (.int .i64) := hp
  simp [Instr.loadAt, Instr.sureAddr, loadVar, isAgg, run_underlying hp, h, go_sem]
/-- one number that is told. -/
def Tg1 (b s : Nat) (W : World) (xs : List Int) : Prop := xs.length ≤ 1 ∧ Blk W b 3 #[.int .i64 (xs.getD 0 0)] ∧ Blk W s 72 #[.pointer (some ⟨b, 0, none⟩)]
theorem tg1_step {b s gA h B : Nat} {X : Nat → Prop} (hbs : b ≠ s) (hX : X b) (hg : b ≠ gA) (hh : b ≠ h) (hB : B ≤ b) : ∀ W xs, Tg1 b s W xs → xs.length < 1 →
    ∃ b' o, W.cell? ⟨s, xs.length, none⟩ = some (.pointer (some ⟨b', o, none⟩)) ∧ (∃ y, W.cell? ⟨b', o, none⟩ = some (.int .i64 y)) ∧ W.frozen? ⟨b', o, none⟩ = false ∧ X b' ∧ b' ≠ gA ∧ b' ≠ h ∧ B ≤ b' ∧ ∀ x, Tg1 b s (W.setCell ⟨b', o, none⟩ (.int .i64 x)) (xs ++ [x]) := by
  intro W xs ⟨_, hb, hs⟩ hlt
  obtain rfl : xs = [] := List.eq_nil_of_length_eq_zero (by omega)
  exact ⟨b, 0, hs.cell 0, ⟨_, hb.cell 0⟩, hb.free 0, hX, hg, hh, hB, fun x => ⟨by simp, hb.set_ 0 _, hs.far hbs.symm _⟩⟩
theorem tg1_far {b s h : Nat} (hb : b ≠ h) (hs : s ≠ h) : ∀ W xs v, Tg1 b s W xs → Tg1 b s (W.setCell ⟨h, 0, none⟩ v) xs := fun _ _ _ ⟨x, y, z⟩ => ⟨x, y.far hb _, z.far hs _⟩
/-- two numbers that are told. -/
def Tg2 (b c s : Nat) (W : World) (xs : List Int) : Prop := xs.length ≤ 2 ∧ Blk W b 3 #[.int .i64 (xs.getD 0 0)] ∧ Blk W c 3 #[.int .i64 (xs.getD 1 0)] ∧ Blk W s 72 #[.pointer (some ⟨b, 0, none⟩), .pointer (some ⟨c, 0, none⟩)]
theorem tg2_step {b c s gA h B : Nat} {X : Nat → Prop} (hbc : b ≠ c) (hbs : b ≠ s) (hcs : c ≠ s) (hX : X b) (hXc : X c) (hg : b ≠ gA) (hgc : c ≠ gA) (hh : b ≠ h) (hhc : c ≠ h) (hB : B ≤ b) (hBc : B ≤ c) : ∀ W xs, Tg2 b c s W xs → xs.length < 2 →
    ∃ b' o, W.cell? ⟨s, xs.length, none⟩ = some (.pointer (some ⟨b', o, none⟩)) ∧ (∃ y, W.cell? ⟨b', o, none⟩ = some (.int .i64 y)) ∧ W.frozen? ⟨b', o, none⟩ = false ∧ X b' ∧ b' ≠ gA ∧ b' ≠ h ∧ B ≤ b' ∧ ∀ x, Tg2 b c s (W.setCell ⟨b', o, none⟩ (.int .i64 x)) (xs ++ [x]) := by
  intro W xs ⟨_, hb, hc, hs⟩ hlt
  match xs, hlt with
  | [], _ => exact ⟨b, 0, hs.cell 0, ⟨_, hb.cell 0⟩, hb.free 0, hX, hg, hh, hB, fun x => ⟨by simp, hb.set_ 0 _, hc.far hbc.symm _, hs.far hbs.symm _⟩⟩
  | [y], _ => exact ⟨c, 0, hs.cell 1, ⟨_, hc.cell 0⟩, hc.free 0, hXc, hgc, hhc, hBc, fun x => ⟨by simp, hb.far hbc _, hc.set_ 0 _, hs.far hcs.symm _⟩⟩
theorem tg2_far {b c s h : Nat} (hb : b ≠ h) (hc : c ≠ h) (hs : s ≠ h) : ∀ W xs v, Tg2 b c s W xs → Tg2 b c s (W.setCell ⟨h, 0, none⟩ v) xs := fun _ _ _ ⟨x, y, z, u⟩ => ⟨x, y.far hb _, z.far hc _, u.far hs _⟩
theorem takeZ_len (l : List UInt8) (n : Nat) : ∀ (k : Int) xs j, takeZ l n k = some (xs, j) → xs.length = n ∧ ∀ x ∈ xs, B64 x := by
  induction n with
  | zero => intro k xs j h; rw [takeZ] at h; injection h with h; injection h with h _; subst h; exact ⟨rfl, fun x hx => by cases hx⟩
  | succ n ih =>
    intro k xs j h
    rw [takeZ] at h
    match hg : getI l k with
    | none => rw [hg] at h; cases h
    | some (x, m) =>
      rw [hg] at h
      match ht : takeZ l n (m : Int) with
      | none => simp [ht] at h
      | some (ys, j') =>
        simp [ht] at h
        obtain ⟨k1, k2⟩ := ih _ _ _ ht
        rw [← h.1]
        refine ⟨by simp [k1], fun y hy => ?_⟩
        rcases List.mem_cons.1 hy with rfl | hy
        · exact (getI_some hg).1
        · exact k2 y hy
theorem step_st_set {ops : Array Oper} {o : Oper} {a : Act} {w : World} {K : Act → World → Prop} {Q : Exit → Act → World → Prop} {E : Prop} (hg : o.guard = none) (x y : Operand) (ho : o.op = .store 33 x y)
    (g : Nat) (p q : Nat → Bool) (hx : a.eval x = .pointer (some ⟨g, 0, none⟩)) (hy : a.eval y = .agg (cellsOf p)) (hh : w.heap[g]? = some (.cells (cellsOf q) 33 (0, 0))) (hK : K (a.put o.dst undef) (w.setRow g (cellsOf p))) : if Region.wanted o (yielded ops a.tmps) = true then Oper.wp Tryd.prog o a w K Q else E := by
  rw [if_pos (by simp [Region.wanted, hg])]
  exact wp_store_row 33 x y ho g _ hx hy 33 _ hh (by rw [infoSet, cellsOf_size]) (by rw [cellsOf_size, cellsOf_size]) (cellsOf_one p) hK
theorem yieldsIf_loadI {ops : Array Oper} {S : World → Prop} {o : Oper} {a : Act} (hw : Region.wanted o (yielded ops a.tmps) = true) (x : Operand) (ho : o.op = .load 3 x) (p : Addr) (n : Int)
    (hx : a.eval x = .pointer (some p)) (hS : ∀ w, S w → w.cell? p = some (.int .i64 n)) : YieldsIf Tryd.prog ops S o (.int .i64 n) a :=
  .inl ⟨hw, fun w h => by
    have hr := run_load_int w p n (hS w h)
    unfold execOp
    simp only [ho, hx, Sem.run_bind, Sem.run_pure, Result.andThen_ok, hr]⟩
end Go.Proofs.YtchhenpijbecaaaDoor
