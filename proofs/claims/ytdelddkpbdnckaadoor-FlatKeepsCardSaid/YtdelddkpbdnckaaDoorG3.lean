/- exec's Step, at any program and place. -/
import Derived.Test.YtdelddkpbdnckaaDoorG2
namespace Go.Proofs.YtdelddkpbdnckaaDoor
open Go.RowKit

theorem Four.drewN {w W : World} {prio : Int} {A : Option Addr} {n cap : Nat} {r : R4} (h : Four w W prio A n cap r) (k : Nat) : Four w (W.drewN k) prio A n cap r := h.on ⟨rfl, rfl, rfl, Nat.le_refl _, fun _ _ => rfl⟩
theorem Four.drew {w W : World} {prio : Int} {A : Option Addr} {n cap : Nat} {r : R4} (h : Four w W prio A n cap r) : Four w W.drew prio A n cap r := h.on ⟨rfl, rfl, rfl, Nat.le_refl _, fun _ _ => rfl⟩
set_option maxRecDepth 100000 in
set_option maxHeartbeats 4000000 in
theorem Step_in (prio : Int) (A : Option Addr) (l : List I4) (cap k : Nat) (x : I4) (r : R4) (w : World) (hT : Tabs w) (hI : InsIn w A l) (hx : l[k]? = some x) (hf : Fine prio l) :
    Calls Tryd.prog 60 #[.agg #[.int .i64 prio, .slice A l.length cap], .int .i64 k, regV r] w (StepG (stepP x k r) w) := by
  have hm := hf.may hx (hI k x hx).1.n
  have kl : k < l.length := (List.getElem?_eq_some_iff.1 hx).1
  have kl64 : l.length ≤ 64 := hf.len.2
  have HST : Hid (∀ W, Calls Tryd.prog 63 #[insV x, .int .i64 k, regV r] W (StepG (stepP x k r) W)) := fun W => step_any x l.length k r W hm (by omega)
  have hF := Four.new w prio A l.length cap r
  have HM := Lib.hid (may_any prio A l cap _ (hT.on hF.below) (hI.below hF.below))
  rw [hf.ok] at HM
  rw [show decide ((0 : Int) = 0) = true from rfl] at HM
  have HF := Lib.hid hF; have HI := Lib.hid hI; have HX := Lib.hid hx
  obtain ⟨p0, p1, q0, q1, q2, q3, -⟩ := hF.cells
  have t0 : decide ((k : Int) < 0) = false := by simp
  have t1 : decide (l.length ≤ k) = false := by simp; omega
  clear hF hI hx hf hm hT
  generalize l.length = N at *
  obtain ⟨G, hG⟩ : ∃ G, stepP x k r = G := ⟨_, rfl⟩
  rw [hG] at HST ⊢
  clear hG
  obtain ⟨gp, ⟨g0, g1, g2, g3⟩, ⟨go, gr, gn⟩⟩ := G
  obtain ⟨op, xa, xb, xn⟩ := x
  obtain ⟨ra, rb, rc, rd⟩ := r
  dsimp only at q0 q1 q2 q3
  go_enter Tryd.func60, Tryd.ntmps60
  go_upto_region 2 with (go_at_call 62; (with_reducible refine HM.out.mono ?_); rintro e w2 ⟨rfl, h2⟩; have HF2 := Lib.hid (HF.out.on h2); clear h2 p0 p1 q0 q1 q2 q3)
  clear HF HM
  have HF3 := Lib.hid HF2.out.drew
  have c' : InsIn w2.drew A l := HI.out.below HF3.out.below
  obtain ⟨ft, bb, off, rfl, -, c0, c1, c2, c3⟩ := c' k _ HX.out
  obtain ⟨p0, p1, q0, q1, q2, q3, -⟩ := HF3.out.cells
  have k0 : (0 : Int) ≤ (k : Int) := by omega
  have k1 : (k : Int) < (N : Int) := by omega
  dsimp only at c0 c1 c2 c3 q0 q1 q2 q3
  clear ft c' t0 t1
  go_region_with (go_at_call 63; (with_reducible refine (HST.out _).mono ?_); rintro e w4 ⟨rfl, h4⟩; have HF4 := Lib.hid (HF3.out.on h4); clear h4; obtain ⟨-, -, -, -, -, -, z0, z1, z2, z3, f0, f1, f2, hlt⟩ := HF4.out.cells; obtain ⟨uq, uz, uf⟩ := HF4.out.frees)
  all_goals go_wp2
  all_goals refine bodyPost_ret (v := .tuple #[.int .i64 gp, .agg #[.int .i32 g0, .int .i32 g1, .int .i32 g2, .int .i32 g3], .agg #[.int .i64 go, .int .i64 gr, .int .i32 gn]]) (by simp [results, Tryd.results60, go_sem, *]) rfl ⟨rfl, ?_⟩
  all_goals
    refine HF4.out.below.trans (But.below (X := fun k => w.heap.size ≤ k) ?_ HF4.out.below.size fun _ _ q => q)
    repeat' first
      | with_reducible exact But.refl _ _
      | with_reducible refine But.set ?_ _ _ (.inl ?_)
      | with_reducible refine But.drewN ?_ _
      | with_reducible refine But.drew ?_
      | with_reducible refine But.alloc ?_ _
    all_goals (dsimp only; omega)
end Go.Proofs.YtdelddkpbdnckaaDoor
