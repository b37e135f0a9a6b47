/- Reads in a region that draws its order, in a class of worlds: a number, a bubble; two bubbles held against each other (layer 13). -/
import Derived.Test.YtekahmfchpgmfaaYo
import Derived.Test.YtekahmfchpgmfaaSq
import Derived.BigQuiet
namespace Go.Proofs.Ytekahmfchpgmfaa
open Go.RowKit
set_option maxRecDepth 100000

theorem run_load_int (w : World) (p : Addr) (n : Int) (h : w.cell? p = some (.int .i64 n)) : (Instr.loadAt 3 (.pointer (some p))).run Try.prog w = .ok (.int .i64 n) w := by
  have hp := Try.underlying3
  have h2 : Try.prog.underlying 3 = some (.int .i64) := hp
  simp [Instr.loadAt, Instr.sureAddr, loadVar, isAgg, run_underlying hp, h, go_sem]
theorem quiet_load_int {C : World → Prop} {o : Oper} {a : Act} {K : Act → Prop} (x : Operand) (ho : o.op = .load 3 x) (p : Addr) (n : Int) (hx : a.eval x = .pointer (some p))
    (hC : ∀ w', C w' → w'.cell? p = some (.int .i64 n)) (hk : K (a.put o.dst (.int .i64 n))) : o.quiet Try.prog a C K :=
  ⟨_, fun w' h => by
    have hr := run_load_int w' p n (hC w' h)
    unfold Oper.quietAt execOp
    simp only [ho, hx, Sem.run_bind, Sem.run_pure, Result.andThen_ok, hr]
    exact ⟨rfl, rfl⟩, hk⟩
theorem quiet_load_bub {C : World → Prop} {o : Oper} {a : Act} {K : Act → Prop} (x : Operand) (ho : o.op = .load 30 x) (b off : Nat) (z : Bub) (hx : a.eval x = .pointer (some ⟨b, off, none⟩))
    (hC : ∀ w', C w' → w'.rangeAt b off (bubL z)) (hk : K (a.put o.dst (.agg (bubL z).toArray))) : o.quiet Try.prog a C K :=
  ⟨_, fun w' h => by
    have hr := run_loadAt_mid (P := Try.prog) w' b off 30 (bubL z) _ (hC w' h) Try.underlying30 rfl (infoB.trans (congrArg some (bubL_len z).symm))
    unfold Oper.quietAt execOp
    simp only [ho, hx, Sem.run_bind, Sem.run_pure, Result.andThen_ok, hr]
    exact ⟨rfl, rfl⟩, hk⟩
theorem quiet_neq_bub {C : World → Prop} {o : Oper} {a : Act} {K : Act → Prop} (x y : Operand) (ty : TypeId) (ho : o.op = .binOp .neq 30 x y ty) (z : Bub) (hx : a.eval x = .agg (bubL z).toArray) (hy : a.eval y = .agg (bubL z).toArray)
    (hk : K (a.put o.dst (.bool false))) : o.quiet Try.prog a C K :=
  ⟨_, fun w' _ => by
    unfold Oper.quietAt execOp
    simp only [ho, hx, hy, Sem.run_bind, Sem.run_pure, Result.andThen_ok, run_eqGuard_agg w' .neq 30 x y (bubL z).toArray (bubL z).toArray bubGuard, bub_neq z w']
    exact ⟨rfl, rfl⟩, hk⟩
end Go.Proofs.Ytekahmfchpgmfaa
