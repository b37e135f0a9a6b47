/- Are they the same table? (layer 12) -/
import Derived.Test.YtdlncbndhljhfaaVn
import Derived.Test.YtdlncbndhljhfaaVa
import Derived.Test.YtdlncbndhljhfaaTx
namespace Go.Proofs.Ytdlncbndhljhfaa
open Go.RowKit
set_option maxRecDepth 100000

theorem task_same (cs : List Value) (ho : OkT cs) (w : World) : (binOp .neq 38 (.agg cs.toArray) (.agg cs.toArray)).run Try.prog w = .ok (.bool false) w := by
  have h := task_self cs ho w
  rw [run_eql_struct] at h
  rw [run_neq_struct]
  cases hq : (Op.equalIn 10000 38 (.agg cs.toArray) (.agg cs.toArray)).run Try.prog w with
  | ok b w' =>
    rw [hq] at h
    simp only [Result.andThen_ok] at h
    injection h with h1 h2
    injection h1 with h1
    subst h1; subst h2
    rfl
  | _ => rw [hq] at h; simp [Result.andThen] at h
theorem neq_halt {ops : Array Oper} {rest : List Oper} {op : Oper} {a : Act} {w : World} {Q : Exit → Act → World → Prop} {g : Nat × Bool} {u : TypeId} (_ : op.guard = some g) (x y : Operand) (_ : op.op = .binOp .neq 38 x y u) (h : Hid (wpList Try.prog ops Q (op :: rest) a w)) : wpList Try.prog ops Q (op :: rest) a w := h.out
theorem neq_task {ops : Array Oper} {rest : List Oper} {op : Oper} {a : Act} {w : World} {Q : Exit → Act → World → Prop} {u : TypeId} (hw : Region.wanted op (yielded ops a.tmps) = true) (x y : Operand) (ho : op.op = .binOp .neq 38 x y u) (cs : List Value) (hok : OkT cs) (hx : a.eval x = .agg cs.toArray) (hy : a.eval y = .agg cs.toArray)
    (h : wpList Try.prog ops Q rest (a.put op.dst (.bool false)) w) : wpList Try.prog ops Q (op :: rest) a w := by
  refine wpList_step fun K hK => ?_
  rw [if_pos hw]
  unfold Oper.wp execOp
  simp only [ho, hx, hy, Sem.run_bind, Sem.run_pure, Result.andThen_ok, run_eqGuard_agg w .neq 38 x y cs.toArray cs.toArray taskGuard, task_same cs hok w]
  exact hK _ _ h
end Go.Proofs.Ytdlncbndhljhfaa
