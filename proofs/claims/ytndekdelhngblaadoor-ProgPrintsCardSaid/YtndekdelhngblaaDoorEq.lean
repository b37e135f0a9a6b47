/- Two instructions compared with one another. -/
import Derived.Test.YtndekdelhngblaaDoorCh
import Derived.Laws.StructEq
namespace Go.Proofs.YtndekdelhngblaaDoor
open Go.RowKit

theorem insFields : Tryd.prog.underlying 38 = some (.struct (Tryd.prog.fieldsOf 38)) := by kernel_rfl
theorem insStood : Tryd.prog.stoodInHeld 38 = false := by kernel_rfl
theorem insGuard : Tryd.prog.eqGuardType Tryd.prog.depth 38 = false := by kernel_rfl
set_option maxRecDepth 100000 in
set_option maxHeartbeats 1000000 in
theorem ins_neq (x y : I4) (w : World) : (binOp .neq 38 (insV x) (insV y)).run Tryd.prog w = .ok (.bool (decide (x ≠ y))) w := by
  have hf := Option.some.inj (insFields.symm.trans Tryd.underlying38)
  injection hf with hf
  have h := run_equalIn_struct (P := Tryd.prog) w 9999 38 #[.int .i64 x.op, .int .i64 x.a, .int .i64 x.b, .int .i32 x.n] #[.int .i64 y.op, .int .i64 y.a, .int .i64 y.b, .int .i32 y.n] insFields insStood
  simp only [Nat.reduceAdd] at h
  rw [run_neq_struct, h, hf]
  simp [go_sem, Op.eqFields, Tryd.underlying3, Tryd.underlying21]
  obtain ⟨o, a, b, n⟩ := x
  obtain ⟨o', a', b', n'⟩ := y
  simp only [I4.mk.injEq]
  by_cases h1 : o = o'
  · by_cases h2 : a = a'
    · by_cases h3 : b = b'
      · by_cases h4 : n = n' <;> simp [h1, h2, h3, h4]
      · simp [h1, h2, h3]
    · simp [h1, h2]
  · simp [h1]
end Go.Proofs.YtndekdelhngblaaDoor
