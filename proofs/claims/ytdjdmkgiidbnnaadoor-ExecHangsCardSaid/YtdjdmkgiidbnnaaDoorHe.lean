/- Registers and effects compared with one another. -/
import Derived.Test.YtdjdmkgiidbnnaaDoorEp
import Derived.Test.YtdjdmkgiidbnnaaDoorBu
import Derived.Laws.StructEq
import Derived.ChangeKeysEq
namespace Go.Proofs.YtdjdmkgiidbnnaaDoor
open Go.RowKit

theorem infoI32 : ∃ i, Tryd.prog.info? 21 = some i := by
  have h : (Tryd.prog.info? 21).isSome = true := by kernel_rfl
  exact Option.isSome_iff_exists.1 h
theorem cellsI32 : Tryd.prog.cellsOf 21 = 1 := by kernel_rfl
theorem regs_eq (r s : R4) (w : World) : (Op.equalIn 10000 25 (regV r) (regV s)).run Tryd.prog w = .ok (decide (r = s)) w := by
  obtain ⟨i, hi⟩ := infoI32
  obtain ⟨a, b, c, d⟩ := r
  obtain ⟨a', b', c', d'⟩ := s
  rw [run_equalIn_array w 9999 _ _ Tryd.underlying25 hi, cellsI32]
  have e : List.range 4 = [0, 1, 2, 3] := rfl
  rw [e]
  simp only [R4.mk.injEq]
  by_cases h1 : a = a'
  · by_cases h2 : b = b'
    · by_cases h3 : c = c'
      · by_cases h4 : d = d' <;> simp [Op.eqItems, part, Sem.run_bind, run_equalIn_int _ 9998 21 .i32 .i32 _ _ Tryd.underlying21, h1, h2, h3, h4]
      · simp [Op.eqItems, part, Sem.run_bind, run_equalIn_int _ 9998 21 .i32 .i32 _ _ Tryd.underlying21, h1, h2, h3]
    · simp [Op.eqItems, part, Sem.run_bind, run_equalIn_int _ 9998 21 .i32 .i32 _ _ Tryd.underlying21, h1, h2]
  · simp [Op.eqItems, part, Sem.run_bind, run_equalIn_int _ 9998 21 .i32 .i32 _ _ Tryd.underlying21, h1]
theorem regGuard : Tryd.prog.eqGuardType Tryd.prog.depth 25 = false := by kernel_rfl
theorem effFields : Tryd.prog.underlying 29 = some (.struct (Tryd.prog.fieldsOf 29)) := by kernel_rfl
theorem effStood : Tryd.prog.stoodInHeld 29 = false := by kernel_rfl
theorem effGuard : Tryd.prog.eqGuardType Tryd.prog.depth 29 = false := by kernel_rfl
set_option maxRecDepth 100000 in
set_option maxHeartbeats 1000000 in
theorem eff_eq (x y : Eff) (w : World) : (Op.equalIn 10000 29 (effV x) (effV y)).run Tryd.prog w = .ok (decide (x = y)) w := by
  have hf := Option.some.inj (effFields.symm.trans Tryd.underlying29)
  injection hf with hf
  have h := run_equalIn_struct (P := Tryd.prog) w 9999 29 #[.int .i64 x.op, .int .i64 x.reg, .int .i32 x.n] #[.int .i64 y.op, .int .i64 y.reg, .int .i32 y.n] effFields effStood
  simp only [Nat.reduceAdd] at h
  rw [h, hf]
  simp [go_sem, Op.eqFields, Tryd.underlying3, Tryd.underlying21]
  obtain ⟨o, a, n⟩ := x
  obtain ⟨o', a', n'⟩ := y
  simp only [Eff.mk.injEq]
  by_cases h1 : o = o'
  · by_cases h2 : a = a'
    · by_cases h4 : n = n' <;> simp [h1, h2, h4]
    · simp [h1, h2]
  · simp [h1]
theorem regs_same (r : R4) (w : World) : (Op.equalIn 10000 25 (regV r) (regV r)).run Tryd.prog w = .ok true w := by rw [regs_eq, decide_eq_true rfl]
theorem eff_same (x : Eff) (w : World) : (Op.equalIn 10000 29 (effV x) (effV x)).run Tryd.prog w = .ok true w := by rw [eff_eq, decide_eq_true rfl]
end Go.Proofs.YtdjdmkgiidbnnaaDoor
