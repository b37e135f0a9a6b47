/- Layer 12's example: some. -/
import Derived.Test.YtdlncbndhljhfaaTd
import Derived.Test.YtdlncbndhljhfaaTf
import Derived.Deep.WholeRow
namespace Go.Proofs.Ytdlncbndhljhfaa
open Go.RowKit

def someT : List Value := [.int .i64 0, .int .i64 0, .int .i32 0, .int .i32 0, .int .i32 0, .int .i32 0, .int .i64 0, .int .u64 0, .int .u64 0, .int .u64 0, .int .u64 0, .int .u64 0, .int .u64 0, .int .u64 0, .int .u64 0, .int .u64 0, .int .u64 0, .int .u64 0, .int .u64 0, .int .u64 0, .int .u64 0, .int .u64 0, .int .u64 0, .int .i64 (-1), .int .i64 (-1), .int .i64 7, .int .i64 0, .int .i64 0, .int .i64 0]
theorem someT_ok : OkT someT := ⟨rfl, fun j hj => by
  have : j = 0 ∨ j = 1 ∨ j = 2 ∨ j = 3 ∨ j = 4 ∨ j = 5 ∨ j = 6 ∨ j = 7 ∨ j = 8 ∨ j = 9 ∨ j = 10 ∨ j = 11 ∨ j = 12 ∨ j = 13 ∨ j = 14 ∨ j = 15 ∨ j = 16 ∨ j = 17 ∨ j = 18 ∨ j = 19 ∨ j = 20 ∨ j = 21 ∨ j = 22 ∨ j = 23 ∨ j = 24 ∨ j = 25 ∨ j = 26 ∨ j = 27 ∨ j = 28 := by omega
  rcases this with rfl | rfl | rfl | rfl | rfl | rfl | rfl | rfl | rfl | rfl | rfl | rfl | rfl | rfl | rfl | rfl | rfl | rfl | rfl | rfl | rfl | rfl | rfl | rfl | rfl | rfl | rfl | rfl | rfl <;> exact ⟨_, rfl⟩⟩
theorem someT_may : mayT someT = true := by decide
/-- A whole store into the block that was made last. -/
theorem st_new {ops : Array Oper} {rest : List Oper} {op : Oper} {a : Act} {w : World} {Q : Exit → Act → World → Prop} (hgd : op.guard = none) (x y : Operand) (ho : op.op = .store 38 x y)
    (B : Nat) (hB : B = w.heap.size) (c c' : Array Value) (hx : a.eval x = .pointer (some ⟨B, 0, none⟩)) (hy : a.eval y = .agg c')
    (hi : (Try.prog.info? 38).map (·.size) = some c'.size) (hs : c.size = c'.size) (h1 : c'.all (·.oneCell') = true)
    (h : wpList Try.prog ops Q rest (a.put op.dst undef) (w.alloc (.cells c' 38))) : wpList Try.prog ops Q (op :: rest) a (w.alloc (.cells c 38)) := by
  subst hB
  refine wpList_plain hgd fun _ hK => ?_
  unfold Oper.wp execOp
  simp only [ho, hx, hy, Instr.storeAt, Instr.sureAddr, Sem.run_bind, Sem.run_pure, Result.andThen_ok, run_storeVar_new w 38 c c' hi hs h1]
  exact hK _ _ h
theorem build_op {ops : Array Oper} {rest : List Oper} {op : Oper} {a : Act} {w : World} {Q : Exit → Act → World → Prop} (hgd : op.guard = none) (t : TypeId) (parts : Array (Nat × Operand)) (ho : op.op = .build t parts)
    (u : Value) (hr : (Instr.build t (parts.map fun (i, x) => (i, a.eval x))).run Try.prog w = .ok u w)
    (h : wpList Try.prog ops Q rest (a.put op.dst u) w) : wpList Try.prog ops Q (op :: rest) a w := by
  refine wpList_plain hgd fun _ hK => ?_
  unfold Oper.wp execOp
  simp only [ho, Sem.run_bind, Sem.run_pure, Result.andThen_ok, hr]
  exact hK _ _ h
theorem loadVar_task {w : World} {b : Nat} {cs : List Value} (h : BT w b cs) (hl : cs.length = 29) : (loadVar 38 ⟨b, 0, none⟩).run Try.prog w = .ok (.agg cs.toArray) w :=
  run_loadVar_mid w b 0 38 cs _ h.range Try.underlying38 rfl (by rw [infoT, hl])
set_option maxRecDepth 100000 in
set_option maxHeartbeats 4000000 in
theorem some_any (w : World) : Calls Try.prog 18 #[] w (GotB w.heap.size (.agg someT.toArray) w) := by
  have hB : Below w.heap.size w (w.alloc (.cells someT.toArray 38)) := (Below.refl _ _).alloc (Nat.le_refl _) _
  have HB := Lib.hid hB
  have hl := loadVar_task (BT.new w someT) rfl
  clear hB
  go_enter Try.func18, Try.ntmps18
  go_upto_region 1 with fail
  apply wp_region_lit
  refine build_op rfl _ _ rfl (.agg someT.toArray) (by kernel_rfl) ?_
  have h29 : someT.toArray.size = 29 := rfl
  have h1 : someT.toArray.all (·.oneCell') = true := all_oneCell_toArray someT_ok.one
  generalize someT = S at *
  refine st_new rfl (.tmp 0) (.tmp 1) rfl w.heap.size rfl _ S.toArray rfl rfl (infoT.trans (congrArg some h29.symm)) h29.symm h1 ?_
  go_wp2_with fail
  refine bodyPost_ret (v := .agg S.toArray) (by simp [results, Try.results18, Act.put, asAddr, hl]) rfl ?_
  exact ⟨rfl, HB.out⟩
end Go.Proofs.Ytdlncbndhljhfaa
