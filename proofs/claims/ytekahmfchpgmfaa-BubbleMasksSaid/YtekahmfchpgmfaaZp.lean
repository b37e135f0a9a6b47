/- A forest's Get; what there is not; BubbleMany's plain facts (layer 13). -/
import Derived.Test.YtekahmfchpgmfaaZn
import Derived.Test.YtekahmfchpgmfaaZj
import Derived.Deep.WholeRow
namespace Go.Proofs.Ytekahmfchpgmfaa
open Go.RowKit
set_option maxRecDepth 100000

theorem st_newB {ops : Array Oper} {rest : List Oper} {op : Oper} {a : Act} {w : World} {Q : Exit → Act → World → Prop} (hgd : op.guard = none) (x y : Operand) (ho : op.op = .store 30 x y) (b : Nat) (hx : a.eval x = .pointer (some ⟨b, 0, none⟩))
    (c c' : Array Value) (hy : a.eval y = .agg c') (hi : (Try.prog.info? 30).map (·.size) = some c'.size) (hs : c.size = c'.size) (h1 : c'.all (·.oneCell') = true) (w0 : World) (hw : w = w0.alloc (.cells c 30)) (hb : b = w0.heap.size)
    (h : wpList Try.prog ops Q rest (a.put op.dst undef) (w0.alloc (.cells c' 30))) : wpList Try.prog ops Q (op :: rest) a w := by
  subst hw; subst hb
  refine wpList_plain hgd fun _ hK => ?_
  unfold Oper.wp execOp
  simp only [ho, hx, hy, Instr.storeAt, Instr.sureAddr, Sem.run_bind, Sem.run_pure, Result.andThen_ok, run_storeVar_new w0 30 c c' hi hs h1]
  exact hK _ _ h
theorem build_opB {ops : Array Oper} {rest : List Oper} {op : Oper} {a : Act} {w : World} {Q : Exit → Act → World → Prop} (hgd : op.guard = none) (t : TypeId) (parts : Array (Nat × Operand)) (ho : op.op = .build t parts)
    (u : Value) (hr : (Instr.build t (parts.map fun (i, x) => (i, a.eval x))).run Try.prog w = .ok u w)
    (h : wpList Try.prog ops Q rest (a.put op.dst u) w) : wpList Try.prog ops Q (op :: rest) a w := by
  refine wpList_plain hgd fun _ hK => ?_
  unfold Oper.wp execOp
  simp only [ho, Sem.run_bind, Sem.run_pure, Result.andThen_ok, hr]
  exact hK _ _ h
set_option maxHeartbeats 4000000 in
theorem fget_out {p : Option Addr} (i : Int) (w : World) (H : ∀ W, Below w.heap.size w W → Calls Try.prog 27 #[.pointer p, .int .i64 i] W fun e w' => e = .returned (.bool false) ∧ W = w') :
    Calls Try.prog 9 #[.pointer p, .int .i64 i] w (GotB w.heap.size (.tuple #[.agg (bubL zB).toArray, .bool false]) w) := by
  have hz := zB_L
  have HZ := Lib.hid hz
  have hB : Below w.heap.size w (w.alloc (.cells (bubL zB).toArray 30)) := (Below.refl _ _).alloc (Nat.le_refl _) _
  rw [hz] at hB
  have HB := Lib.hid hB
  have HH := Lib.hid (H _ hB)
  clear hB H hz
  rw [HZ.out]
  go_enter Try.func9, Try.ntmps9
  go_upto_region 2 with (go_at_call 27; refine HH.out.mono ?_; rintro e wq ⟨rfl, rfl⟩)
  apply wp_region_lit
  refine build_opB rfl _ _ rfl (.agg (bubL zB).toArray) (by rw [HZ.out]; kernel_rfl) ?_
  rw [HZ.out]
  refine st_newB rfl (.tmp 4) (.tmp 10) rfl w.heap.size rfl _ _ rfl (by kernel_rfl) rfl (by kernel_rfl) w rfl rfl ?_
  go_wp2_with fail
  have hl : (loadVar 30 ⟨w.heap.size, 0, none⟩).run Try.prog (w.alloc (.cells (bubL zB).toArray 30)) = .ok (.agg (bubL zB).toArray) (w.alloc (.cells (bubL zB).toArray 30)) :=
    run_loadVar_mid _ w.heap.size 0 30 (bubL zB) _ (blk_rangeB (Blk.new w _ _)) Try.underlying30 rfl (by rw [infoB, bubL_len])
  rw [HZ.out] at hl
  refine bodyPost_ret (v := .tuple #[.agg #[.int .i64 0, .int .u64 0, .int .u64 0, .int .u64 0, .int .u64 0, .int .u64 0, .int .u64 0, .int .u64 0, .int .u64 0, .int .u64 0, .int .u64 0, .int .u64 0, .int .u64 0, .int .u64 0, .int .u64 0, .int .u64 0, .int .u64 0, .int .i64 0, .int .i64 0], .bool false]) (by simp [results, Try.results9, asAddr, hl]) rfl ?_
  exact ⟨rfl, HB.out⟩
theorem fget_nil (i : Int) (w : World) : Calls Try.prog 9 #[.pointer none, .int .i64 i] w (GotB w.heap.size (.tuple #[.agg (bubL zB).toArray, .bool false]) w) :=
  fget_out i w fun W _ => by
    have := fhas_nil i W
    rwa [show inB [] i = false by unfold inB; simp] at this
set_option maxHeartbeats 4000000 in
theorem ffree_nil (b : Int) (w : World) : Calls Try.prog 38 #[.pointer none, .int .i64 b] w fun e w' => e = .returned (.bool (b == -1)) ∧ Below w.heap.size w w' := by
  have hal : Below w.heap.size w (w.alloc (.cells #[.pointer none] 23)) := (Below.refl _ _).alloc (Nat.le_refl _) _
  have HAL := Lib.hid hal
  have HH := Lib.hid (fhas_nil b (w.alloc (.cells #[.pointer none] 23)))
  rw [show inB [] b = false by unfold inB; simp] at HH
  clear hal
  go_enter Try.func38, Try.ntmps38
  go_wp2_with (go_at_call 27; (with_reducible refine HH.out.mono ?_); rintro e wq ⟨rfl, rfl⟩)
  go_ret
  exact ⟨rfl, HAL.out⟩
set_option maxHeartbeats 4000000 in
/-- Of a forest that there is not none is made. -/
theorem fmake_nil (m : Nat → Bool) (hm : emptyP m = false) (w : World) : Calls Try.prog 33 #[.pointer none, .int .i64 (-1), .agg (cellsOf m)] w fun e w' => e = .returned (.tuple #[.int .i64 0, .int .i64 4]) ∧ Below w.heap.size w w' := by
  have hal : Below w.heap.size w (w.alloc (.cells (cellsOf m) 28)) := (Below.refl _ _).alloc (Nat.le_refl _) _
  have HAL := Lib.hid hal
  have HG1 : Hid ((w.alloc (.cells (cellsOf m) 28)).heap[w.heap.size]? = some (.cells (cellsOf m) 28 (0, 0))) := Lib.hid (heap_alloc_new _ _)
  have HLE := Lib.hid (len_any m (w.alloc (.cells (cellsOf m) 28)))
  rw [empty_cnt] at hm
  have hc : ((cnt m 1024 : Int) == 0) = false := by simpa using hm
  clear hal hm
  generalize cnt m 1024 = c at *
  go_enter Try.func33, Try.ntmps33
  go_wp2_with (with_reducible (show wpList _ _ _ _ _ _); refine ld_set rfl (.tmp 5) rfl w.heap.size rfl m HG1.out ?_)
  refine HLE.out.mono ?_
  rintro e w1 ⟨rfl, h1⟩
  dsimp only
  have HB1 := Lib.hid (HAL.out.trans (h1.mono HAL.out.size))
  clear h1
  go_wp2_with fail
  go_ret2
  exact ⟨rfl, HB1.out⟩
/-- Bubbles made as BubbleMany does: in none, in the first, in the second. -/
def manyU (i : Nat) : Int := ((i % 3 : Nat) : Int) - 1
def manyB : Nat → List Bub
  | 0 => []
  | i + 1 => makeT (manyB i) (manyU i) (ofP (fun _ => (i : Int)) 1)
theorem many_all : ∀ i, i < 40 → makeE (manyB i) (manyU i) (ofP (fun _ => (i : Int)) 1) = if i < 32 then ((i : Int), 0) else (0, 4) := by decide +kernel
theorem many_len : ∀ i, i < 41 → (manyB i).length = min i 32 := by decide +kernel
end Go.Proofs.Ytekahmfchpgmfaa
