/- A bubble built, boxed, loaded (layer 13). -/
import Derived.Test.YtekahmfchpgmfaaZd
import Derived.Test.YtekahmfchpgmfaaLe
namespace Go.Proofs.Ytekahmfchpgmfaa
open Go.RowKit
set_option maxRecDepth 100000

theorem infoB : (Try.prog.info? 30).map (·.size) = some 19 := by kernel_rfl
def zB : Bub := ⟨0, fun _ => false, 0, 0⟩
theorem zB_L : (bubL zB).toArray = #[.int .i64 0, .int .u64 0, .int .u64 0, .int .u64 0, .int .u64 0, .int .u64 0, .int .u64 0, .int .u64 0, .int .u64 0, .int .u64 0, .int .u64 0, .int .u64 0, .int .u64 0, .int .u64 0, .int .u64 0, .int .u64 0, .int .u64 0, .int .i64 0, .int .i64 0] := by
  unfold bubL zB; rw [cellsOf_zero]; rfl
theorem infoBub : (Try.prog.info? 30).map (fun i => (i.zero, i.size, i.bytes)) = some (some (.agg (bubL zB).toArray), 19, 152) := by rw [zB_L]; kernel_rfl
theorem build_bub (up : Int) (m : Nat → Bool) (w : World) : (Instr.build 30 #[(0, .int .i64 up), (1, .agg (cellsOf m)), (2, .int .i64 1)]).run Try.prog w = .ok (.agg (bubL ⟨up, m, 1, 0⟩).toArray) w := by kernel_rfl
theorem build_slice_bub (x : Bub) (w : World) : (Instr.buildSlice 66 1 #[(0, .agg (bubL x).toArray)]).run Try.prog w = .ok (.slice (some ⟨w.heap.size, 0, none⟩) 1 1) (w.alloc (.cells (bubL x).toArray 30)) := by kernel_rfl
theorem blk_rangeB {w : World} {b : Nat} {t : TypeId} {cs : List Value} (h : Blk w b t cs.toArray) : w.rangeAt b 0 cs := fun j u hj => by
  rw [Nat.zero_add, Blk.cell h]; simpa using hj
end Go.Proofs.Ytekahmfchpgmfaa
