/- layer 27 (stuck): what the walk of fates wants: maps that are there while its drawn region runs. -/
import Derived.Test.YtogplndhciaoeaaQe
import Derived.Deep.RegionHeld
import Derived.OrdersHeld
namespace Go.Proofs.Ytogplndhciaoeaa
open Go.RowKit Go.Maps
set_option maxRecDepth 100000

theorem RowW.mono {B B' : Nat} {w : World} {A : Option Addr} {l : List (Int × Int)} (h : RowW B w A l) (hb : B ≤ B') : RowW B' w A l := fun i d hd => by
  obtain ⟨b, off, e, hlt, hr⟩ := h i d hd
  exact ⟨b, off, e, by omega, hr⟩
/-- maps that are there. -/
def HasM (w : World) (L : List (TypeId × Nat × Nat × (Int → Option Int))) (X : World) : Prop := Below w.heap.size w X ∧ ∀ y ∈ L, MapI y.1 X y.2.1 y.2.2.1 y.2.2.2 ∧ w.heap.size ≤ y.2.1 ∧ y.2.1 < X.heap.size
theorem HasM.step {w X X' : World} {L : List (TypeId × Nat × Nat × (Int → Option Int))} (h : HasM w L X) (hb : Below X.heap.size X X') : HasM w L X' :=
  ⟨h.1.trans (hb.mono h.1.size), fun y hy => ⟨(h.2 y hy).1.blk (hb.block _ (h.2 y hy).2.2), (h.2 y hy).2.1, Nat.lt_of_lt_of_le (h.2 y hy).2.2 hb.size⟩⟩
theorem HasM.tail {w X : World} {y : TypeId × Nat × Nat × (Int → Option Int)} {L : List (TypeId × Nat × Nat × (Int → Option Int))} (h : HasM w (y :: L) X) : HasM w L X := ⟨h.1, fun z hz => h.2 z (List.mem_cons_of_mem _ hz)⟩
theorem run_mkF (w : World) (k : Int) : (Instr.makeMap 73 (some (.int .i64 k))).run Try.prog w = .ok (.map (some w.heap.size)) (w.alloc (.map #[] 0)) := by
  simp [Instr.makeMap, run_underlying Try.underlying73, asInt, asIntOf, Result.andThen]
end Go.Proofs.Ytogplndhciaoeaa
