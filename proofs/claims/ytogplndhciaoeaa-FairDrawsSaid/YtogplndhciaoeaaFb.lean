/- layer 33 (fair): rows of entries in memory; a struct out of a row's middle, and stored whole, inside a fence. -/
import Derived.Test.YtogplndhciaoeaaQd
import Derived.Test.YtogplndhciaoeaaFa
import Derived.OwnWalkIn
import Derived.TacticsInMore
namespace Go.Proofs.Ytogplndhciaoeaa
open Go.RowKit Go.Maps
set_option maxRecDepth 100000

section
variable {F : Fence} {m : Nat} {P : Program}
theorem wpListIn_load_mid {ops : Array Oper} {rest : List Oper} {op : Oper} {a : Act} {w : World} {Q : Exit → Act → World → Prop} (hgd : op.guard = none) (ty : TypeId) (x : Operand) (ho : op.op = .load ty x)
    (b o : Nat) (hx : a.eval x = .pointer (some ⟨b, o, none⟩)) (cs : List Value) (d : TypeDesc) (hc : w.rangeAt b o cs)
    (hu : P.underlying ty = some d) (hd : d.isRow = true) (hi : (P.info? ty).map (·.size) = some cs.length)
    (h : wpListIn F m P ops Q rest (a.put op.dst (.agg cs.toArray)) w) : wpListIn F m P ops Q (op :: rest) a w := by
  refine wpListIn_plain hgd fun K hK => ?_
  unfold Oper.wpIn
  refine ⟨by simp [Oper.about, ho], ?_⟩
  rw [Oper.semAt_plain F _ _ (by rw [ho]; intro c hc'; cases hc')]
  unfold execOp
  simp only [ho, hx, Instr.loadAt, Instr.sureAddr, Sem.run_bind, Sem.run_pure, Result.andThen_ok, run_loadVar_mid w b o ty cs d hc hu hd hi]
  exact hK _ _ h
theorem wpListIn_store_row {ops : Array Oper} {rest : List Oper} {o : Oper} {a : Act} {w : World} {Q : Exit → Act → World → Prop} (hgd : o.guard = none) (ty : TypeId) (x y : Operand) (ho : o.op = .store ty x y)
    (g : Nat) (cells : Array Value) (hx : a.eval x = .pointer (some ⟨g, 0, none⟩)) (hy : a.eval y = .agg cells)
    (t : TypeId) (old : Array Value) (hg : w.heap[g]? = some (.cells old t (0, 0))) (hi : (P.info? ty).map (·.size) = some cells.size)
    (hold : old.size = cells.size) (h1 : cells.all (·.oneCell') = true)
    (h : wpListIn F m P ops Q rest (a.put o.dst undef) (w.setRow g cells)) : wpListIn F m P ops Q (o :: rest) a w := by
  refine wpListIn_plain hgd fun K hK => ?_
  unfold Oper.wpIn
  refine ⟨by simp [Oper.about, ho], ?_⟩
  rw [Oper.semAt_plain F _ _ (by rw [ho]; intro c hc'; cases hc')]
  unfold execOp
  simp only [ho, hx, hy, Instr.storeAt, Instr.sureAddr, Sem.run_bind, Sem.run_pure, Result.andThen_ok, run_storeVar_row w g t ty old cells hg hi hold h1]
  exact hK _ _ h
end

/-- an entry's five cells. -/
def clE (x : En) : List Value := [.int .i64 x.k, .int .i64 x.a, .int .i64 x.b, .int .i64 x.c, .int .u64 x.d]
theorem clE_len (x : En) : (clE x).length = 5 := rfl
theorem clE_one (x : En) : (clE x).toArray.all (·.oneCell') = true := by
  rw [Array.all_eq_true']
  intro v hv
  simp only [clE, List.mem_toArray, List.mem_cons, List.not_mem_nil, or_false] at hv
  rcases hv with rfl | rfl | rfl | rfl | rfl <;> rfl
theorem infoE5 : (Try.prog.info? 34).map (·.size) = some 5 := by kernel_rfl
theorem infoEP : (Try.prog.info? 34).map (fun i => (i.zero, i.size, i.bytes)) = some (some (.agg #[.int .i64 0, .int .i64 0, .int .i64 0, .int .i64 0, .int .u64 0]), 5, 40) := by kernel_rfl
/-- rows that may be read, below a block. -/
def RowsE (B : Nat) (w : World) (A : Option Addr) (L : List En) : Prop :=
  ∀ (i : Nat) x, L[i]? = some x → ∃ b off, A = some ⟨b, off, none⟩ ∧ b < B ∧ w.rangeAt b (off + i * 5) (clE x)
theorem RowsE.below {B : Nat} {w w' : World} {A : Option Addr} {L : List En} (h : RowsE B w A L) (hb : Below B w w') : RowsE B w' A L := fun i d hd => by
  obtain ⟨b, off, e, hlt, hr⟩ := h i d hd
  exact ⟨b, off, e, hlt, fun j u hu => (hb.cell (p := ⟨b, _, none⟩) hlt).trans (hr j u hu)⟩
theorem RowsE.mono {B B' : Nat} {w : World} {A : Option Addr} {L : List En} (h : RowsE B w A L) (hB : B ≤ B') : RowsE B' w A L := fun i d hd => by
  obtain ⟨b, off, e, hlt, hr⟩ := h i d hd
  exact ⟨b, off, e, by omega, hr⟩
theorem RowsE.take {B : Nat} {w : World} {A : Option Addr} {L : List En} (h : RowsE B w A L) (n : Nat) : RowsE B w A (L.take n) := fun i d hd => h i d (by
  rw [List.getElem?_take] at hd; split at hd; exact hd; cases hd)
theorem RowN.mono {B B' : Nat} {w : World} {A : Option Addr} {l : List Int} (h : RowN B w A l) (hB : B ≤ B') : RowN B' w A l := fun i d => by
  obtain ⟨b, off, e, hlt, hr⟩ := h i d
  exact ⟨b, off, e, by omega, hr⟩
theorem RowN.take {B : Nat} {w : World} {A : Option Addr} {l : List Int} (h : RowN B w A l) (n : Nat) : RowN B w A (l.take n) := fun i hi => by
  rw [List.length_take] at hi
  obtain ⟨b, off, e, hlt, hr⟩ := h i (by omega)
  exact ⟨b, off, e, hlt, by rw [List.getElem_take]; exact hr⟩
/-- an entry is stored whole. -/
theorem stE {d : En} {w : World} {ops : Array Oper} {rest : List Oper} {o : Oper} {a : Act} {Q : Exit → Act → World → Prop} (hgd : o.guard = none) (x y : Operand) (ho : o.op = .store 34 x y)
    (g : Nat) (hx : a.eval x = .pointer (some ⟨g, 0, none⟩)) (hy : a.eval y = .agg (clE d).toArray) (old : Array Value) (hg : Blk w g 34 old) (hold : old.size = 5)
    (h : wpList Try.prog ops Q rest (a.put o.dst undef) (w.setRow g (clE d).toArray)) : wpList Try.prog ops Q (o :: rest) a w :=
  wpList_store_row hgd 34 x y ho g _ hx hy 34 old hg (by rw [infoE5, List.size_toArray, clE_len]) (by rw [hold, List.size_toArray, clE_len]) (clE_one d) h
theorem stEIn {F : Fence} {m : Nat} {d : En} {w : World} {ops : Array Oper} {rest : List Oper} {o : Oper} {a : Act} {Q : Exit → Act → World → Prop} (hgd : o.guard = none) (x y : Operand) (ho : o.op = .store 34 x y)
    (g : Nat) (hx : a.eval x = .pointer (some ⟨g, 0, none⟩)) (hy : a.eval y = .agg (clE d).toArray) (old : Array Value) (hg : Blk w g 34 old) (hold : old.size = 5)
    (h : wpListIn F m Try.prog ops Q rest (a.put o.dst undef) (w.setRow g (clE d).toArray)) : wpListIn F m Try.prog ops Q (o :: rest) a w :=
  wpListIn_store_row hgd 34 x y ho g _ hx hy 34 old hg (by rw [infoE5, List.size_toArray, clE_len]) (by rw [hold, List.size_toArray, clE_len]) (clE_one d) h
/-- whatever leaves all elder blocks alone only lays new ones. -/
theorem grownBy_below {w w' : World} (h : Below w.heap.size w w') : w.grownBy w' none :=
  ⟨h.os, h.tape, h.output, h.size, fun k hk _ => h.block k hk⟩
end Go.Proofs.Ytogplndhciaoeaa
