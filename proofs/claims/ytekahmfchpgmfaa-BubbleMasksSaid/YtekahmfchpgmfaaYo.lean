/- A bubble is the same as itself; loads and comparisons that a guard lets be asked (layer 13). -/
import Derived.Test.YtekahmfchpgmfaaZe
import Derived.Deep.MidRow
namespace Go.Proofs.Ytekahmfchpgmfaa
open Go.RowKit
set_option maxRecDepth 100000

theorem bubFields : Try.prog.underlying 30 = some (.struct (Try.prog.fieldsOf 30)) := by kernel_rfl
theorem bubStood : Try.prog.stoodInHeld 30 = false := by kernel_rfl
theorem self_fields (d : Nat) (xs : Array Value) (w : World) : ∀ fs : List Field, (∀ f ∈ fs, ∃ a, (part f.type xs f.offset).run Try.prog w = .ok a w ∧ (Op.equalIn d f.type a a).run Try.prog w = .ok true w) → (Op.eqFields d xs xs fs).run Try.prog w = .ok true w
  | [], _ => by simp [Op.eqFields]
  | f :: fs, h => by
    obtain ⟨a, p, q⟩ := h f (by simp)
    have ih := self_fields d xs w fs fun g hg => h g (by simp [hg])
    unfold Op.eqFields
    split
    · simp [Sem.run_bind, p, q, ih]
    · exact ih
theorem self_items (d : Nat) (e : TypeId) (c : Nat) (xs : Array Value) (w : World) : ∀ is : List Nat, (∀ i ∈ is, ∃ a, (part e xs (i * c)).run Try.prog w = .ok a w ∧ (Op.equalIn d e a a).run Try.prog w = .ok true w) → (Op.eqItems d e c xs xs is).run Try.prog w = .ok true w
  | [], _ => by simp [Op.eqItems]
  | i :: is, h => by
    obtain ⟨a, p, q⟩ := h i (by simp)
    have ih := self_items d e c xs w is fun g hg => h g (by simp [hg])
    unfold Op.eqItems
    simp [Sem.run_bind, p, q, ih]
theorem part_row {t : TypeId} {n : Nat} {dd : TypeDesc} (xs : Array Value) (off : Nat) (w : World) (hu : Try.prog.underlying t = some dd) (hd : dd.isRow = true) (hi : (Try.prog.info? t).map (·.size) = some n) : (part t xs off).run Try.prog w = .ok (.agg (xs.extract off (off + n))) w := by
  have hagg : (isAgg t).run Try.prog w = .ok true w := by
    unfold isAgg
    rw [Sem.run_bind, run_underlying hu w]
    cases dd <;> simp_all
  cases hq : Try.prog.info? t with
  | none => simp [hq] at hi
  | some i =>
    have hs : i.size = n := by simpa [hq] using hi
    simp [part, Sem.run_bind, hagg, sizeOf, typeInfo, hq, hs]
theorem self_int {k : IntKind} {t : TypeId} (hu : Try.prog.underlying t = some (.int k)) (hp : Try.prog.plainKey t = true) (d : Nat) (xs : Array Value) (off : Nat) (n : Int) (hx : xs[off]? = some (.int k n)) (w : World) : ∃ a, (part t xs off).run Try.prog w = .ok a w ∧ (Op.equalIn (d + 1) t a a).run Try.prog w = .ok true w :=
  ⟨_, run_part_plain w hp hx, by rw [run_equalIn_int w d t k k n n hu]; simp⟩
theorem self_arr {k : IntKind} {t e : TypeId} {n : Nat} {i : TypeInfo} (hu : Try.prog.underlying t = some (.array n e)) (hi : Try.prog.info? e = some i) (hn : (Try.prog.info? t).map (·.size) = some n) (hc : Try.prog.cellsOf e = 1) (he : Try.prog.underlying e = some (.int k)) (hp : Try.prog.plainKey e = true) (d : Nat) (xs : Array Value) (off : Nat)
    (hx : ∀ j, j < n → ∃ m, xs[off + j]? = some (.int k m)) (w : World) : ∃ a, (part t xs off).run Try.prog w = .ok a w ∧ (Op.equalIn (d + 2) t a a).run Try.prog w = .ok true w := by
  refine ⟨_, part_row xs off w hu rfl hn, ?_⟩
  rw [run_equalIn_array w (d + 1) _ _ hu hi]
  refine self_items (d + 1) e _ _ w _ fun j hj => ?_
  have hj' : j < n := by simpa using hj
  obtain ⟨m, hm⟩ := hx j hj'
  refine self_int he hp d _ _ m ?_ w
  rw [hc, Nat.mul_one, Array.getElem?_extract, if_pos (by
    have := (Array.getElem?_eq_some_iff.1 hm).1
    omega)]
  exact hm
theorem bubL_word (x : Bub) (j : Nat) (hj : j < 16) : ∃ m, (bubL x)[1 + j]? = some (.int .u64 m) := by
  unfold bubL
  rw [show 1 + j = j + 1 by omega, List.getElem?_cons_succ, List.getElem?_append_left (by simp [cellsOf]; exact hj)]
  simp [cellsOf, hj]
set_option maxHeartbeats 4000000 in
theorem bub_eql (x : Bub) (w : World) : (binOp .eql 30 (.agg (bubL x).toArray) (.agg (bubL x).toArray)).run Try.prog w = .ok (.bool true) w := by
  have hf := Option.some.inj (bubFields.symm.trans Try.underlying30)
  injection hf with hf
  have h := run_equalIn_struct (P := Try.prog) w 9999 30 (bubL x).toArray (bubL x).toArray bubFields bubStood
  simp only [Nat.reduceAdd] at h
  obtain ⟨i64, hi64⟩ : ∃ i, Try.prog.info? 26 = some i := Option.isSome_iff_exists.1 (by kernel_rfl)
  have hs : (Op.eqFields 9999 (bubL x).toArray (bubL x).toArray (Try.prog.fieldsOf 30).toList).run Try.prog w = .ok true w := by
    rw [hf]
    refine self_fields 9999 (bubL x).toArray w _ fun f hfm => ?_
    simp only [List.mem_cons, List.not_mem_nil, or_false] at hfm
    rcases hfm with rfl | rfl | rfl | rfl
    · exact self_int Try.underlying3 (by kernel_rfl) 9998 _ 0 _ (by simpa using bubL_0 x) w
    · exact self_arr (k := .u64) Try.underlying28 hi64 (by kernel_rfl) (by kernel_rfl) Try.underlying26 (by kernel_rfl) 9997 _ 1 (fun j hj => by simpa using bubL_word x j hj) w
    · exact self_int Try.underlying3 (by kernel_rfl) 9998 _ 17 _ (by simpa using bubL_17 x) w
    · exact self_int Try.underlying3 (by kernel_rfl) 9998 _ 18 _ (by simpa using bubL_18 x) w
  rw [run_eql_struct, h, hs]
  rfl
theorem bub_neq (x : Bub) (w : World) : (binOp .neq 30 (.agg (bubL x).toArray) (.agg (bubL x).toArray)).run Try.prog w = .ok (.bool false) w := by
  have h := bub_eql x w
  rw [run_eql_struct] at h
  rw [run_neq_struct]
  cases hq : (Op.equalIn 10000 30 (.agg (bubL x).toArray) (.agg (bubL x).toArray)).run Try.prog w with
  | ok b w' =>
    rw [hq] at h
    simp only [Result.andThen_ok] at h
    injection h with h1 h2
    injection h1 with h1
    subst h1; subst h2
    rfl
  | _ => rw [hq] at h; simp [Result.andThen] at h
theorem bubGuard : Try.prog.eqGuardType Try.prog.depth 30 = false := by kernel_rfl
theorem neqB_halt {ops : Array Oper} {rest : List Oper} {op : Oper} {a : Act} {w : World} {Q : Exit → Act → World → Prop} {g : Nat × Bool} {u : TypeId} (_ : op.guard = some g) (x y : Operand) (_ : op.op = .binOp .neq 30 x y u) (h : Hid (wpList Try.prog ops Q (op :: rest) a w)) : wpList Try.prog ops Q (op :: rest) a w := h.out
theorem neqB_same {ops : Array Oper} {rest : List Oper} {op : Oper} {a : Act} {w : World} {Q : Exit → Act → World → Prop} {u : TypeId} (hw : Region.wanted op (yielded ops a.tmps) = true) (x y : Operand) (ho : op.op = .binOp .neq 30 x y u) (z : Bub) (hx : a.eval x = .agg (bubL z).toArray) (hy : a.eval y = .agg (bubL z).toArray)
    (h : wpList Try.prog ops Q rest (a.put op.dst (.bool false)) w) : wpList Try.prog ops Q (op :: rest) a w := by
  refine wpList_step fun K hK => ?_
  rw [if_pos hw]
  unfold Oper.wp execOp
  simp only [ho, hx, hy, Sem.run_bind, Sem.run_pure, Result.andThen_ok, run_eqGuard_agg w .neq 30 x y (bubL z).toArray (bubL z).toArray bubGuard, bub_neq z w]
  exact hK _ _ h
theorem loadB_halt {ops : Array Oper} {rest : List Oper} {op : Oper} {a : Act} {w : World} {Q : Exit → Act → World → Prop} {g : Nat × Bool} (_ : op.guard = some g) (x : Operand) (_ : op.op = .load 30 x) (h : Hid (wpList Try.prog ops Q (op :: rest) a w)) : wpList Try.prog ops Q (op :: rest) a w := h.out
theorem loadS_halt {ops : Array Oper} {rest : List Oper} {op : Oper} {a : Act} {w : World} {Q : Exit → Act → World → Prop} {g : Nat × Bool} (_ : op.guard = some g) (x : Operand) (_ : op.op = .load 28 x) (h : Hid (wpList Try.prog ops Q (op :: rest) a w)) : wpList Try.prog ops Q (op :: rest) a w := h.out
theorem loadG {ops : Array Oper} {rest : List Oper} {op : Oper} {a : Act} {w : World} {Q : Exit → Act → World → Prop} (hw : Region.wanted op (yielded ops a.tmps) = true) (t : TypeId) (x : Operand) (ho : op.op = .load t x)
    (b o : Nat) (hx : a.eval x = .pointer (some ⟨b, o, none⟩)) (cs : List Value) (dd : TypeDesc) (hc : w.rangeAt b o cs) (hu : Try.prog.underlying t = some dd) (hd : dd.isRow = true) (hi : (Try.prog.info? t).map (·.size) = some cs.length)
    (h : wpList Try.prog ops Q rest (a.put op.dst (.agg cs.toArray)) w) : wpList Try.prog ops Q (op :: rest) a w :=
  wpList_step fun K hK => by rw [if_pos hw]; exact wp_load_mid t x ho b o hx cs _ hc hu hd hi (hK _ _ h)
theorem wpList_build_slice {ops : Array Oper} {rest : List Oper} {o : Oper} {a : Act} {w : World} {Q : Exit → Act → World → Prop} (hg : o.guard = none) (t : TypeId) (n : Nat) (parts : Array (Nat × Operand)) (ho : o.op = .buildSlice t n parts)
    (vals : Array (Nat × Value)) (hp : (parts.map fun (i, x) => (i, a.eval x)) = vals) (u : Value) (w' : World) (hr : (Instr.buildSlice t n vals).run Try.prog w = .ok u w') (hK : wpList Try.prog ops Q rest (a.put o.dst u) w') : wpList Try.prog ops Q (o :: rest) a w :=
  wpList_plain hg fun _ hKK => by
    unfold Oper.wp execOp
    simp only [ho, hp, Sem.run_bind, Sem.run_pure, Result.andThen_ok, hr]
    exact hKK _ _ hK
theorem bslice_halt {ops : Array Oper} {rest : List Oper} {op : Oper} {a : Act} {w : World} {Q : Exit → Act → World → Prop} (n : Nat) (parts : Array (Nat × Operand)) (_ : op.op = .buildSlice 66 n parts) (h : Hid (wpList Try.prog ops Q (op :: rest) a w)) : wpList Try.prog ops Q (op :: rest) a w := h.out
end Go.Proofs.Ytekahmfchpgmfaa
