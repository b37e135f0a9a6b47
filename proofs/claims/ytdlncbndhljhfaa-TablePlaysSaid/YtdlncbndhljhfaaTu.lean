/- A table's Get; tasks held against one another (layer 12). -/
import Derived.Test.YtdlncbndhljhfaaTs
import Derived.Laws.StructEq
import Derived.ChangeKeysEq
namespace Go.Proofs.Ytdlncbndhljhfaa
open Go.RowKit

section
variable {b c gl gn room : Nat} {v : Value} {ts : List (List Value)} {ls : Nat → List Nat} {w : World}
set_option maxRecDepth 100000 in
set_option maxHeartbeats 4000000 in
theorem tget_out {p : Option Addr} (i : Int) (w : World) (H : ∀ W, Below w.heap.size w W → Calls Try.prog 49 #[.pointer p, .int .i64 i] W fun e w' => e = .returned (.bool false) ∧ W = w') :
    Calls Try.prog 22 #[.pointer p, .int .i64 i] w (GotB w.heap.size (.tuple #[.agg zT.toArray, .bool false]) w) := by
  have hB : Below w.heap.size w (w.alloc (.cells zT.toArray 38)) := (Below.refl _ _).alloc (Nat.le_refl _) _
  have HB := Lib.hid hB
  have HH := Lib.hid (H (w.alloc (.cells zT.toArray 38)) hB)
  have hl := Lib.hid (loadVar_task (BT.new w zT) rfl)
  clear hB H
  go_enter Try.func22, Try.ntmps22
  go_upto_region 2 with (go_at_call 49; refine HH.out.mono ?_; rintro e wq ⟨rfl, rfl⟩)
  apply wp_region_lit
  refine build_op rfl _ _ rfl (.agg zT.toArray) (by kernel_rfl) ?_
  have h29 : zT.toArray.size = 29 := rfl
  have h1 : zT.toArray.all (·.oneCell') = true := all_oneCell_toArray zT_ok.one
  clear HH
  generalize zT = S at *
  refine st_new rfl (.tmp 4) (.tmp 10) rfl w.heap.size rfl _ S.toArray rfl rfl (infoT.trans (congrArg some h29.symm)) rfl h1 ?_
  go_wp2_with fail
  have hl := hl.out
  refine bodyPost_ret (v := .tuple #[.agg S.toArray, .bool false]) (by simp [results, Try.results22, asAddr, hl]) rfl ?_
  exact ⟨rfl, HB.out⟩
set_option maxRecDepth 100000 in
set_option maxHeartbeats 4000000 in
theorem tget_at (i : Nat) (x : List Value) (h : TabC b c gl gn v room ts ls w) (hx : ts[i]? = some x) :
    Calls Try.prog 22 #[.pointer (some ⟨b, 0, none⟩), .int .i64 i] w (GotB w.heap.size (.tuple #[.agg x.toArray, .bool true]) w) := by
  have hi := (List.getElem?_eq_some_iff.1 hx).1
  have hB : Below w.heap.size w (w.alloc (.cells #[.int .i64 0, .int .i64 0, .int .i32 0, .int .i32 0, .int .i32 0, .int .i32 0, .int .i64 0, .int .u64 0, .int .u64 0, .int .u64 0, .int .u64 0, .int .u64 0, .int .u64 0, .int .u64 0, .int .u64 0, .int .u64 0, .int .u64 0, .int .u64 0, .int .u64 0, .int .u64 0, .int .u64 0, .int .u64 0, .int .u64 0, .int .i64 0, .int .i64 0, .int .i64 0, .int .i64 0, .int .i64 0, .int .i64 0] 38)) := (Below.refl _ _).alloc (Nat.le_refl _) _
  have H := has_any (i : Int) (h.below hB)
  rw [inB_yes hi] at H
  have HH := Lib.hid H
  have hT := h.below hB
  obtain ⟨g, cap, hv, hr, ho⟩ := hT.at_ hx
  have c1 := hT.cells.2.1
  rw [hv] at c1
  have HR := Lib.hid hr
  have HI := Lib.hid (infoT.trans (congrArg some ho.len.symm))
  have hxl := ho.len
  have hst := run_storeCells_new (P := Try.prog) w 38 #[.int .i64 0, .int .i64 0, .int .i32 0, .int .i32 0, .int .i32 0, .int .i32 0, .int .i64 0, .int .u64 0, .int .u64 0, .int .u64 0, .int .u64 0, .int .u64 0, .int .u64 0, .int .u64 0, .int .u64 0, .int .u64 0, .int .u64 0, .int .u64 0, .int .u64 0, .int .u64 0, .int .u64 0, .int .u64 0, .int .u64 0, .int .i64 0, .int .i64 0, .int .i64 0, .int .i64 0, .int .i64 0, .int .i64 0] x.toArray (infoT.trans (congrArg some (by simpa using hxl.symm))) (by simp [hxl]) (all_oneCell_toArray ho.one)
  have hl := Lib.hid (loadVar_task (BT.new w x) hxl)
  have HB : Hid (Below w.heap.size w (w.alloc (.cells x.toArray 38))) := (Below.refl _ _).alloc (Nat.le_refl _) _
  have i0 : (0 : Int) ≤ (i : Int) := by omega
  have i1 : (i : Int) < (ts.length : Int) := by omega
  clear h H hB hT hv hr ho hx
  generalize ts.length = n at *
  go_enter Try.func22, Try.ntmps22
  go_wp2_with (first
    | (with_reducible (show wpList _ _ _ _ _ _); refine wpList_load_mid rfl 38 (.tmp 16) rfl g (i * 29) rfl x _ HR.out Try.underlying38 rfl HI.out ?_)
    | (go_at_call 49; (with_reducible refine HH.out.mono ?_); rintro e wq ⟨rfl, rfl⟩))
  have hl := hl.out
  refine bodyPost_ret (v := .tuple #[.agg x.toArray, .bool true]) (by simp [results, Try.results22, asAddr, hl]) rfl ?_
  exact ⟨rfl, HB.out⟩
end
theorem taskFields : Try.prog.underlying 38 = some (.struct (Try.prog.fieldsOf 38)) := by kernel_rfl
theorem taskStood : Try.prog.stoodInHeld 38 = false := by kernel_rfl
theorem self_fields (d : Nat) (xs : Array Value) (w : World) : ∀ fs : List Field, (∀ f ∈ fs, ∃ a, (part f.type xs f.offset).run Try.prog w = .ok a w ∧ (Op.equalIn d f.type a a).run Try.prog w = .ok true w) → (Op.eqFields d xs xs fs).run Try.prog w = .ok true w
  | [], _ => by simp [Op.eqFields]
  | f :: fs, h => by
    obtain ⟨a, p, q⟩ := h f (by simp)
    have ih := self_fields d xs w fs fun g hg => h g (by simp [hg])
    unfold Op.eqFields
    split
    · simp [Sem.run_bind, p, q, ih]
    · exact ih
theorem self_items (d : Nat) (e : TypeId) (c : Nat) (xs : Array Value) (w : World) : ∀ is : List Nat, (∀ i ∈ is, ∃ a, (part e xs (i * c)).run Try.prog w = .ok a w ∧ (Op.equalIn d e a a).run Try.prog w = .ok true w) → (Op.eqItems d e c xs xs is).run Try.prog w = .ok true w
  | [], _ => by simp [Op.eqItems]
  | i :: is, h => by
    obtain ⟨a, p, q⟩ := h i (by simp)
    have ih := self_items d e c xs w is fun g hg => h g (by simp [hg])
    unfold Op.eqItems
    simp [Sem.run_bind, p, q, ih]
theorem part_row {t : TypeId} {n : Nat} {dd : TypeDesc} (xs : Array Value) (off : Nat) (w : World) (hu : Try.prog.underlying t = some dd) (hd : dd.isRow = true) (hi : (Try.prog.info? t).map (·.size) = some n) : (part t xs off).run Try.prog w = .ok (.agg (xs.extract off (off + n))) w := by
  have hagg : (isAgg t).run Try.prog w = .ok true w := by
    unfold isAgg
    rw [Sem.run_bind, run_underlying hu w]
    cases dd <;> simp_all
  cases hq : Try.prog.info? t with
  | none => simp [hq] at hi
  | some i =>
    have hs : i.size = n := by simpa [hq] using hi
    simp [part, Sem.run_bind, hagg, sizeOf, typeInfo, hq, hs]
/-- A number is the same as itself. -/
theorem self_int {k : IntKind} {t : TypeId} (hu : Try.prog.underlying t = some (.int k)) (hp : Try.prog.plainKey t = true) (d : Nat) (xs : Array Value) (off : Nat) (n : Int) (hx : xs[off]? = some (.int k n)) (w : World) : ∃ a, (part t xs off).run Try.prog w = .ok a w ∧ (Op.equalIn (d + 1) t a a).run Try.prog w = .ok true w :=
  ⟨_, run_part_plain w hp hx, by rw [run_equalIn_int w d t k k n n hu]; simp⟩
theorem self_arr {k : IntKind} {t e : TypeId} {n : Nat} {i : TypeInfo} (hu : Try.prog.underlying t = some (.array n e)) (hi : Try.prog.info? e = some i) (hn : (Try.prog.info? t).map (·.size) = some n) (hc : Try.prog.cellsOf e = 1) (he : Try.prog.underlying e = some (.int k)) (hp : Try.prog.plainKey e = true) (d : Nat) (xs : Array Value) (off : Nat)
    (hx : ∀ j, j < n → ∃ m, xs[off + j]? = some (.int k m)) (w : World) : ∃ a, (part t xs off).run Try.prog w = .ok a w ∧ (Op.equalIn (d + 2) t a a).run Try.prog w = .ok true w := by
  refine ⟨_, part_row xs off w hu rfl hn, ?_⟩
  rw [run_equalIn_array w (d + 1) _ _ hu hi]
  refine self_items (d + 1) e _ _ w _ fun j hj => ?_
  have hj' : j < n := by simpa using hj
  obtain ⟨m, hm⟩ := hx j hj'
  refine self_int he hp d _ _ m ?_ w
  rw [hc, Nat.mul_one, Array.getElem?_extract, if_pos (by
    have := (Array.getElem?_eq_some_iff.1 hm).1
    omega)]
  exact hm
set_option maxRecDepth 100000 in
set_option maxHeartbeats 4000000 in
theorem task_self (cs : List Value) (ho : OkT cs) (w : World) : (binOp .eql 38 (.agg cs.toArray) (.agg cs.toArray)).run Try.prog w = .ok (.bool true) w := by
  have hf := Option.some.inj (taskFields.symm.trans Try.underlying38)
  injection hf with hf
  have h := run_equalIn_struct (P := Try.prog) w 9999 38 cs.toArray cs.toArray taskFields taskStood
  simp only [Nat.reduceAdd] at h
  have hget : ∀ j, j < 29 → cs.toArray[j]? = some (.int (kindT j) (fld cs j)) := fun j hj => by simpa using ho.get hj
  obtain ⟨i32, hi32⟩ : ∃ i, Try.prog.info? 21 = some i := Option.isSome_iff_exists.1 (by kernel_rfl)
  obtain ⟨i64, hi64⟩ : ∃ i, Try.prog.info? 34 = some i := Option.isSome_iff_exists.1 (by kernel_rfl)
  have hs : (Op.eqFields 9999 cs.toArray cs.toArray (Try.prog.fieldsOf 38).toList).run Try.prog w = .ok true w := by
    rw [hf]
    refine self_fields 9999 cs.toArray w _ fun f hfm => ?_
    simp only [List.mem_cons, List.not_mem_nil, or_false] at hfm
    rcases hfm with rfl | rfl | rfl | rfl | rfl | rfl | rfl | rfl | rfl | rfl | rfl
    · exact self_int Try.underlying3 (by kernel_rfl) 9998 _ 0 _ (hget 0 (by omega)) w
    · exact self_int Try.underlying3 (by kernel_rfl) 9998 _ 1 _ (hget 1 (by omega)) w
    · exact self_arr (k := .i32) Try.underlying33 hi32 (by kernel_rfl) (by kernel_rfl) Try.underlying21 (by kernel_rfl) 9997 _ 2 (fun j hj => ⟨_, (hget (2 + j) (by omega)).trans (by rw [show kindT (2 + j) = .i32 from if_pos (by omega)])⟩) w
    · exact self_int Try.underlying3 (by kernel_rfl) 9998 _ 6 _ (hget 6 (by omega)) w
    · exact self_arr (k := .u64) Try.underlying36 hi64 (by kernel_rfl) (by kernel_rfl) Try.underlying34 (by kernel_rfl) 9997 _ 7 (fun j hj => ⟨_, (hget (7 + j) (by omega)).trans (by rw [show kindT (7 + j) = .u64 from (if_neg (by omega)).trans (if_pos (by omega))])⟩) w
    · exact self_int Try.underlying3 (by kernel_rfl) 9998 _ 23 _ (hget 23 (by omega)) w
    · exact self_int Try.underlying3 (by kernel_rfl) 9998 _ 24 _ (hget 24 (by omega)) w
    · exact self_int Try.underlying3 (by kernel_rfl) 9998 _ 25 _ (hget 25 (by omega)) w
    · exact self_int Try.underlying3 (by kernel_rfl) 9998 _ 26 _ (hget 26 (by omega)) w
    · exact self_int Try.underlying3 (by kernel_rfl) 9998 _ 27 _ (hget 27 (by omega)) w
    · exact self_int Try.underlying3 (by kernel_rfl) 9998 _ 28 _ (hget 28 (by omega)) w
  rw [run_eql_struct, h, hs]
  simp
end Go.Proofs.Ytdlncbndhljhfaa
