/- Regions that draw their order, whose calls make memory of their own and leave all older memory alone: one walk in the order of the text serves every order. Arrays of sixteen words held against each other. -/
import Derived.Test.YtchhenpijbecaaaDoorSo
import Derived.ChangeKeysEq
import Derived.Deep.Quiet
namespace Go.Proofs.YtchhenpijbecaaaDoor
open Go.RowKit

/-- Nothing that was there in w has turned. -/
def Cls (B : Nat) (w : World) : World → Prop := fun w' => Below B w w'
theorem Cls.bl {B : Nat} {w w' : World} (h : Cls B w w') : Below B w w' := h
theorem Cls.blk {B : Nat} {w w' : World} (h : Cls B w w') {g : Nat} (hg : g < B) {o : Option Obj} (e : w.heap[g]? = o) : w'.heap[g]? = o := (h.bl.block g hg).trans e

theorem wp_region_cls {P : Program} {id : Nat} {Q : Exit → Act → World → Prop} {a : Act} {w : World} {l : List Oper} (hm : P.follows .mixedOrders = true) (hB : Region.lexB .any l.toArray = true)
    (h : wpQuiet P l.toArray (Cls w.heap.size w) (fun a' => ∀ w', Cls w.heap.size w w' → Q .normal a' w') l a) : (Code.region id l.toArray true).wp P Q a w :=
  wp_region_quiet (C := Cls w.heap.size w) hm hB ((Below.refl _ _).drew) (by simpa only using h)

theorem quiet_call {P : Program} {f : FuncId} {args : Array Value} {w w' : World} {B : Nat} {v : Value} (hw : Cls B w w') (hB : B ≤ w.heap.size)
    (h : Calls P f args w' fun e w'' => e = .returned v ∧ Below w'.heap.size w' w'') : Calls P f args w' fun e w'' => e = .returned v ∧ Cls B w w'' :=
  h.mono fun _ _ ⟨he, hb⟩ => ⟨he, hw.bl.trans (hb.mono (Nat.le_trans hB hw.bl.size))⟩

theorem quiet_load_set {C : World → Prop} {o : Oper} {a : Act} {K : Act → Prop} (x : Operand) (ho : o.op = .load 33 x) (g : Nat) (p : Nat → Bool) (hx : a.eval x = .pointer (some ⟨g, 0, none⟩))
    (hC : ∀ w', C w' → w'.heap[g]? = some (.cells (cellsOf p) 33 (0, 0))) (hk : K (a.put o.dst (.agg (cellsOf p)))) : o.quiet Tryd.prog a C K :=
  ⟨_, fun w' h => by
    unfold Oper.quietAt execOp
    simp only [ho, hx, Instr.loadAt, Instr.sureAddr, Sem.run_bind, Sem.run_pure, Result.andThen_ok, run_loadVar_row w' g 33 33 _ (0, 0) _ (hC w' h) underSet rfl (by rw [infoSet, cellsOf_size])]
    exact ⟨rfl, rfl⟩, hk⟩

/-- The same workers. -/
def eqP (p q : Nat → Bool) : Bool := (List.range 1024).all fun n => p n == q n
theorem eqP_true {p q : Nat → Bool} : eqP p q = true ↔ ∀ n, n < 1024 → p n = q n := by simp [eqP]
theorem infoWord : ∃ i, Tryd.prog.info? 31 = some i := by
  have h : (Tryd.prog.info? 31).isSome = true := by kernel_rfl
  exact Option.isSome_iff_exists.1 h
theorem cellsWord : Tryd.prog.cellsOf 31 = 1 := by kernel_rfl
def wordsEq (p q : Nat → Bool) (l : List Nat) : Bool := l.all fun i => word p i == word q i
theorem run_items (d : Nat) (w : World) (p q : Nat → Bool) : ∀ l : List Nat, (∀ i ∈ l, i < 16) → (Op.eqItems (d + 1) 31 1 (cellsOf p) (cellsOf q) l).run Tryd.prog w = .ok (wordsEq p q l) w
  | [], _ => by simp [Op.eqItems, wordsEq]
  | i :: l, h => by
    have hi : i < 16 := h i (by simp)
    have ih := run_items d w p q l (fun j hj => h j (by simp [hj]))
    have h1 : (part 31 (cellsOf p) (i * 1)).run Tryd.prog w = .ok (.int .u64 (word p i)) w := by
      simp [part, Sem.run_bind, cellsOf_get p i hi]
    have h2 : (part 31 (cellsOf q) (i * 1)).run Tryd.prog w = .ok (.int .u64 (word q i)) w := by
      simp [part, Sem.run_bind, cellsOf_get q i hi]
    have h3 : ((word p i : Int) == (word q i : Int)) = (word p i == word q i) := by
      rw [Bool.eq_iff_iff, beq_iff_eq, beq_iff_eq]; exact Int.ofNat_inj
    simp only [Op.eqItems, Sem.run_bind, h1, h2, Result.andThen_ok, run_equalIn_int w d 31 .u64 .u64 _ _ Tryd.underlying31, h3]
    cases hb : (word p i == word q i)
    · simp [wordsEq, hb]
    · simp only [Bool.not_true, Bool.false_eq_true, if_false, ih]
      simp [wordsEq, hb]
theorem wordsEq_eqP (p q : Nat → Bool) : wordsEq p q (List.range 16) = eqP p q := by
  rw [Bool.eq_iff_iff, eqP_true]
  simp only [wordsEq, List.all_eq_true, List.mem_range, beq_iff_eq]
  constructor
  · intro h n hn
    have := word_inj (h (n / 64) (by omega)) (n % 64) (by omega)
    rwa [show 64 * (n / 64) + n % 64 = n by omega] at this
  · intro h i hi
    exact word_congr fun k hk => h _ (by omega)
theorem run_equal_set (p q : Nat → Bool) (w : World) : (Op.equalIn 10000 33 (.agg (cellsOf p)) (.agg (cellsOf q))).run Tryd.prog w = .ok (eqP p q) w := by
  obtain ⟨i, hi⟩ := infoWord
  rw [run_equalIn_array w 9999 _ _ underSet hi, cellsWord, run_items 9998 w p q _ (fun j hj => by simpa using hj), wordsEq_eqP]
theorem noGuardSet : Tryd.prog.eqGuardType Tryd.prog.depth 33 = false := by kernel_rfl

theorem quiet_eql_set {C : World → Prop} {o : Oper} {a : Act} {K : Act → Prop} (x y : Operand) (ty : TypeId) (ho : o.op = .binOp .eql 33 x y ty) (p q : Nat → Bool) (hx : a.eval x = .agg (cellsOf p)) (hy : a.eval y = .agg (cellsOf q))
    (hk : K (a.put o.dst (.bool (eqP p q)))) : o.quiet Tryd.prog a C K :=
  ⟨_, fun w' _ => by
    unfold Oper.quietAt execOp
    simp only [ho, hx, hy, Sem.run_bind, run_eqGuard_agg w' .eql 33 x y _ _ noGuardSet, run_eql_struct, run_equal_set, Result.andThen_ok]
    exact ⟨rfl, rfl⟩, hk⟩
theorem quiet_neq_set {C : World → Prop} {o : Oper} {a : Act} {K : Act → Prop} (x y : Operand) (ty : TypeId) (ho : o.op = .binOp .neq 33 x y ty) (p q : Nat → Bool) (hx : a.eval x = .agg (cellsOf p)) (hy : a.eval y = .agg (cellsOf q))
    (hk : K (a.put o.dst (.bool (!eqP p q)))) : o.quiet Tryd.prog a C K :=
  ⟨_, fun w' _ => by
    unfold Oper.quietAt execOp
    simp only [ho, hx, hy, Sem.run_bind, run_eqGuard_agg w' .neq 33 x y _ _ noGuardSet, run_neq_struct, run_equal_set, Result.andThen_ok]
    exact ⟨rfl, rfl⟩, hk⟩

theorem eql_set {ops : Array Oper} {rest : List Oper} {o : Oper} {a : Act} {w : World} {Q : Exit → Act → World → Prop} (hgd : Region.wanted o (yielded ops a.tmps) = true) (x y : Operand) (ty : TypeId) (ho : o.op = .binOp .eql 33 x y ty)
    (p q : Nat → Bool) (hx : a.eval x = .agg (cellsOf p)) (hy : a.eval y = .agg (cellsOf q))
    (h : wpList Tryd.prog ops Q rest (a.put o.dst (.bool (eqP p q))) w) : wpList Tryd.prog ops Q (o :: rest) a w :=
  BigFrame.wpList_want hgd fun _ hK => by
    unfold Oper.wp execOp
    simp only [ho, hx, hy, Sem.run_bind, run_eqGuard_agg w .eql 33 x y _ _ noGuardSet, run_eql_struct, run_equal_set, Result.andThen_ok]
    exact hK _ _ h
theorem neq_set {ops : Array Oper} {rest : List Oper} {o : Oper} {a : Act} {w : World} {Q : Exit → Act → World → Prop} (hgd : Region.wanted o (yielded ops a.tmps) = true) (x y : Operand) (ty : TypeId) (ho : o.op = .binOp .neq 33 x y ty)
    (p q : Nat → Bool) (hx : a.eval x = .agg (cellsOf p)) (hy : a.eval y = .agg (cellsOf q))
    (h : wpList Tryd.prog ops Q rest (a.put o.dst (.bool (!eqP p q))) w) : wpList Tryd.prog ops Q (o :: rest) a w :=
  BigFrame.wpList_want hgd fun _ hK => by
    unfold Oper.wp execOp
    simp only [ho, hx, hy, Sem.run_bind, run_eqGuard_agg w .neq 33 x y _ _ noGuardSet, run_neq_struct, run_equal_set, Result.andThen_ok]
    exact hK _ _ h

end Go.Proofs.YtchhenpijbecaaaDoor
