/- layer 31 (codec): ParseEvents, ParseEntries. -/
import Derived.Test.YtchhenpijbecaaaDoorCr
import Derived.Test.YtchhenpijbecaaaDoorCs
namespace Go.Proofs.YtchhenpijbecaaaDoor
open Go.RowKit
set_option maxRecDepth 100000

theorem taker_any (A : Option Addr) (n cap : Nat) (k : Int) (w : World) :
    Calls Tryd.prog 30 #[.slice A n cap, .int .i64 k] w fun e w' => e = .returned (.func (.func 43) #[] #[.pointer (some ⟨w.heap.size, 0, none⟩), .pointer (some ⟨w.heap.size + 1, 0, none⟩)]) ∧
      Blk w' w.heap.size 22 #[.slice A n cap] ∧ Blk w' (w.heap.size + 1) 3 #[.int .i64 k] ∧ Below w.heap.size w w' ∧ w'.heap.size = w.heap.size + 2 := by
  go_enter Tryd.func30, Tryd.ntmps30
  go_wp2_with fail
  go_ret
  refine ⟨by simp, (Blk.new w _ _).alloc _, ?_, ((Below.refl _ _).alloc (Nat.le_refl _) _).alloc (by simp) _, by simp⟩
  have := Blk.new (w.alloc (.cells #[.slice A n cap] 22)) 3 #[.int .i64 k]
  simpa using this
theorem infoA5 : (Tryd.prog.info? 77).map (·.size) = some 5 := by kernel_rfl
/-- five numbers' cells, some of them written. -/
def ar5 (xs : List Int) : Array Value := ((xs ++ List.replicate (5 - xs.length) 0).map (Value.int .i64)).toArray
theorem ar5_len {xs : List Int} (h : xs.length ≤ 5) : (ar5 xs).size = 5 := by simp [ar5]; omega
theorem ar5_set {xs : List Int} (h : xs.length < 5) (x : Int) : (ar5 xs).setIfInBounds xs.length (.int .i64 x) = ar5 (xs ++ [x]) := by
  unfold ar5
  obtain ⟨k, hk⟩ : ∃ k, 5 - xs.length = k + 1 := ⟨4 - xs.length, by omega⟩
  rw [hk, List.length_append, show 5 - (xs.length + [x].length) = k by simp; omega]
  simp [List.replicate_succ]
theorem ar5_get {xs : List Int} (h : xs.length < 5) : (ar5 xs)[xs.length]? = some (.int .i64 0) := by
  unfold ar5
  obtain ⟨k, hk⟩ : ∃ k, 5 - xs.length = k + 1 := ⟨4 - xs.length, by omega⟩
  rw [hk, List.replicate_succ]
  simp
/-- five numbers that are told one behind the other. -/
def Tg5 (q s : Nat) (W : World) (xs : List Int) : Prop := xs.length ≤ 5 ∧ Blk W q 77 (ar5 xs) ∧
  Blk W s 72 #[.pointer (some ⟨q, 0, none⟩), .pointer (some ⟨q, 1, none⟩), .pointer (some ⟨q, 2, none⟩), .pointer (some ⟨q, 3, none⟩), .pointer (some ⟨q, 4, none⟩)]
theorem tg5_step {q s gA h B : Nat} {X : Nat → Prop} (hqs : q ≠ s) (hX : X q) (hg : q ≠ gA) (hh : q ≠ h) (hB : B ≤ q) : ∀ W xs, Tg5 q s W xs → xs.length < 5 →
    ∃ b o, W.cell? ⟨s, xs.length, none⟩ = some (.pointer (some ⟨b, o, none⟩)) ∧ (∃ y, W.cell? ⟨b, o, none⟩ = some (.int .i64 y)) ∧ W.frozen? ⟨b, o, none⟩ = false ∧ X b ∧ b ≠ gA ∧ b ≠ h ∧ B ≤ b ∧ ∀ x, Tg5 q s (W.setCell ⟨b, o, none⟩ (.int .i64 x)) (xs ++ [x]) := by
  intro W xs ⟨hl, hq, hs⟩ hlt
  refine ⟨q, xs.length, ?_, ⟨0, ?_⟩, hq.free _, hX, hg, hh, hB, fun x => ⟨by simp; omega, ?_, hs.far hqs.symm _⟩⟩
  · rw [hs.cell]
    generalize xs.length = i at hlt
    match i, hlt with
    | 0, _ => rfl
    | 1, _ => rfl
    | 2, _ => rfl
    | 3, _ => rfl
    | 4, _ => rfl
  · rw [hq.cell]; exact ar5_get hlt
  · have := hq.set_ xs.length (.int .i64 x)
    rw [ar5_set hlt] at this; exact this
theorem tg5_far {q s h : Nat} (hq : q ≠ h) (hs : s ≠ h) : ∀ W xs v, Tg5 q s W xs → Tg5 q s (W.setCell ⟨h, 0, none⟩ v) xs :=
  fun _ _ _ ⟨a, b, c⟩ => ⟨a, b.far hq _, c.far hs _⟩
theorem takeN_len (l : List UInt8) (n : Nat) : ∀ k xs m, takeN l n k = some (xs, m) → xs.length = n := by
  induction n with
  | zero => intro k xs m h; simp [takeN] at h; simp [h.1]
  | succ n ih =>
    intro k xs m h
    rw [takeN] at h
    match hg : getN l k with
    | none => rw [hg] at h; cases h
    | some (x, j) =>
      rw [hg] at h
      match ht : takeN l n j with
      | none => simp [ht] at h
      | some (ys, m') =>
        simp [ht] at h
        rw [← h.1]; simp [ih j ys m' ht]
theorem ld_a5 {ops : Array Oper} {rest : List Oper} {o : Oper} {a : Act} {w : World} {Q : Exit → Act → World → Prop} (hgd : Region.wanted o (yielded ops a.tmps) = true) (x : Operand) (ho : o.op = .load 77 x)
    (g : Nat) (hx : a.eval x = .pointer (some ⟨g, 0, none⟩)) (cs : Array Value) (hg : Blk w g 77 cs) (hs : cs.size = 5)
    (h : wpList Tryd.prog ops Q rest (a.put o.dst (.agg cs)) w) : wpList Tryd.prog ops Q (o :: rest) a w :=
  BigFrame.wpList_want hgd fun _ hK => wp_load_row 77 x ho g hx 77 _ (0, 0) _ hg Tryd.underlying77 rfl (by rw [infoA5, hs]) (hK _ _ h)

theorem res5V {fn : Func} {R : Ending → World → Prop} {a : Act} {w : World} {t : Tmp} (h : fn.results = #[.cell t 42]) (g : Nat) (x : I5)
    (hp : a.tmps.getD t undef = .pointer (some ⟨g, 0, none⟩)) (hg : Blk w g 42 (clV x).toArray) (hd : a.defers = []) (hR : R (.returned (.agg (clV x).toArray)) w) : bodyPost Tryd.prog fn R .ret a w :=
  bodyPost_ret (results_cell_row h _ _ g 42 _ (0, 0) _ hp hg Tryd.underlying42 rfl (by rw [info5V]; rfl)) hd hR
set_option maxHeartbeats 4000000 in
theorem ofV_any (a b c d e : Int) (_he : B64 e) (w : World) : Calls Tryd.prog 36 #[.agg #[.int .i64 a, .int .i64 b, .int .i64 c, .int .i64 d, .int .i64 e]] w fun x w' => x = .returned (.agg (clV ⟨a, b, c, d, e⟩).toArray) ∧ Below w.heap.size w w' := by
  go_enter Tryd.func36, Tryd.ntmps36
  go_upto_region 1 with fail
  have hb : Blk ((w.alloc (.cells #[.int .i64 a, .int .i64 b, .int .i64 c, .int .i64 d, .int .i64 e] 77)).alloc (.cells #[.int .i64 0, .int .i64 0, .int .i64 0, .int .i64 0, .int .i64 0] 42)) (w.heap.size + 1) 42 #[.int .i64 0, .int .i64 0, .int .i64 0, .int .i64 0, .int .i64 0] := by
    have := Blk.new (w.alloc (.cells #[.int .i64 a, .int .i64 b, .int .i64 c, .int .i64 d, .int .i64 e] 77)) 42 #[.int .i64 0, .int .i64 0, .int .i64 0, .int .i64 0, .int .i64 0]
    simpa using this
  have ha : Blk ((w.alloc (.cells #[.int .i64 a, .int .i64 b, .int .i64 c, .int .i64 d, .int .i64 e] 77)).alloc (.cells #[.int .i64 0, .int .i64 0, .int .i64 0, .int .i64 0, .int .i64 0] 42)) w.heap.size 77 #[.int .i64 a, .int .i64 b, .int .i64 c, .int .i64 d, .int .i64 e] := (Blk.new w _ _).alloc _
  have hbw : Below w.heap.size w ((w.alloc (.cells #[.int .i64 a, .int .i64 b, .int .i64 c, .int .i64 d, .int .i64 e] 77)).alloc (.cells #[.int .i64 0, .int .i64 0, .int .i64 0, .int .i64 0, .int .i64 0] 42)) := ((Below.refl _ _).alloc (Nat.le_refl _) _).alloc (by simp) _
  generalize (w.alloc (.cells #[.int .i64 a, .int .i64 b, .int .i64 c, .int .i64 d, .int .i64 e] 77)).alloc (.cells #[.int .i64 0, .int .i64 0, .int .i64 0, .int .i64 0, .int .i64 0] 42) = V at *
  have e0 : V.cell? ⟨w.heap.size, 0, none⟩ = some (.int .i64 a) := ha.cell 0
  have e1 : V.cell? ⟨w.heap.size, 1, none⟩ = some (.int .i64 b) := ha.cell 1
  have e2 : V.cell? ⟨w.heap.size, 2, none⟩ = some (.int .i64 c) := ha.cell 2
  have e3 : V.cell? ⟨w.heap.size, 3, none⟩ = some (.int .i64 d) := ha.cell 3
  have e4 : V.cell? ⟨w.heap.size, 4, none⟩ = some (.int .i64 e) := ha.cell 4
  have HB := Lib.hid hb; have HBW := Lib.hid hbw
  clear ha hb hbw
  go_wp2_with (with_reducible (show wpList _ _ _ _ _ _); refine st5V (d := ⟨a, b, c, d, e⟩) rfl (.tmp 2) (.tmp 13) rfl (w.heap.size + 1) rfl rfl _ HB.out rfl ?_)
  refine res5V rfl (w.heap.size + 1) ⟨a, b, c, d, e⟩ rfl (setRow_heap _ _ _ _ _ _ HB.out) rfl ⟨rfl, ?_⟩
  exact ((But.of_below (X := fun q => w.heap.size ≤ q) HBW.out).row _ _ (.inl (by omega))).below (Nat.le_refl _) fun _ _ z => z

theorem res5N {fn : Func} {R : Ending → World → Prop} {a : Act} {w : World} {t : Tmp} (h : fn.results = #[.cell t 46]) (g : Nat) (x : I5)
    (hp : a.tmps.getD t undef = .pointer (some ⟨g, 0, none⟩)) (hg : Blk w g 46 (clN x).toArray) (hd : a.defers = []) (hR : R (.returned (.agg (clN x).toArray)) w) : bodyPost Tryd.prog fn R .ret a w :=
  bodyPost_ret (results_cell_row h _ _ g 46 _ (0, 0) _ hp hg Tryd.underlying46 rfl (by rw [info5N]; rfl)) hd hR
set_option maxHeartbeats 4000000 in
theorem ofN_any (a b c d e : Int) (he : B64 e) (w : World) : Calls Tryd.prog 38 #[.agg #[.int .i64 a, .int .i64 b, .int .i64 c, .int .i64 d, .int .i64 e]] w fun x w' => x = .returned (.agg (clN ⟨a, b, c, d, e⟩).toArray) ∧ Below w.heap.size w w' := by
  have hwe : IntKind.u64.wrap e = (toU e : Int) := toU_of he
  go_enter Tryd.func38, Tryd.ntmps38
  go_upto_region 1 with fail
  have hb : Blk ((w.alloc (.cells #[.int .i64 a, .int .i64 b, .int .i64 c, .int .i64 d, .int .i64 e] 77)).alloc (.cells #[.int .i64 0, .int .i64 0, .int .i64 0, .int .i64 0, .int .u64 0] 46)) (w.heap.size + 1) 46 #[.int .i64 0, .int .i64 0, .int .i64 0, .int .i64 0, .int .u64 0] := by
    have := Blk.new (w.alloc (.cells #[.int .i64 a, .int .i64 b, .int .i64 c, .int .i64 d, .int .i64 e] 77)) 46 #[.int .i64 0, .int .i64 0, .int .i64 0, .int .i64 0, .int .u64 0]
    simpa using this
  have ha : Blk ((w.alloc (.cells #[.int .i64 a, .int .i64 b, .int .i64 c, .int .i64 d, .int .i64 e] 77)).alloc (.cells #[.int .i64 0, .int .i64 0, .int .i64 0, .int .i64 0, .int .u64 0] 46)) w.heap.size 77 #[.int .i64 a, .int .i64 b, .int .i64 c, .int .i64 d, .int .i64 e] := (Blk.new w _ _).alloc _
  have hbw : Below w.heap.size w ((w.alloc (.cells #[.int .i64 a, .int .i64 b, .int .i64 c, .int .i64 d, .int .i64 e] 77)).alloc (.cells #[.int .i64 0, .int .i64 0, .int .i64 0, .int .i64 0, .int .u64 0] 46)) := ((Below.refl _ _).alloc (Nat.le_refl _) _).alloc (by simp) _
  generalize (w.alloc (.cells #[.int .i64 a, .int .i64 b, .int .i64 c, .int .i64 d, .int .i64 e] 77)).alloc (.cells #[.int .i64 0, .int .i64 0, .int .i64 0, .int .i64 0, .int .u64 0] 46) = V at *
  have e0 : V.cell? ⟨w.heap.size, 0, none⟩ = some (.int .i64 a) := ha.cell 0
  have e1 : V.cell? ⟨w.heap.size, 1, none⟩ = some (.int .i64 b) := ha.cell 1
  have e2 : V.cell? ⟨w.heap.size, 2, none⟩ = some (.int .i64 c) := ha.cell 2
  have e3 : V.cell? ⟨w.heap.size, 3, none⟩ = some (.int .i64 d) := ha.cell 3
  have e4 : V.cell? ⟨w.heap.size, 4, none⟩ = some (.int .i64 e) := ha.cell 4
  have HB := Lib.hid hb; have HBW := Lib.hid hbw
  clear ha hb hbw
  go_wp2_with (with_reducible (show wpList _ _ _ _ _ _); refine st5N (d := ⟨a, b, c, d, e⟩) rfl (.tmp 2) (.tmp 14) rfl (w.heap.size + 1) rfl rfl _ HB.out rfl ?_)
  refine res5N rfl (w.heap.size + 1) ⟨a, b, c, d, e⟩ rfl (setRow_heap _ _ _ _ _ _ HB.out) rfl ⟨rfl, ?_⟩
  exact ((But.of_below (X := fun q => w.heap.size ≤ q) HBW.out).row _ _ (.inl (by omega))).below (Nat.le_refl _) fun _ _ z => z
end Go.Proofs.YtchhenpijbecaaaDoor
