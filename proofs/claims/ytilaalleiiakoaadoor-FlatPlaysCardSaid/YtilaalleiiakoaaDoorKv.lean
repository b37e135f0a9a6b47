/- slices.Repeat at one number (layer 19). -/
import Derived.Test.YtilaalleiiakoaaDoorKt
import Derived.Deep.CutBlock
import Derived.Deep.DeepCutAuto
import Derived.StillTailTactics
import Derived.Test.YtilaalleiiakoaaDoorShelf
import Derived.Laws.CopyRow
import Derived.Laws.CopyOwn
import Derived.Laws.MakeOwn
import Derived.Deep.RegionLaw
import Derived.Deep.RegionHeld
import Derived.OrdersHeld
namespace Go.Proofs.YtilaalleiiakoaaDoor
open Go.RowKit

/-- copy between slices of numbers: the run. -/
theorem run_copy3 (w : World) (ty : TypeId) (g o dLen dCap : Nat) (a : Addr) (sLen sCap : Nat) (cur : Array Value) (t : TypeId) (cs : List Value)
    (hg : w.heap[g]? = some (.cells cur t (0, 0))) (hn : cs.length = Nat.min sLen dLen)
    (hsrc : ∀ j v, cs[j]? = some v → w.cell? (a.add j) = some v) (hfit : o + cs.length ≤ cur.size) (h1 : ∀ v ∈ cs, v.oneCell' = true) :
    (Builtin.copy_ #[28, 28] ty #[.slice (some ⟨g, o, none⟩) dLen dCap, .slice (some a) sLen sCap]).run Tryd.prog w =
      .ok (goInt (Nat.min sLen dLen)) (w.setRow g (cur.toList.take o ++ cs ++ cur.toList.drop (o + cs.length)).toArray) := by
  obtain ⟨i0, hi0, hz0, hz1, hz2⟩ := info_parts infoIntN
  have hl := run_loadCells_list (P := Tryd.prog) w a cs hsrc
  have hst := run_storeCells_at Tryd.prog g o t cs 0 cur w hg (by simpa using hfit) h1
  simp [Builtin.copy_, run_underlying Tryd.underlying28, Builtin.lenOf, Builtin.firstCells, sizeOf, typeInfo, hi0, hz1, ← hn, hl, hst]
theorem wpList_copy3 {ops : Array Oper} {rest : List Oper} {o : Oper} {a : Act} {w : World} {Q : Exit → Act → World → Prop} (hgd : o.guard = none) (d s : Operand) (ho : o.op = .call { callee := .builtin .copy, args := #[d, s], argTypes := #[28, 28] })
    {v u v' : Value} {w' : World} (hd : a.eval d = v) (hs : a.eval s = u) (hr : (Builtin.copy_ #[28, 28] o.type #[v, u]).run Tryd.prog w = .ok v' w') (h : wpList Tryd.prog ops Q rest (a.put o.dst v') w') : wpList Tryd.prog ops Q (o :: rest) a w := by
  refine wpList_plain hgd fun K hK => ?_
  unfold Oper.wp
  simp [execOp, ho, resolve, invoke, builtin, hd, hs, hr, Result.andThen]
  exact hK _ _ h
theorem step_copy3 {ops : Array Oper} {o : Oper} {a : Act} {w : World} {K : Act → World → Prop} {Q : Exit → Act → World → Prop} {E : Prop} (hgd : o.guard = none) (d s : Operand) (ho : o.op = .call { callee := .builtin .copy, args := #[d, s], argTypes := #[28, 28] })
    {v u v' : Value} {w' : World} (hd : a.eval d = v) (hs : a.eval s = u) (hr : (Builtin.copy_ #[28, 28] o.type #[v, u]).run Tryd.prog w = .ok v' w') (h : K (a.put o.dst v') w') :
    if Region.wanted o (yielded ops a.tmps) = true then Oper.wp Tryd.prog o a w K Q else E := by
  rw [if_pos (by simp [Region.wanted, hgd])]
  unfold Oper.wp
  simp [execOp, ho, resolve, invoke, builtin, hd, hs, hr, Result.andThen]
  exact h
/-- Nobody, so many times. -/
def pats (n : Nat) : List Value := List.replicate n (.int .i64 (-1))
theorem pats_length (n : Nat) : (pats n).length = n := by simp [pats]
theorem pats_get {n j : Nat} (h : j < n) : (pats n)[j]? = some (.int .i64 (-1)) := by simp [pats, h]
theorem pats_one {n : Nat} : ∀ v ∈ pats n, v.oneCell' = true := by
  intro v hv
  obtain ⟨-, rfl⟩ := List.mem_replicate.1 hv
  rfl
theorem pats_add (k c : Nat) : pats k ++ pats c = pats (k + c) := by simp [pats]
/-- What Repeat gives. -/
def RepP (n : Nat) (w : World) (e : Ending) (w' : World) : Prop := ∃ g, e = .returned (.slice (some ⟨g, 0, none⟩) n n) ∧ w.heap.size ≤ g ∧ Blk w' g 3 (pats (n)).toArray ∧ But Nob w w'
theorem make_ints (w : World) (N : Nat) (hN : N ≤ 4096) : ∃ Z : List Value, (Instr.makeSlice 28 (.int .i64 N) (.int .i64 N)).run Tryd.prog w = .ok (.slice (some ⟨w.heap.size, 0, none⟩) N N) (w.alloc (.cells Z.toArray 3)) ∧ Z.length = N := by
  obtain ⟨i0, hi0, hz0, hz1, hz2⟩ := info_parts infoIntN
  have := run_makeSlice (P := Tryd.prog) w 28 3 i0 (.int .i64 0) Tryd.underlying28 hi0 hz0 .i64 .i64 N N (by omega) (by omega) (by rw [hz1]; simp; omega) (by rw [hz2]; omega) (by omega)
  simp only [Int.toNat_natCast, hz1, Nat.mul_one] at this
  exact ⟨(madeCells (Value.int .i64 0).cells (N)).toList, by rw [this], by rw [Array.length_toList, size_madeCells]⟩
theorem splice_pats {Z : List Value} {k c N : Nat} (hZ : Z.length = N) (hk : Z.take (k) = pats (k)) (hc : (k + c) ≤ N) : (Z.take (k) ++ pats (c) ++ Z.drop (k + (pats (c)).length)).take ((k + c)) = pats ((k + c)) ∧ (Z.take (k) ++ pats (c) ++ Z.drop (k + (pats (c)).length)).length = N := by
  constructor
  · rw [hk, pats_add, List.take_append_of_le_length (by rw [pats_length]; omega), List.take_of_length_le (by rw [pats_length]; omega)]
  · simp [pats_length]; omega
set_option maxRecDepth 100000 in
set_option maxHeartbeats 300000 in
theorem repeat_any (g0 c0 n : Nat) (w : World) (hn : n ≤ 4096) (hg : Blk w g0 3 #[.int .i64 (-1)]) :
    Calls Tryd.prog 16 #[.slice (some ⟨g0, 0, none⟩) 1 c0, .int .i64 n] w (RepP n w) := by
  have hmul := Tryd.bits_Mul 1 n (by omega) (by omega)
  have HMUL : Hid (∀ w, Calls Tryd.prog 31 #[.int .u64 1, .int .u64 n] w fun e w' => e = .returned (.tuple #[.int .u64 0, .int .u64 n]) ∧ w = w') := fun w => (hmul w).mono fun e w' ⟨q1, q2⟩ => ⟨by rw [q1, Nat.one_mul, Nat.div_eq_of_lt (by omega), Nat.mod_eq_of_lt (by omega)]; rfl, q2.symm⟩
  clear hmul
  obtain ⟨Z, hmk, hZ⟩ := make_ints w n hn
  have HG := Lib.hid hg; have HZ := Lib.hid hZ; clear hg hZ
  have t1 : ¬ (n : Int) < 0 := by omega
  have t2 : decide (9223372036854775807 < n) = false := by simp; omega
  have t2' : decide ((9223372036854775807 : Int) < (n : Int)) = false := by simp; omega
  obtain ⟨c, hc⟩ : ∃ c, c = Nat.min 1 n := ⟨_, rfl⟩
  have hc1 : c ≤ 1 := by rw [hc]; exact Nat.min_le_left _ _
  have hc2 : c ≤ n := by rw [hc]; exact Nat.min_le_right _ _
  have hc3 : 0 < n → 0 < c := fun h => by rw [hc]; exact Nat.lt_min.2 ⟨by omega, h⟩
  have hG1 : Blk (w.alloc (.cells Z.toArray 3)) g0 3 #[.int .i64 (-1)] := HG.out.alloc _
  have hcopy := fun ty => run_copy3 (w.alloc (.cells Z.toArray 3)) ty w.heap.size 0 n n ⟨g0, 0, none⟩ 1 c0 Z.toArray 3 (pats (c)) (Blk.new _ _ _) (by rw [pats_length, hc]) (fun j v hj => by
      have hj' : j < c := by have := (List.getElem?_eq_some_iff.1 hj).1; rwa [pats_length] at this
      rw [pats_get hj'] at hj; cases hj
      rw [Addr.add_mid, Nat.zero_add, hG1.cell]
      match j, (show j < 1 by omega) with
      | 0, _ => rfl) (by rw [pats_length, List.size_toArray, HZ.out]; omega) pats_one
  rw [← hc] at hcopy
  obtain ⟨Z1, hZ1⟩ : ∃ Z1, Z1 = Z.toArray.toList.take 0 ++ pats (c) ++ Z.toArray.toList.drop (0 + (pats (c)).length) := ⟨_, rfl⟩
  rw [← hZ1] at hcopy
  have hS0 := splice_pats (Z := Z.toArray.toList) (k := 0) (c := c) (N := n) HZ.out (by simp [pats]) (by omega)
  have HS0 : Hid (Z1.take (c) = pats (c) ∧ Z1.length = n) := by
    rw [Nat.zero_add, ← hZ1] at hS0; exact hS0
  have HB0 : Hid (Blk ((w.alloc (.cells Z.toArray 3)).setRow w.heap.size Z1.toArray) w.heap.size 3 Z1.toArray) := setRow_heap _ _ _ _ _ _ (Blk.new _ _ _)
  have HN0 : Hid (But Nob w ((w.alloc (.cells Z.toArray 3)).setRow w.heap.size Z1.toArray)) := ((But.refl _ _).alloc _).row _ _ (.inr (Nat.le_refl _))
  have HC := Lib.hid hcopy; have HC3 := Lib.hid hc3; clear hcopy hS0 hZ1 hG1 hc hc3
  go_enter Tryd.func16, Tryd.ntmps16
  go_wp2_with (first
    | (go_at_call 31; (with_reducible refine (HMUL.out _).mono ?_); rintro e wq ⟨rfl, rfl⟩)
    | ((with_reducible refine wpList_copy3 (o := ⟨some 33, _, _, _, _, _⟩) (v := .slice (some ⟨w.heap.size, 0, none⟩) n n) (u := .slice (some ⟨g0, 0, none⟩) 1 c0) (v' := goInt c) (w' := (w.alloc (.cells Z.toArray 3)).setRow w.heap.size Z1.toArray) ?h1 (.tmp 31) (.tmp 32) ?h2 ?h3 ?h4 ?h5 ?_); (case h1 => rfl); (case h2 => rfl); (case h3 => exact rfl); (case h4 => exact rfl); (case h5 => exact HC.out _); generalize hw1 : (w.alloc (.cells Z.toArray 3)).setRow w.heap.size Z1.toArray = w1; have HW1 := Lib.hid hw1; clear hw1))
  have HB1 : Hid (Blk w1 w.heap.size 3 Z1.toArray) := by rw [← HW1.out]; exact HB0.out
  have HN1 : Hid (But Nob w w1) := by rw [← HW1.out]; exact HN0.out
  clear HB0 HN0 HW1 hmk
  go_loopw [8] (fun t wr => ∃ (k : Nat) (S : List Value), k ≤ n ∧ (0 < n → 0 < k) ∧ t = .int .i64 k ∧ Blk wr w.heap.size 3 S.toArray ∧ S.length = n ∧ S.take (k) = pats (k) ∧ But Nob w wr) (fun t _ => n - (intOf t).toNat)
  case atStart => exact ⟨c, Z1, hc2, HC3.out, rfl, HB1.out, HS0.out.2, HS0.out.1, HN1.out⟩
  case round =>
    obtain ⟨k, S, hk, hk0, rfl, hB, hS1, hS2, hG⟩ := hrel
    by_cases hlt : k < n
    · have hk1 : 0 < k := hk0 (by omega)
      obtain ⟨d, hd⟩ : ∃ d, d = Nat.min k (n - k) := ⟨_, rfl⟩
      have hd1 : d ≤ k := by rw [hd]; exact Nat.min_le_left _ _
      have hd2 : d ≤ n - k := by rw [hd]; exact Nat.min_le_right _ _
      have hd3 : 0 < d := by rw [hd]; exact Nat.lt_min.2 ⟨hk1, by omega⟩
      have hB' : Blk wr.drew w.heap.size 3 S.toArray := hB
      have hcopy := fun ty => run_copy3 wr.drew ty w.heap.size (k) (n - k) (n - k) ⟨w.heap.size, 0, none⟩ k n S.toArray 3 (pats (d)) hB' (by rw [pats_length, hd]) (fun j v hj => by
          have hj' : j < d := by have := (List.getElem?_eq_some_iff.1 hj).1; rwa [pats_length] at this
          rw [pats_get hj'] at hj; cases hj
          rw [Addr.add_mid, Nat.zero_add, hB'.cell, List.getElem?_toArray]
          have := congrArg (fun l => l[j]?) hS2
          simp only [List.getElem?_take, if_pos (show j < k by omega), pats_get (show j < k by omega)] at this
          exact this) (by rw [pats_length, List.size_toArray, hS1]; omega) pats_one
      rw [← hd] at hcopy
      obtain ⟨S', hS'⟩ : ∃ S', S' = S.toArray.toList.take (k) ++ pats (d) ++ S.toArray.toList.drop (k + (pats (d)).length) := ⟨_, rfl⟩
      rw [← hS'] at hcopy
      have hsp := splice_pats (Z := S.toArray.toList) (k := k) (c := d) (N := n) hS1 hS2 (by omega)
      have HSP : Hid (S'.take ((k + d)) = pats ((k + d)) ∧ S'.length = n) := by
        rw [← hS'] at hsp; exact hsp
      have HB2 : Hid (Blk (wr.drew.setRow w.heap.size S'.toArray) w.heap.size 3 S'.toArray) := setRow_heap _ _ _ _ _ _ hB'
      have HN2 : Hid (But Nob w (wr.drew.setRow w.heap.size S'.toArray)) := hG.drew.row _ _ (.inr (Nat.le_refl _))
      have HC2 := Lib.hid hcopy; clear hcopy hsp hS' hB' hB hG hS1 hS2 hd hk0
      have i0 : (0 : Int) ≤ (k : Int) := by omega
      have i1 : (k : Int) ≤ (n : Int) := by omega
      have i2 : (k : Int) < (n : Int) := by omega
      have i3 : ¬ n = k := by omega
      have i4 : ¬ n - k = 0 := by omega
      have i5 : IntKind.i64.wrap ((k : Int) + d) = (k : Int) + d := IntWalk.i64_in _ (by omega)
      go_wp2_with fail
      go_region_law (((with_reducible refine step_copy3 (v := .slice (some ⟨w.heap.size, k, none⟩) (n - k) (n - k)) (u := .slice (some ⟨w.heap.size, 0, none⟩) k n) (v' := .int .i64 d) (w' := wr.drew.setRow w.heap.size S'.toArray) ?_ (.tmp 41) (.tmp 44) ?_ ?_ ?_ ?_ ?_); (exact rfl); (exact rfl); (go_simp); (go_simp); (exact HC2.out _); generalize hw2 : wr.drew.setRow w.heap.size S'.toArray = w2; have HW2 := Lib.hid hw2; clear hw2))
      have HB3 : Hid (Blk w2 w.heap.size 3 S'.toArray) := by rw [← HW2.out]; exact HB2.out
      have HN3 : Hid (But Nob w w2) := by rw [← HW2.out]; exact HN2.out
      clear HB2 HN2 HW2
      go_simp
      go_wp2_with fail
      go_roundw
      case rel =>
       exact ⟨k + d, S', by omega, fun _ => by omega, by go_num, HB3.out, HSP.out.2, HSP.out.1, HN3.out⟩
      case measure => simp [intOf]; omega
    · have hkn : k = n := by omega
      have t3 : ¬ (k : Int) < (n : Int) := by omega
      have t4 : decide (k < n) = false := by simp; omega
      have HK := Lib.hid hkn; clear hkn
      go_wp2_with fail
      go_ret
      refine ⟨w.heap.size, rfl, Nat.le_refl _, ?_, hG⟩
      have hk' := HK.out
      have e : S = pats (n) := by rw [← hk', ← hS2, List.take_of_length_le (by rw [hS1, hk']; exact Nat.le_refl _)]
      rw [← e]; exact hB

set_option maxRecDepth 100000

theorem build_flat (w : World) (p : Nat → Bool) (A : Option Addr) (n c : Nat) : (Instr.build 30 #[(1, .agg (cellsOf p)), (2, .slice A n c)]).run Tryd.prog w = .ok (.agg (flL (.slice none 0 0) (.slice A n c) p 0).toArray) w := by kernel_rfl
theorem step_build {ops : Array Oper} {o : Oper} {a : Act} {w : World} {K : Act → World → Prop} {Q : Exit → Act → World → Prop} {E : Prop} (hgd : o.guard = none) (t : TypeId) (parts : Array (Nat × Operand)) (ho : o.op = .build t parts)
    (vs : Array (Nat × Value)) (hp : (parts.map fun (i, x) => (i, a.eval x)) = vs) (u : Value) (hr : (Instr.build t vs).run Tryd.prog w = .ok u w) (h : K (a.put o.dst u) w) : if Region.wanted o (yielded ops a.tmps) = true then Oper.wp Tryd.prog o a w K Q else E := by
  rw [if_pos (by simp [Region.wanted, hgd])]
  unfold Oper.wp execOp
  simp only [ho, hp, Sem.run_bind, Sem.run_pure, Result.andThen_ok, hr]
  exact h
section
set_option maxHeartbeats 4000000 in
/-- A new machine: so many locks that nobody has. -/
theorem new_any (p : Nat → Bool) (n : Nat) (hn : n ≤ 16) (w : World) :
    Calls Tryd.prog 6 #[.agg (cellsOf p), .int .i64 n] w (AneG w p 0 [] (List.replicate n (-1))) := by
  have hb1 : Blk ((w.alloc (.cells (cellsOf p) 24)).alloc (.cells #[.slice none 0 0, .int .u64 0, .int .u64 0, .int .u64 0, .int .u64 0, .int .u64 0, .int .u64 0, .int .u64 0, .int .u64 0, .int .u64 0, .int .u64 0, .int .u64 0, .int .u64 0, .int .u64 0, .int .u64 0, .int .u64 0, .int .u64 0, .slice none 0 0, .int .i64 0] 30)) w.heap.size 24 (cellsOf p) := (Blk.new w _ _).alloc _
  have hb2 : Blk ((w.alloc (.cells (cellsOf p) 24)).alloc (.cells #[.slice none 0 0, .int .u64 0, .int .u64 0, .int .u64 0, .int .u64 0, .int .u64 0, .int .u64 0, .int .u64 0, .int .u64 0, .int .u64 0, .int .u64 0, .int .u64 0, .int .u64 0, .int .u64 0, .int .u64 0, .int .u64 0, .int .u64 0, .slice none 0 0, .int .i64 0] 30)) (w.heap.size + 1) 30 #[.slice none 0 0, .int .u64 0, .int .u64 0, .int .u64 0, .int .u64 0, .int .u64 0, .int .u64 0, .int .u64 0, .int .u64 0, .int .u64 0, .int .u64 0, .int .u64 0, .int .u64 0, .int .u64 0, .int .u64 0, .int .u64 0, .int .u64 0, .slice none 0 0, .int .i64 0] := by
    have := Blk.new (w.alloc (.cells (cellsOf p) 24)) 30 #[.slice none 0 0, .int .u64 0, .int .u64 0, .int .u64 0, .int .u64 0, .int .u64 0, .int .u64 0, .int .u64 0, .int .u64 0, .int .u64 0, .int .u64 0, .int .u64 0, .int .u64 0, .int .u64 0, .int .u64 0, .int .u64 0, .int .u64 0, .slice none 0 0, .int .i64 0]
    simpa using this
  have hbl : Below w.heap.size w ((w.alloc (.cells (cellsOf p) 24)).alloc (.cells #[.slice none 0 0, .int .u64 0, .int .u64 0, .int .u64 0, .int .u64 0, .int .u64 0, .int .u64 0, .int .u64 0, .int .u64 0, .int .u64 0, .int .u64 0, .int .u64 0, .int .u64 0, .int .u64 0, .int .u64 0, .int .u64 0, .int .u64 0, .slice none 0 0, .int .i64 0] 30)) := ((Below.refl _ _).alloc (Nat.le_refl _) _).alloc (by simp) _
  go_enter Tryd.func6, Tryd.ntmps6
  go_upto_region 1 with fail
  generalize (w.alloc (.cells (cellsOf p) 24)).alloc (.cells #[.slice none 0 0, .int .u64 0, .int .u64 0, .int .u64 0, .int .u64 0, .int .u64 0, .int .u64 0, .int .u64 0, .int .u64 0, .int .u64 0, .int .u64 0, .int .u64 0, .int .u64 0, .int .u64 0, .int .u64 0, .int .u64 0, .int .u64 0, .slice none 0 0, .int .i64 0] 30) = W at *
  obtain ⟨old, hold⟩ : ∃ old : Array Value, #[.slice none 0 0, .int .u64 0, .int .u64 0, .int .u64 0, .int .u64 0, .int .u64 0, .int .u64 0, .int .u64 0, .int .u64 0, .int .u64 0, .int .u64 0, .int .u64 0, .int .u64 0, .int .u64 0, .int .u64 0, .int .u64 0, .int .u64 0, .slice none 0 0, .int .i64 0] = old := ⟨_, rfl⟩
  have hos : old.size = 19 := by rw [← hold]; rfl
  rw [hold] at hb2
  have HB1 := Lib.hid hb1; have HB2 := Lib.hid hb2; have HBL := Lib.hid hbl; have HOS := Lib.hid hos
  clear hold hb1 hb2 hbl hos
  have m0 : max (n : Int) 0 = (n : Int) := by omega
  have m1 : min (n : Int) 16 = (n : Int) := by omega
  have m2 : min (max (n : Int) 0) 16 = (n : Int) := by omega
  go_upto_region 2 with fail
  obtain ⟨q0, hq0⟩ : ∃ q, w.heap.size = q := ⟨_, rfl⟩
  obtain ⟨q1, hq1⟩ : ∃ q, w.heap.size + 1 = q := ⟨_, rfl⟩
  have HQE : Hid (w.heap.size = q0 ∧ q0 < q1 ∧ w.heap.size ≤ q1 ∧ q1 < W.heap.size) := ⟨hq0, by omega, by omega, by have := HB2.out.lt; omega⟩
  rw [hq1] at HB2
  rw [hq0] at HB1
  rw [hq1, hq0]
  clear hq0 hq1
  have HS : Hid (∀ Y X, (∀ k, Y k → k ≠ q0) → But Y W X → X.rangeAt q0 0 (cellsOf p).toList) := fun Y X hY hb j u hj => by
    have hk := Blk.but HB1.out hb fun q => hY _ q rfl
    rw [Nat.zero_add, hk.cell]
    simpa using hj
  have HIS : Hid ((Tryd.prog.info? 24).map (·.size) = some (cellsOf p).toList.length) := by show _ = _; rw [infoSetS]; simp [cellsOf]
  have HRP : Hid (∀ X g0, Blk X g0 3 #[.int .i64 (-1)] → Calls Tryd.prog 16 #[.slice (some ⟨g0, 0, none⟩) 1 1, .int .i64 n] X (RepP n X)) := fun X g0 hX => repeat_any g0 1 n X (by omega) hX
  refine wp_region_held_drew (S := fun X => X.rangeAt q0 0 (cellsOf p).toList) (by kernel_rfl) (HS.out Nob _ (fun _ q => q.elim) ((But.refl _ _).drew)) (fun hHeld => ?_)
  show wpAnyH _ _ _ _ _ _ _ _ _
  try dsimp only at hHeld
  refine wpAnyH_take (i := 0) (v := .agg (cellsOf p).toList.toArray) rfl (by kernel_rfl) (by kernel_rfl) (by kernel_rfl) (fun _ _ _ h => h) (yieldsIf_load_mid (by rfl) 24 (.tmp 2) rfl q0 0 rfl (cellsOf p).toList _ (fun X' h => h) underSet rfl HIS.out) hHeld ?_
  go_simp
  refine wpAnyH_take (i := 2) (v := ?_) rfl (by kernel_rfl) (by kernel_rfl) (by kernel_rfl) (fun _ _ _ h => h) (Or.inl ⟨by rfl, fun X hX => by (go_simp <;> with_reducible rfl)⟩) hHeld ?_
  go_simp
  refine wpAnyH_ready (rs := [1]) (by kernel_rfl) (by simp) (AllReadyH.cons rfl (fun K hK => ?_) AllReadyH.nil)
  go_simp
  have hb3 : But Nob W (W.alloc (.cells #[.int .i64 (-1)] 3)).drew := ((But.refl _ _).alloc _).drew
  have HB3 := Lib.hid hb3
  have HN3 : Hid (Blk (W.alloc (.cells #[.int .i64 (-1)] 3)).drew W.heap.size 3 #[.int .i64 (-1)]) := Blk.new W _ _
  refine hK.out _ _ (HS.out Nob _ (fun _ q => q.elim) hb3) (fun hHeld => ?_)
  clear hK K hb3
  refine wpAnyH_ready (rs := [3]) (by kernel_rfl) (by simp) (AllReadyH.cons rfl (fun K hK => ?_) AllReadyH.nil)
  go_simp
  go_at_call 16
  (with_reducible refine (HRP.out _ W.heap.size HN3.out).mono ?_)
  rintro er w5 ⟨g5, rfl, hg5, hk5, hb5⟩
  have hbw := HB3.out.trans hb5
  have HB5 := Lib.hid hbw; have HK5 := Lib.hid hk5
  have HG5 : Hid (W.heap.size ≤ g5) := Nat.le_trans HB3.out.size hg5
  have HBR5 := Lib.hid (HB2.out.but hbw fun q => q)
  have hbf := fun X => build_flat X p (some ⟨g5, 0, none⟩) n n
  clear hk5 hg5 hb5
  (try (go_wp2_with fail))
  refine hK.out _ _ (HS.out Nob w5 (fun _ q => q.elim) hbw) (fun hHeld => ?_)
  clear hK K hbw
  (try go_simp)
  refine wpAnyH_ready (rs := [4]) (by kernel_rfl) (by simp) (AllReadyH.cons rfl (fun K hK => ?_) AllReadyH.nil)
  refine step_build rfl 30 #[(1, .tmp 8), (2, .tmp 11)] rfl #[(1, .agg (cellsOf p)), (2, .slice (some ⟨g5, 0, none⟩) n n)] (by kernel_rfl) _ (hbf w5) ?_
  refine hK.out _ _ hHeld (fun hHeld => ?_)
  clear hK K hbf
  (try go_simp)
  refine wpAnyH_ready (rs := [5]) (by kernel_rfl) (by simp) (AllReadyH.cons rfl (fun K hK => ?_) AllReadyH.nil)
  refine step_st_flat rfl (.tmp 4) (.tmp 12) rfl q1 rfl rfl rfl rfl old HBR5.out HOS.out ?_
  refine hK.out _ _ (HS.out (fun k => k = q1) _ (fun k hk => by have := HQE.out; omega) ((HB5.out.mono fun _ _ q => q.elim).trans ((But.refl (fun k => k = q1) _).row _ _ (.inl rfl)))) (fun hHeld => ?_)
  clear hK K
  refine wpAnyH_done (by kernel_rfl) ?_ _
  go_wp2_with fail
  refine ret_flat1 rfl q1 rfl (BF.row HBR5.out) rfl ?_
  have hne : g5 ≠ q1 := by have := HG5.out; have := HQE.out; omega
  have hwW := HBL.out.size
  refine ⟨_, _, rfl, ⟨World.ownsRow_nil _ _ _ _, ?_⟩, ?_⟩
  · have hlen : (List.replicate n (-1 : Int)).length = n := by simp
    rw [hlen]
    refine ⟨by rw [numC_length, hlen, Nat.mul_one], .inr ⟨g5, n, (pats n).toArray, rfl, by have := HG5.out; omega, HK5.out.row_other hne _, Nat.le_refl _, by unfold maxLen; omega, by rw [List.size_toArray, pats_length, Nat.mul_one], ?_⟩⟩
    rw [Nat.mul_one, List.take_of_length_le (by simp [pats])]
    simp [pats, numC]
  · exact ((((But.of_below (X := fun k => w.heap.size ≤ k) HBL.out).trans (HB5.out.mono fun _ _ q => q.elim)).row _ _ (.inr HQE.out.2.2.1))).below (Nat.le_refl _) fun k _ q => q
end
end Go.Proofs.YtilaalleiiakoaaDoor
