/- slices.Repeat at one lock (layer 14). -/
import Derived.Test.YtdomgipbadimmaaCm
import Derived.Deep.CutBlock
import Derived.Deep.DeepCutAuto
import Derived.StillTailTactics
import Derived.Test.YtdomgipbadimmaaShelf
import Derived.Laws.CopyRow
import Derived.Laws.CopyOwn
import Derived.Laws.MakeOwn
import Derived.Deep.RegionLaw
namespace Go.Proofs.Ytdomgipbadimmaa
open Go.RowKit

theorem infoLock : (Try.prog.info? 89).map (fun i => (i.zero, i.size, i.bytes)) = some (some (.agg #[.int .i64 0, .int .i64 0, .int .i64 0, .slice none 0 0]), 4, 48) := by kernel_rfl
/-- copy between slices of links: the run. -/
theorem run_copy3 (w : World) (ty : TypeId) (g o dLen dCap : Nat) (a : Addr) (sLen sCap : Nat) (cur : Array Value) (t : TypeId) (cs : List Value)
    (hg : w.heap[g]? = some (.cells cur t (0, 0))) (hn : cs.length = Nat.min sLen dLen * 4)
    (hsrc : ∀ j v, cs[j]? = some v → w.cell? (a.add j) = some v) (hfit : o + cs.length ≤ cur.size) (h1 : ∀ v ∈ cs, v.oneCell' = true) :
    (Builtin.copy_ #[85, 85] ty #[.slice (some ⟨g, o, none⟩) dLen dCap, .slice (some a) sLen sCap]).run Try.prog w =
      .ok (goInt (Nat.min sLen dLen)) (w.setRow g (cur.toList.take o ++ cs ++ cur.toList.drop (o + cs.length)).toArray) := by
  obtain ⟨i0, hi0, hz0, hz1, hz2⟩ := info_parts infoLock
  have hl := run_loadCells_list (P := Try.prog) w a cs hsrc
  have hst := run_storeCells_at Try.prog g o t cs 0 cur w hg (by simpa using hfit) h1
  simp [Builtin.copy_, run_underlying Try.underlying85, Builtin.lenOf, Builtin.firstCells, sizeOf, typeInfo, hi0, hz1, ← hn, hl, hst]
theorem wpList_copy3 {ops : Array Oper} {rest : List Oper} {o : Oper} {a : Act} {w : World} {Q : Exit → Act → World → Prop} (hgd : o.guard = none) (d s : Operand) (ho : o.op = .call { callee := .builtin .copy, args := #[d, s], argTypes := #[85, 85] })
    {v u v' : Value} {w' : World} (hd : a.eval d = v) (hs : a.eval s = u) (hr : (Builtin.copy_ #[85, 85] o.type #[v, u]).run Try.prog w = .ok v' w') (h : wpList Try.prog ops Q rest (a.put o.dst v') w') : wpList Try.prog ops Q (o :: rest) a w := by
  refine wpList_plain hgd fun K hK => ?_
  unfold Oper.wp
  simp [execOp, ho, resolve, invoke, builtin, hd, hs, hr, Result.andThen]
  exact hK _ _ h
theorem step_copy3 {ops : Array Oper} {o : Oper} {a : Act} {w : World} {K : Act → World → Prop} {Q : Exit → Act → World → Prop} {E : Prop} (hgd : o.guard = none) (d s : Operand) (ho : o.op = .call { callee := .builtin .copy, args := #[d, s], argTypes := #[85, 85] })
    {v u v' : Value} {w' : World} (hd : a.eval d = v) (hs : a.eval s = u) (hr : (Builtin.copy_ #[85, 85] o.type #[v, u]).run Try.prog w = .ok v' w') (h : K (a.put o.dst v') w') :
    if Region.wanted o (yielded ops a.tmps) = true then Oper.wp Try.prog o a w K Q else E := by
  rw [if_pos (by simp [Region.wanted, hgd])]
  unfold Oper.wp
  simp [execOp, ho, resolve, invoke, builtin, hd, hs, hr, Result.andThen]
  exact h
/-- The cells of links in no row. -/
def pat (j : Nat) : Value := if j % 4 = 0 then .int .i64 (-1) else if j % 4 = 3 then .slice none 0 0 else .int .i64 0
def pats (n : Nat) : List Value := (List.range n).map pat
theorem pats_length (n : Nat) : (pats n).length = n := by simp [pats]
theorem pats_get {n j : Nat} (h : j < n) : (pats n)[j]? = some (pat j) := by simp [pats, h]
theorem pats_one {n : Nat} : ∀ v ∈ pats n, v.oneCell' = true := by
  intro v hv; simp only [pats, List.mem_map] at hv; obtain ⟨j, _, rfl⟩ := hv; unfold pat; split; rfl; split <;> rfl
theorem pats_add (k c : Nat) (h : k % 4 = 0) : pats k ++ pats c = pats (k + c) := by
  apply List.ext_getElem?
  intro i
  by_cases hi : i < k
  · rw [List.getElem?_append_left (by rw [pats_length]; exact hi), pats_get hi, pats_get (by omega)]
  · rw [List.getElem?_append_right (by rw [pats_length]; omega), pats_length]
    by_cases hc : i < k + c
    · rw [pats_get (by omega), pats_get hc]; unfold pat
      rw [show (i - k) % 4 = i % 4 by omega]
    · rw [List.getElem?_eq_none (by rw [pats_length]; omega), List.getElem?_eq_none (by rw [pats_length]; omega)]
theorem But.row {X : Nat → Prop} {a w : World} (h : But X a w) (g : Nat) (cs : Array Value) (hg : X g ∨ a.heap.size ≤ g) : But X a (w.setRow g cs) :=
  ⟨h.os, h.tape, h.output, by simpa using h.size, fun k hk hn => (setRow_other w g k cs (by rintro rfl; rcases hg with hg | hg; exact hn hg; omega)).trans (h.block k hk hn)⟩
/-- What Repeat gives. -/
def RepP (n : Nat) (w : World) (e : Ending) (w' : World) : Prop := ∃ g, e = .returned (.slice (some ⟨g, 0, none⟩) n n) ∧ w.heap.size ≤ g ∧ Blk w' g 89 (pats (n * 4)).toArray ∧ But Nob w w'
theorem make_locks (w : World) (N : Nat) (hN : N ≤ 4096) : ∃ Z : List Value, (Instr.makeSlice 85 (.int .i64 N) (.int .i64 N)).run Try.prog w = .ok (.slice (some ⟨w.heap.size, 0, none⟩) N N) (w.alloc (.cells Z.toArray 89)) ∧ Z.length = N * 4 := by
  obtain ⟨i0, hi0, hz0, hz1, hz2⟩ := info_parts infoLock
  have := run_makeSlice (P := Try.prog) w 85 89 i0 (.agg #[.int .i64 0, .int .i64 0, .int .i64 0, .slice none 0 0]) Try.underlying85 hi0 hz0 .i64 .i64 N N (by omega) (by omega) (by rw [hz1]; simp; omega) (by rw [hz2]; omega) (by omega)
  simp only [Int.toNat_natCast, hz1] at this
  exact ⟨(madeCells (Value.agg #[.int .i64 0, .int .i64 0, .int .i64 0, .slice none 0 0]).cells (N * 4)).toList, by rw [this], by rw [Array.length_toList, size_madeCells]⟩
theorem splice_pats {Z : List Value} {k c N : Nat} (hZ : Z.length = N) (hk : Z.take (k * 4) = pats (k * 4)) (hc : (k + c) * 4 ≤ N) : (Z.take (k * 4) ++ pats (c * 4) ++ Z.drop (k * 4 + (pats (c * 4)).length)).take ((k + c) * 4) = pats ((k + c) * 4) ∧ (Z.take (k * 4) ++ pats (c * 4) ++ Z.drop (k * 4 + (pats (c * 4)).length)).length = N := by
  constructor
  · rw [hk, pats_add _ _ (by omega), List.take_append_of_le_length (by rw [pats_length]; omega), List.take_of_length_le (by rw [pats_length]; omega), Nat.add_mul]
  · simp [pats_length]; omega
set_option maxRecDepth 100000 in
set_option maxHeartbeats 300000 in
theorem repeat_any (g0 c0 n : Nat) (w : World) (hn : n ≤ 4096) (hg : Blk w g0 89 #[.int .i64 (-1), .int .i64 0, .int .i64 0, .slice none 0 0]) :
    Calls Try.prog 39 #[.slice (some ⟨g0, 0, none⟩) 1 c0, .int .i64 n] w (RepP n w) := by
  have hmul := Try.bits_Mul 1 n (by omega) (by omega)
  have HMUL : Hid (∀ w, Calls Try.prog 61 #[.int .u64 1, .int .u64 n] w fun e w' => e = .returned (.tuple #[.int .u64 0, .int .u64 n]) ∧ w = w') := fun w => (hmul w).mono fun e w' ⟨q1, q2⟩ => ⟨by rw [q1, Nat.one_mul, Nat.div_eq_of_lt (by omega), Nat.mod_eq_of_lt (by omega)]; rfl, q2.symm⟩
  clear hmul
  obtain ⟨Z, hmk, hZ⟩ := make_locks w n hn
  have HG := Lib.hid hg; have HZ := Lib.hid hZ; clear hg hZ
  have t1 : ¬ (n : Int) < 0 := by omega
  have t2 : decide (9223372036854775807 < n) = false := by simp; omega
  have t2' : decide ((9223372036854775807 : Int) < (n : Int)) = false := by simp; omega
  obtain ⟨c, hc⟩ : ∃ c, c = Nat.min 1 n := ⟨_, rfl⟩
  have hc1 : c ≤ 1 := by rw [hc]; exact Nat.min_le_left _ _
  have hc2 : c ≤ n := by rw [hc]; exact Nat.min_le_right _ _
  have hc3 : 0 < n → 0 < c := fun h => by rw [hc]; exact Nat.lt_min.2 ⟨by omega, h⟩
  have hG1 : Blk (w.alloc (.cells Z.toArray 89)) g0 89 #[.int .i64 (-1), .int .i64 0, .int .i64 0, .slice none 0 0] := HG.out.alloc _
  have hcopy := fun ty => run_copy3 (w.alloc (.cells Z.toArray 89)) ty w.heap.size 0 n n ⟨g0, 0, none⟩ 1 c0 Z.toArray 89 (pats (c * 4)) (Blk.new _ _ _) (by rw [pats_length, hc]) (fun j v hj => by
      have hj' : j < c * 4 := by have := (List.getElem?_eq_some_iff.1 hj).1; rwa [pats_length] at this
      rw [pats_get hj'] at hj; cases hj
      rw [show (⟨g0, 0, none⟩ : Addr).add j = ⟨g0, j, none⟩ by unfold Addr.add; split <;> simp_all, hG1.cell]
      match j, (show j < 4 by omega) with
      | 0, _ => rfl
      | 1, _ => rfl
      | 2, _ => rfl
      | 3, _ => rfl) (by rw [pats_length, List.size_toArray, HZ.out]; omega) pats_one
  rw [← hc] at hcopy
  obtain ⟨Z1, hZ1⟩ : ∃ Z1, Z1 = Z.toArray.toList.take 0 ++ pats (c * 4) ++ Z.toArray.toList.drop (0 + (pats (c * 4)).length) := ⟨_, rfl⟩
  rw [← hZ1] at hcopy
  have hS0 := splice_pats (Z := Z.toArray.toList) (k := 0) (c := c) (N := n * 4) HZ.out (by simp [pats]) (by omega)
  have HS0 : Hid (Z1.take (c * 4) = pats (c * 4) ∧ Z1.length = n * 4) := by
    rw [Nat.zero_add, Nat.zero_mul, ← hZ1] at hS0; exact hS0
  have HB0 : Hid (Blk ((w.alloc (.cells Z.toArray 89)).setRow w.heap.size Z1.toArray) w.heap.size 89 Z1.toArray) := setRow_heap _ _ _ _ _ _ (Blk.new _ _ _)
  have HN0 : Hid (But Nob w ((w.alloc (.cells Z.toArray 89)).setRow w.heap.size Z1.toArray)) := ((But.refl _ _).alloc _).row _ _ (.inr (Nat.le_refl _))
  have HC := Lib.hid hcopy; have HC3 := Lib.hid hc3; clear hcopy hS0 hZ1 hG1 hc hc3
  go_enter Try.func39, Try.ntmps39
  go_wp2_with (first
    | (go_at_call 61; (with_reducible refine (HMUL.out _).mono ?_); rintro e wq ⟨rfl, rfl⟩)
    | ((with_reducible refine wpList_copy3 (o := ⟨some 33, _, _, _, _, _⟩) (v := .slice (some ⟨w.heap.size, 0, none⟩) n n) (u := .slice (some ⟨g0, 0, none⟩) 1 c0) (v' := goInt c) (w' := (w.alloc (.cells Z.toArray 89)).setRow w.heap.size Z1.toArray) ?h1 (.tmp 31) (.tmp 32) ?h2 ?h3 ?h4 ?h5 ?_); (case h1 => rfl); (case h2 => rfl); (case h3 => exact rfl); (case h4 => exact rfl); (case h5 => exact HC.out _); generalize hw1 : (w.alloc (.cells Z.toArray 89)).setRow w.heap.size Z1.toArray = w1; have HW1 := Lib.hid hw1; clear hw1))
  have HB1 : Hid (Blk w1 w.heap.size 89 Z1.toArray) := by rw [← HW1.out]; exact HB0.out
  have HN1 : Hid (But Nob w w1) := by rw [← HW1.out]; exact HN0.out
  clear HB0 HN0 HW1 hmk
  go_loopw [8] (fun t wr => ∃ (k : Nat) (S : List Value), k ≤ n ∧ (0 < n → 0 < k) ∧ t = .int .i64 k ∧ Blk wr w.heap.size 89 S.toArray ∧ S.length = n * 4 ∧ S.take (k * 4) = pats (k * 4) ∧ But Nob w wr) (fun t _ => n - (intOf t).toNat)
  case atStart => exact ⟨c, Z1, hc2, HC3.out, rfl, HB1.out, HS0.out.2, HS0.out.1, HN1.out⟩
  case round =>
    obtain ⟨k, S, hk, hk0, rfl, hB, hS1, hS2, hG⟩ := hrel
    by_cases hlt : k < n
    · have hk1 : 0 < k := hk0 (by omega)
      obtain ⟨d, hd⟩ : ∃ d, d = Nat.min k (n - k) := ⟨_, rfl⟩
      have hd1 : d ≤ k := by rw [hd]; exact Nat.min_le_left _ _
      have hd2 : d ≤ n - k := by rw [hd]; exact Nat.min_le_right _ _
      have hd3 : 0 < d := by rw [hd]; exact Nat.lt_min.2 ⟨hk1, by omega⟩
      have hB' : Blk wr.drew w.heap.size 89 S.toArray := hB
      have hcopy := fun ty => run_copy3 wr.drew ty w.heap.size (k * 4) (n - k) (n - k) ⟨w.heap.size, 0, none⟩ k n S.toArray 89 (pats (d * 4)) hB' (by rw [pats_length, hd]) (fun j v hj => by
          have hj' : j < d * 4 := by have := (List.getElem?_eq_some_iff.1 hj).1; rwa [pats_length] at this
          rw [pats_get hj'] at hj; cases hj
          rw [show (⟨w.heap.size, 0, none⟩ : Addr).add j = ⟨w.heap.size, j, none⟩ by unfold Addr.add; split <;> simp_all, hB'.cell, List.getElem?_toArray]
          have := congrArg (fun l => l[j]?) hS2
          simp only [List.getElem?_take, if_pos (show j < k * 4 by omega), pats_get (show j < k * 4 by omega)] at this
          exact this) (by rw [pats_length, List.size_toArray, hS1]; omega) pats_one
      rw [← hd] at hcopy
      obtain ⟨S', hS'⟩ : ∃ S', S' = S.toArray.toList.take (k * 4) ++ pats (d * 4) ++ S.toArray.toList.drop (k * 4 + (pats (d * 4)).length) := ⟨_, rfl⟩
      rw [← hS'] at hcopy
      have hsp := splice_pats (Z := S.toArray.toList) (k := k) (c := d) (N := n * 4) hS1 hS2 (by omega)
      have HSP : Hid (S'.take ((k + d) * 4) = pats ((k + d) * 4) ∧ S'.length = n * 4) := by
        rw [← hS'] at hsp; exact hsp
      have HB2 : Hid (Blk (wr.drew.setRow w.heap.size S'.toArray) w.heap.size 89 S'.toArray) := setRow_heap _ _ _ _ _ _ hB'
      have HN2 : Hid (But Nob w (wr.drew.setRow w.heap.size S'.toArray)) := hG.drew.row _ _ (.inr (Nat.le_refl _))
      have HC2 := Lib.hid hcopy; clear hcopy hsp hS' hB' hB hG hS1 hS2 hd hk0
      have i0 : (0 : Int) ≤ (k : Int) := by omega
      have i1 : (k : Int) ≤ (n : Int) := by omega
      have i2 : (k : Int) < (n : Int) := by omega
      have i3 : ¬ n = k := by omega
      have i4 : ¬ n - k = 0 := by omega
      have i5 : IntKind.i64.wrap ((k : Int) + d) = (k : Int) + d := IntWalk.i64_in _ (by omega)
      go_wp2_with fail
      go_region_law (((with_reducible refine step_copy3 (v := .slice (some ⟨w.heap.size, k * 4, none⟩) (n - k) (n - k)) (u := .slice (some ⟨w.heap.size, 0, none⟩) k n) (v' := .int .i64 d) (w' := wr.drew.setRow w.heap.size S'.toArray) ?_ (.tmp 41) (.tmp 44) ?_ ?_ ?_ ?_ ?_); (exact rfl); (exact rfl); (go_simp); (go_simp); (exact HC2.out _); generalize hw2 : wr.drew.setRow w.heap.size S'.toArray = w2; have HW2 := Lib.hid hw2; clear hw2))
      have HB3 : Hid (Blk w2 w.heap.size 89 S'.toArray) := by rw [← HW2.out]; exact HB2.out
      have HN3 : Hid (But Nob w w2) := by rw [← HW2.out]; exact HN2.out
      clear HB2 HN2 HW2
      go_simp
      go_wp2_with fail
      go_roundw
      case rel =>
       exact ⟨k + d, S', by omega, fun _ => by omega, by go_num, HB3.out, HSP.out.2, HSP.out.1, HN3.out⟩
      case measure => simp [intOf]; omega
    · have hkn : k = n := by omega
      have t3 : ¬ (k : Int) < (n : Int) := by omega
      have t4 : decide (k < n) = false := by simp; omega
      have HK := Lib.hid hkn; clear hkn
      go_wp2_with fail
      go_ret
      refine ⟨w.heap.size, rfl, Nat.le_refl _, ?_, hG⟩
      have hk' := HK.out
      have e : S = pats (n * 4) := by rw [← hk', ← hS2, List.take_of_length_le (by rw [hS1, hk']; exact Nat.le_refl _)]
      rw [← e]; exact hB
end Go.Proofs.Ytdomgipbadimmaa
