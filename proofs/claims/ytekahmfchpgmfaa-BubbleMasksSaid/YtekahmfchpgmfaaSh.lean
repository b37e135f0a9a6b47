/- The document's Three. -/
import Derived.Test.YtekahmfchpgmfaaSl
import Derived.Test.YtekahmfchpgmfaaRu
import Derived.Deep.AppendLies
namespace Go.Proofs.Ytekahmfchpgmfaa
open Go.RowKit

def natCells (l : List Nat) : List Value := l.map fun n : Nat => Value.int .i64 (n : Int)
theorem natCells_app (l : List Nat) (k : Nat) : natCells l ++ [.int .i64 (k : Int)] = natCells (l ++ [k]) := by simp [natCells]
abbrev OwnN (w : World) (B : Nat) (v : Value) (l : List Nat) : Prop := w.ownsRow B 3 1 v l.length (natCells l)
theorem own_below {w w' : World} {B e k n : Nat} {v : Value} {xs : List Value} (h : w.ownsRow B e k v n xs) (hb : Below w.heap.size w w') : w'.ownsRow B e k v n xs :=
  h.kept (row := none) ⟨hb.os, hb.tape, hb.output, hb.size, fun j hj _ => hb.block j hj⟩ (by cases v.ownBlock <;> simp)
theorem ints_of_own {w : World} {B : Nat} {v : Value} {l : List Nat} (h : OwnN w B v l) : IntsAt w v (fun i => ((l.getD i 0 : Nat) : Int)) l.length := by
  have h' := h
  rcases h.2 with ⟨rfl, hn⟩ | ⟨g, cap, cur, rfl, hg, hh, hc⟩
  · exact ⟨none, 0, by rw [hn], .inl hn⟩
  · refine ⟨some ⟨g, 0, none⟩, cap, rfl, .inr ⟨g, 0, rfl, (h'.lt g rfl).2, fun i hi => ?_⟩⟩
    have := h'.cells (g := g) rfl i (.int .i64 ((l.getD i 0 : Nat) : Int)) (by simp [natCells, List.getD_eq_getElem?_getD, List.getElem?_eq_getElem hi])
    have hadd : (⟨g, 0, none⟩ : Addr).add i = ⟨g, i, none⟩ := by unfold Addr.add; split <;> simp_all
    rw [hadd] at this
    rw [Nat.zero_add]; exact this
theorem ofP_list (l : List Nat) (n : Nat) : ofP (fun i => ((l.getD i 0 : Nat) : Int)) l.length n = decide (n ∈ l) := by
  rw [Bool.eq_iff_iff, ofP_iff, decide_eq_true_eq]
  constructor
  · rintro ⟨i, hi, e⟩
    rw [List.getD_eq_getElem?_getD, List.getElem?_eq_getElem hi] at e
    have : l[i] = n := by simp only [Option.getD_some] at e; exact Int.ofNat_inj.1 e
    rw [← this]; exact List.getElem_mem hi
  · intro h
    obtain ⟨i, hi, e⟩ := List.getElem_of_mem h
    exact ⟨i, hi, by rw [List.getD_eq_getElem?_getD, List.getElem?_eq_getElem hi]; simp [e]⟩
/-- The members below k, rising. -/
def upto (r : Nat → Bool) (k : Nat) : List Nat := (List.range k).filter r
theorem upto_succ (r : Nat → Bool) (k : Nat) : upto r (k + 1) = if r k then upto r k ++ [k] else upto r k := by
  unfold upto; rw [List.range_succ, List.filter_append]; cases h : r k <;> simp [h]
theorem upto_len (r : Nat → Bool) (k : Nat) : (upto r k).length ≤ k := by
  unfold upto; exact Nat.le_trans (List.length_filter_le _ _) (by simp)
theorem cells_upto (r : Nat → Bool) : cellsOf (ofP (fun i => (((upto r 1024).getD i 0 : Nat) : Int)) (upto r 1024).length) = cellsOf r :=
  cellsOf_congr fun n hn => by rw [ofP_list, Bool.eq_iff_iff, decide_eq_true_eq]; simp [upto, hn]

/-- Three rows in one world, each in a block of its own. -/
structure Rows3 (w : World) (B : Nat) (a b c : Value) (la lb lc : List Nat) : Prop where
  oa : OwnN w B a la
  ob : OwnN w B b lb
  oc : OwnN w B c lc
  ab : ∀ g, a.ownBlock = some g → b.ownBlock ≠ some g
  bc : ∀ g, b.ownBlock = some g → c.ownBlock ≠ some g
  ca : ∀ g, c.ownBlock = some g → a.ownBlock ≠ some g
theorem Rows3.rot {w : World} {B : Nat} {a b c : Value} {la lb lc : List Nat} (h : Rows3 w B a b c la lb lc) : Rows3 w B b c a lb lc la := ⟨h.ob, h.oc, h.oa, h.bc, h.ca, h.ab⟩
theorem Rows3.on {w w' : World} {B : Nat} {a b c : Value} {la lb lc : List Nat} (h : Rows3 w B a b c la lb lc) (hb : Below w.heap.size w w') : Rows3 w' B a b c la lb lc :=
  ⟨own_below h.oa hb, own_below h.ob hb, own_below h.oc hb, h.ab, h.bc, h.ca⟩
theorem Rows3.push {w w' : World} {B g cap k : Nat} {a b c : Value} {la lb lc : List Nat} (h : Rows3 w B a b c la lb lc) {o : Obj}
    (ho : w'.ownsRow B 3 1 (.slice (some ⟨g, 0, none⟩) (la.length + 1) cap) (la.length + 1) (natCells la ++ [.int .i64 (k : Int)])) (hg : (w.alloc o).grownBy w' a.ownBlock) (hat : a.ownBlock = some g ∨ g = w.heap.size + 1) :
    Rows3 w' B (.slice (some ⟨g, 0, none⟩) (la.length + 1) cap) b c (la ++ [k]) lb lc := by
  have fresh : ∀ {v : Value} {l : List Nat}, OwnN w B v l → v.ownBlock = some g → g = w.heap.size + 1 → False := fun hv e1 e2 => by
    have := (hv.lt g e1).2; omega
  refine ⟨?_, (h.ob.alloc o).kept hg ?_, (h.oc.alloc o).kept hg ?_, ?_, h.bc, ?_⟩
  · rw [natCells_app] at ho; simpa [OwnN] using ho
  · cases e : b.ownBlock with
    | none => exact .inl rfl
    | some x => exact .inr fun e2 => h.ab x e2.symm e
  · cases e : c.ownBlock with
    | none => exact .inl rfl
    | some x => exact .inr fun e2 => h.ca x e e2.symm
  · intro x hx e
    have hx' : g = x := by simpa [Value.ownBlock] using hx
    subst hx'
    rcases hat with hat | hat
    · exact h.ab g hat e
    · exact fresh h.ob e hat
  · intro x hx e
    have hx' : g = x := by simpa [Value.ownBlock] using e
    subst hx'
    rcases hat with hat | hat
    · exact h.ca g hx hat
    · exact fresh h.oc hx hat
theorem rows_nil (w : World) (B : Nat) {r s t : Nat → Bool} : Rows3 w B (.slice none 0 0) (.slice none 0 0) (.slice none 0 0) (upto r 0) (upto s 0) (upto t 0) :=
  ⟨World.ownsRow_nil _ _ _ _, World.ownsRow_nil _ _ _ _, World.ownsRow_nil _ _ _ _, fun g h => by simp [Value.ownBlock] at h, fun g h => by simp [Value.ownBlock] at h, fun g h => by simp [Value.ownBlock] at h⟩
/-- What holds at the head of Three's loop. -/
structure ThInv (p q : Nat → Bool) (B : Nat) (w : World) (k : Nat) (a b c : Value) (wr : World) : Prop where
  bel : Below B w wr
  b0 : wr.heap[B]? = some (.cells (cellsOf p) 28 (0, 0))
  b1 : wr.heap[B + 1]? = some (.cells (cellsOf q) 28 (0, 0))
  b2 : wr.heap[B + 1 + 1]? = some (.cells (cellsOf fun _ => false) 28 (0, 0))
  b3 : wr.heap[B + 1 + 1 + 1]? = some (.cells (cellsOf fun _ => false) 28 (0, 0))
  b4 : wr.heap[B + 1 + 1 + 1 + 1]? = some (.cells (cellsOf fun _ => false) 28 (0, 0))
  lt : B + 5 ≤ wr.heap.size
  rows : Rows3 wr (B + 5) a b c (upto (fun n => p n && q n) k) (upto (fun n => p n || q n) k) (upto (fun n => p n && !q n) k)
theorem ThInv.keep {p q : Nat → Bool} {B k k' : Nat} {w wr w' : World} {a b c a' b' c' : Value} (h : ThInv p q B w k a b c wr) (hb : Below (B + 5) wr w')
    (hr : Rows3 w' (B + 5) a' b' c' (upto (fun n => p n && q n) k') (upto (fun n => p n || q n) k') (upto (fun n => p n && !q n) k')) : ThInv p q B w k' a' b' c' w' :=
  ⟨h.bel.trans (hb.mono (by omega)), (hb.block _ (by omega)).trans h.b0, (hb.block _ (by omega)).trans h.b1, (hb.block _ (by omega)).trans h.b2, (hb.block _ (by omega)).trans h.b3, (hb.block _ (by omega)).trans h.b4, Nat.le_trans h.lt hb.size, hr⟩
theorem push_below {w w' : World} {B g : Nat} {v : Value} {l : List Nat} {o : Obj} (hv : OwnN w B v l) (hg : (w.alloc o).grownBy w' v.ownBlock) (hB : B ≤ w.heap.size) (_ : g = g) : Below B w w' :=
  Below.grown ((Below.refl _ _).alloc hB _) hg (by simp; omega) (fun k hk => (hv.lt k hk).1)

/-- Three results, each a set in a block. -/
theorem res_sets3 {fn : Func} {R : Ending → World → Prop} {a : Act} {w : World} {t u v : Tmp} (h : fn.results = #[.cell t 28, .cell u 28, .cell v 28]) (g1 g2 g3 : Nat) (p q r : Nat → Bool)
    (h1 : a.tmps.getD t undef = .pointer (some ⟨g1, 0, none⟩)) (h2 : a.tmps.getD u undef = .pointer (some ⟨g2, 0, none⟩)) (h3 : a.tmps.getD v undef = .pointer (some ⟨g3, 0, none⟩))
    (k1 : w.heap[g1]? = some (.cells (cellsOf p) 28 (0, 0))) (k2 : w.heap[g2]? = some (.cells (cellsOf q) 28 (0, 0))) (k3 : w.heap[g3]? = some (.cells (cellsOf r) 28 (0, 0))) (hd : a.defers = [])
    (hR : R (.returned (.tuple #[.agg (cellsOf p), .agg (cellsOf q), .agg (cellsOf r)])) w) : bodyPost Try.prog fn R .ret a w := by
  have e1 : a.tmps[t]?.getD undef = .pointer (some ⟨g1, 0, none⟩) := by simpa using h1
  have e2 : a.tmps[u]?.getD undef = .pointer (some ⟨g2, 0, none⟩) := by simpa using h2
  have e3 : a.tmps[v]?.getD undef = .pointer (some ⟨g3, 0, none⟩) := by simpa using h3
  have r1 := run_loadVar_row w g1 28 28 _ (0, 0) _ k1 underSet rfl (by rw [infoSet, cellsOf_size])
  have r2 := run_loadVar_row w g2 28 28 _ (0, 0) _ k2 underSet rfl (by rw [infoSet, cellsOf_size])
  have r3 := run_loadVar_row w g3 28 28 _ (0, 0) _ k3 underSet rfl (by rw [infoSet, cellsOf_size])
  refine bodyPost_ret (v := .tuple #[.agg (cellsOf p), .agg (cellsOf q), .agg (cellsOf r)]) ?_ hd hR
  simp [results, h, e1, e2, e3, asAddr, r1, r2, r3]
set_option maxRecDepth 100000 in
set_option maxHeartbeats 1600000 in
theorem three_any (p q : Nat → Bool) (w : World) :
    Calls Try.prog 10 #[.agg (cellsOf p), .agg (cellsOf q)] w fun e w' => e = .returned (.tuple #[.agg (cellsOf (fun n => p n && q n)), .agg (cellsOf (fun n => p n || q n)), .agg (cellsOf (fun n => p n && !q n))]) ∧ Below w.heap.size w w' := by
  have hz := cellsOf_zero.symm
  obtain ⟨i0, hi0, hz0, hz1, hz2⟩ := info_parts infoInt
  have I0 : ThInv p q w.heap.size w 0 (.slice none 0 0) (.slice none 0 0) (.slice none 0 0) (((((w.alloc (.cells (cellsOf p) 28)).alloc (.cells (cellsOf q) 28)).alloc (.cells (cellsOf fun _ => false) 28)).alloc (.cells (cellsOf fun _ => false) 28)).alloc (.cells (cellsOf fun _ => false) 28)) := by
    refine ⟨?_, ?_, ?_, ?_, ?_, ?_, by simp, rows_nil _ _⟩
    · exact (((((Below.refl _ _).alloc (Nat.le_refl _) _).alloc (by simp) _).alloc (by simp; omega) _).alloc (by simp; omega) _).alloc (by simp; omega) _
    all_goals
      show (((((w.heap.push _).push _).push _).push _).push _)[_]? = _
      simp only [Array.getElem?_push, Array.size_push]
    · rw [if_neg (by omega), if_neg (by omega), if_neg (by omega), if_neg (by omega), if_pos trivial]
    · rw [if_neg (by omega), if_neg (by omega), if_neg (by omega), if_pos trivial]
    · rw [if_neg (by omega), if_neg (by omega), if_pos trivial]
    · rw [if_neg (by omega), if_pos trivial]
    · rw [if_pos trivial]
  have HI := Lib.hid I0; clear I0
  go_enter Try.func10, Try.ntmps10
  go_wp2
  generalize hB : w.heap.size = B at HI ⊢
  have HB := Lib.hid hB; clear hB
  go_loopw [7, 8, 9, 10] (fun a b c i wr => ∃ k : Nat, k ≤ 1024 ∧ i = .int .i64 k ∧ ThInv p q B w k a b c wr) (fun _ _ _ i _ => 1024 - (intOf i).toNat)
  case atStart => exact ⟨0, by omega, rfl, HI.out⟩
  case round =>
    obtain ⟨k, hk, rfl, hI⟩ := hrel
    clear HI
    by_cases hlt : k < 1024
    · go_wp2_with fail
      refine wp_region_cls (by kernel_rfl) (by kernel_rfl) ?_
      have K0 := Lib.hid hI.b0; have K1 := Lib.hid hI.b1
      have hBl := hI.lt
      repeat
        first
        | go_big_quiet_skip
        | (go_big_quiet_want
           first
           | (refine quiet_load_set _ rfl _ _ rfl (fun w' h => by first | exact h.blk (by omega) K0.out | exact h.blk (by omega) K1.out) ?_; go_simp; go_big_quiet_on)
           | (go_big_quiet_op
              first
              | go_big_quiet_on
              | (refine ⟨_, fun _ _ => rfl, ?_⟩; go_big_quiet_on)
              | (refine ⟨_, fun w' h => quiet_call h (Nat.le_refl _) (refHas_yes _ k w' hlt), ?_⟩; go_big_quiet_on)))
      refine wpQuiet_nil ?_
      intro w2 h2
      have HH := Lib.hid (hI.rows.on h2.bl)
      have hJ := hI.keep (h2.bl.mono (by omega)) HH.out
      have lt2 := hJ.lt
      have HJ := Lib.hid hJ; clear hJ K0 K1
      have l1 := upto_len (fun n => p n && q n) k
      have l2 := upto_len (fun n => p n || q n) k
      have l3 := upto_len (fun n => p n && !q n) k
      generalize hP : p k = bp
      generalize hQ : q k = bq
      have HP := Lib.hid hP; have HQ := Lib.hid hQ; clear hP hQ
      cases bp <;> cases bq
      · skip
        have e1 : upto (fun n => p n && q n) (k + 1) = upto (fun n => p n && q n) k := by rw [upto_succ]; simp [HP.out, HQ.out]
        have e2 : upto (fun n => p n || q n) (k + 1) = upto (fun n => p n || q n) k := by rw [upto_succ]; simp [HP.out, HQ.out]
        have e3 : upto (fun n => p n && !q n) (k + 1) = upto (fun n => p n && !q n) k := by rw [upto_succ]; simp [HP.out, HQ.out]
        have E1 := Lib.hid e1; have E2 := Lib.hid e2; have E3 := Lib.hid e3; clear e1 e2 e3
        go_wp2_with fail
        have hN : ThInv p q B w (k + 1) u7 u8 u9 w2 := HJ.out.keep (Below.refl _ _) (by rw [E1.out, E2.out, E3.out]; exact HJ.out.rows)
        go_roundw
        case rel => exact ⟨k + 1, by omega, by go_num, hN⟩
        case measure => simp [intOf]; omega
      · skip
        have e1 : upto (fun n => p n && q n) (k + 1) = upto (fun n => p n && q n) k := by rw [upto_succ]; simp [HP.out, HQ.out]
        have e2 : upto (fun n => p n || q n) (k + 1) = upto (fun n => p n || q n) k ++ [k] := by rw [upto_succ]; simp [HP.out, HQ.out]
        have e3 : upto (fun n => p n && !q n) (k + 1) = upto (fun n => p n && !q n) k := by rw [upto_succ]; simp [HP.out, HQ.out]
        have E1 := Lib.hid e1; have E2 := Lib.hid e2; have E3 := Lib.hid e3; clear e1 e2 e3
        go_wp2_with (at_builtin; refine wpList_append_lies _ rfl (.tmp 35) (.tmp 37) 55 rfl (B + 5) 3 i0 (.int .i64 0) 1 8 Try.underlying55 hi0 hz0 hz1 hz2 rfl (by decide) _ _ _ rfl (HJ.out.rows.ob.alloc _) ⟨w2.heap.size, 0, none⟩ 1 1 [.int .i64 k] rfl rfl ?_ ?_ (by decide) ?_ ?_ ?_ (w2.heap.size + 1) ?_ ?_)
        · exact cell_one_new _ _ _
        · intro u hu; simp at hu; subst hu; rfl
        · unfold maxLen; omega
        · omega
        · simp; omega
        · simp
        intro g cap w3 own3 g3 hat3 hl3
        have R3 := Lib.hid (HJ.out.rows.rot.push own3 g3 hat3)
        have b3 := Lib.hid (push_below HJ.out.rows.ob g3 (by omega) (rfl : g = g))
        clear own3 g3 hat3
        go_wp2_with fail
        have hN : ThInv p q B w (k + 1) u7 (.slice (some ⟨g, 0, none⟩) ((upto (fun n => p n || q n) k).length + 1) cap) u9 w3 := HJ.out.keep b3.out (by rw [E1.out, E2.out, E3.out]; exact R3.out.rot.rot)
        go_roundw
        case rel => exact ⟨k + 1, by omega, by go_num, hN⟩
        case measure => simp [intOf]; omega
      · skip
        have e1 : upto (fun n => p n && q n) (k + 1) = upto (fun n => p n && q n) k := by rw [upto_succ]; simp [HP.out, HQ.out]
        have e2 : upto (fun n => p n || q n) (k + 1) = upto (fun n => p n || q n) k ++ [k] := by rw [upto_succ]; simp [HP.out, HQ.out]
        have e3 : upto (fun n => p n && !q n) (k + 1) = upto (fun n => p n && !q n) k ++ [k] := by rw [upto_succ]; simp [HP.out, HQ.out]
        have E1 := Lib.hid e1; have E2 := Lib.hid e2; have E3 := Lib.hid e3; clear e1 e2 e3
        go_wp2_with (at_builtin; refine wpList_append_lies _ rfl (.tmp 35) (.tmp 37) 55 rfl (B + 5) 3 i0 (.int .i64 0) 1 8 Try.underlying55 hi0 hz0 hz1 hz2 rfl (by decide) _ _ _ rfl (HJ.out.rows.ob.alloc _) ⟨w2.heap.size, 0, none⟩ 1 1 [.int .i64 k] rfl rfl ?_ ?_ (by decide) ?_ ?_ ?_ (w2.heap.size + 1) ?_ ?_)
        · exact cell_one_new _ _ _
        · intro u hu; simp at hu; subst hu; rfl
        · unfold maxLen; omega
        · omega
        · simp; omega
        · simp
        intro g cap w3 own3 g3 hat3 hl3
        have R3 := Lib.hid (HJ.out.rows.rot.push own3 g3 hat3)
        have b3 := Lib.hid (push_below HJ.out.rows.ob g3 (by omega) (rfl : g = g))
        have lt3 := b3.out.size
        clear own3 g3 hat3
        go_wp2_with (at_builtin; refine wpList_append_lies _ rfl (.tmp 44) (.tmp 46) 55 rfl (B + 5) 3 i0 (.int .i64 0) 1 8 Try.underlying55 hi0 hz0 hz1 hz2 rfl (by decide) _ _ _ rfl (R3.out.ob.alloc _) ⟨w3.heap.size, 0, none⟩ 1 1 [.int .i64 k] rfl rfl ?_ ?_ (by decide) ?_ ?_ ?_ (w3.heap.size + 1) ?_ ?_)
        · exact cell_one_new _ _ _
        · intro u hu; simp at hu; subst hu; rfl
        · unfold maxLen; omega
        · omega
        · simp; omega
        · simp
        intro g' cap' w4 own4 g4 hat4 hl4
        have R4 := Lib.hid (R3.out.rot.push own4 g4 hat4)
        have b4 := Lib.hid (b3.out.trans (push_below R3.out.ob g4 (by omega) (rfl : g' = g')))
        clear own4 g4 hat4
        go_wp2_with fail
        have hN : ThInv p q B w (k + 1) u7 (.slice (some ⟨g, 0, none⟩) ((upto (fun n => p n || q n) k).length + 1) cap) (.slice (some ⟨g', 0, none⟩) ((upto (fun n => p n && !q n) k).length + 1) cap') w4 := HJ.out.keep b4.out (by rw [E1.out, E2.out, E3.out]; exact R4.out.rot)
        go_roundw
        case rel => exact ⟨k + 1, by omega, by go_num, hN⟩
        case measure => simp [intOf]; omega
      · skip
        have e1 : upto (fun n => p n && q n) (k + 1) = upto (fun n => p n && q n) k ++ [k] := by rw [upto_succ]; simp [HP.out, HQ.out]
        have e2 : upto (fun n => p n || q n) (k + 1) = upto (fun n => p n || q n) k ++ [k] := by rw [upto_succ]; simp [HP.out, HQ.out]
        have e3 : upto (fun n => p n && !q n) (k + 1) = upto (fun n => p n && !q n) k := by rw [upto_succ]; simp [HP.out, HQ.out]
        have E1 := Lib.hid e1; have E2 := Lib.hid e2; have E3 := Lib.hid e3; clear e1 e2 e3
        go_wp2_with (at_builtin; refine wpList_append_lies _ rfl (.tmp 27) (.tmp 29) 55 rfl (B + 5) 3 i0 (.int .i64 0) 1 8 Try.underlying55 hi0 hz0 hz1 hz2 rfl (by decide) _ _ _ rfl (HJ.out.rows.oa.alloc _) ⟨w2.heap.size, 0, none⟩ 1 1 [.int .i64 k] rfl rfl ?_ ?_ (by decide) ?_ ?_ ?_ (w2.heap.size + 1) ?_ ?_)
        · exact cell_one_new _ _ _
        · intro u hu; simp at hu; subst hu; rfl
        · unfold maxLen; omega
        · omega
        · simp; omega
        · simp
        intro g cap w3 own3 g3 hat3 hl3
        have R3 := Lib.hid (HJ.out.rows.push own3 g3 hat3)
        have b3 := Lib.hid (push_below HJ.out.rows.oa g3 (by omega) (rfl : g = g))
        have lt3 := b3.out.size
        clear own3 g3 hat3
        go_wp2_with (at_builtin; refine wpList_append_lies _ rfl (.tmp 35) (.tmp 37) 55 rfl (B + 5) 3 i0 (.int .i64 0) 1 8 Try.underlying55 hi0 hz0 hz1 hz2 rfl (by decide) _ _ _ rfl (R3.out.ob.alloc _) ⟨w3.heap.size, 0, none⟩ 1 1 [.int .i64 k] rfl rfl ?_ ?_ (by decide) ?_ ?_ ?_ (w3.heap.size + 1) ?_ ?_)
        · exact cell_one_new _ _ _
        · intro u hu; simp at hu; subst hu; rfl
        · unfold maxLen; omega
        · omega
        · simp; omega
        · simp
        intro g' cap' w4 own4 g4 hat4 hl4
        have R4 := Lib.hid (R3.out.rot.push own4 g4 hat4)
        have b4 := Lib.hid (b3.out.trans (push_below R3.out.ob g4 (by omega) (rfl : g' = g')))
        clear own4 g4 hat4
        go_wp2_with fail
        have hN : ThInv p q B w (k + 1) (.slice (some ⟨g, 0, none⟩) ((upto (fun n => p n && q n) k).length + 1) cap) (.slice (some ⟨g', 0, none⟩) ((upto (fun n => p n || q n) k).length + 1) cap') u9 w4 := HJ.out.keep b4.out (by rw [E1.out, E2.out, E3.out]; exact R4.out.rot.rot)
        go_roundw
        case rel => exact ⟨k + 1, by omega, by go_num, hN⟩
        case measure => simp [intOf]; omega
    · obtain rfl : k = 1024 := by omega
      have hL := hI.lt
      have ia := Lib.hid (ints_of_own hI.rows.oa); have ib := Lib.hid (ints_of_own hI.rows.ob); have ic := Lib.hid (ints_of_own hI.rows.oc)
      have ma : Hid (∀ W, IntsAt W u7 _ _ → Calls Try.prog 29 #[u7] W fun e w' => e = .returned (.agg (cellsOf (fun n => p n && q n))) ∧ Below W.heap.size W w') := fun W h => by
        have := make_any _ _ u7 W (Nat.le_trans (upto_len (fun n => p n && q n) 1024) (by omega)) h; rw [cells_upto] at this; exact this
      have mb : Hid (∀ W, IntsAt W u8 _ _ → Calls Try.prog 29 #[u8] W fun e w' => e = .returned (.agg (cellsOf (fun n => p n || q n))) ∧ Below W.heap.size W w') := fun W h => by
        have := make_any _ _ u8 W (Nat.le_trans (upto_len (fun n => p n || q n) 1024) (by omega)) h; rw [cells_upto] at this; exact this
      have mc : Hid (∀ W, IntsAt W u9 _ _ → Calls Try.prog 29 #[u9] W fun e w' => e = .returned (.agg (cellsOf (fun n => p n && !q n))) ∧ Below W.heap.size W w') := fun W h => by
        have := make_any _ _ u9 W (Nat.le_trans (upto_len (fun n => p n && !q n) 1024) (by omega)) h; rw [cells_upto] at this; exact this
      have hbel := hI.bel
      have HI2 := Lib.hid hI; clear hI
      go_wp2_with fail
      refine (ma.out _ ia.out).mono ?_
      rintro e w3 ⟨rfl, h3⟩
      go_wp2_with fail
      refine (mb.out _ (ib.out.below h3)).mono ?_
      rintro e w4 ⟨rfl, h4⟩
      have h4' := h3.trans (h4.mono h3.size)
      go_wp2_with fail
      refine (mc.out _ (ic.out.below h4')).mono ?_
      rintro e w5 ⟨rfl, h5⟩
      have h5' := h4'.trans (h5.mono h4'.size)
      have K2 := Lib.hid ((h5'.block (B + 1 + 1) (by omega)).trans HI2.out.b2)
      have K3 := Lib.hid ((h5'.block (B + 1 + 1 + 1) (by omega)).trans HI2.out.b3)
      have K4 := Lib.hid ((h5'.block (B + 1 + 1 + 1 + 1) (by omega)).trans HI2.out.b4)
      have HB5 := Lib.hid (hbel.trans (h5'.mono (by omega)))
      clear h3 h4 h5 h4' h5'
      go_wp2_with (first | (refine st_set rfl (.tmp 4) _ rfl (B + 1 + 1) _ rfl rfl _ K2.out (cellsOf_size _) ?_) | (refine st_set rfl (.tmp 5) _ rfl (B + 1 + 1 + 1) _ rfl rfl _ ((setRow_other _ _ _ _ (by omega)).trans K3.out) (cellsOf_size _) ?_) | (refine st_set rfl (.tmp 6) _ rfl (B + 1 + 1 + 1 + 1) _ rfl rfl _ ((setRow_other _ _ _ _ (by omega)).trans ((setRow_other _ _ _ _ (by omega)).trans K4.out)) (cellsOf_size _) ?_))
      refine res_sets3 rfl (B + 1 + 1) (B + 1 + 1 + 1) (B + 1 + 1 + 1 + 1) _ _ _ rfl rfl rfl ((setRow_other _ _ _ _ (by omega)).trans ((setRow_other _ _ _ _ (by omega)).trans (setRow_heap _ _ _ _ _ _ K2.out))) ((setRow_other _ _ _ _ (by omega)).trans (setRow_heap _ _ _ _ _ _ ((setRow_other _ _ _ _ (by omega)).trans K3.out))) (setRow_heap _ _ _ _ _ _ ((setRow_other _ _ _ _ (by omega)).trans ((setRow_other _ _ _ _ (by omega)).trans K4.out))) rfl ⟨rfl, ?_⟩
      rw [HB.out]
      refine below_setRow (below_setRow (below_setRow HB5.out ?_ _) ?_ _) ?_ _ <;> omega
end Go.Proofs.Ytekahmfchpgmfaa
