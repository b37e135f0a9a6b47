/- The walk of CpusetMakes: the law answers true at every slice of numbers and every number. -/
import Derived.Test.YtaljhmpaccldcaaDoorNx
import Derived.Laws.AppendOwnNone
namespace Go.Proofs.YtaljhmpaccldcaaDoor
open Go.RowKit

theorem ints_less {w : World} {ad : Option Addr} {n m cap : Nat} {z : Nat → Int} (h : IntsAt w (.slice ad n cap) z n) (hm : m ≤ n) : IntsAt w (.slice ad m cap) z m := by
  refine ⟨ad, cap, rfl, ?_⟩
  rcases ints_cases h with h | ⟨b, off, rfl, hb, h⟩
  · exact .inl (by omega)
  · exact .inr ⟨b, off, rfl, hb, fun i hi => h i (by omega)⟩
def intCells (l : List Int) : List Value := l.map (Value.int .i64)
/-- A slice of the call's own that holds these numbers. -/
abbrev OwnI (w : World) (B : Nat) (v : Value) (l : List Int) : Prop := w.ownsRow B 3 1 v l.length (intCells l)
theorem intCells_app (l : List Int) (k : Int) : intCells l ++ [.int .i64 k] = intCells (l ++ [k]) := by simp [intCells]
theorem ints_of_ownI {w : World} {B : Nat} {v : Value} {l : List Int} (h : OwnI w B v l) : IntsAt w v (fun i => l.getD i 0) l.length := by
  have h' := h
  rcases h.2 with ⟨rfl, hn⟩ | ⟨g, cap, cur, rfl, hg, hh, hc⟩
  · exact ⟨none, 0, by rw [hn], .inl hn⟩
  · refine ⟨some ⟨g, 0, none⟩, cap, rfl, .inr ⟨g, 0, rfl, (h'.lt g rfl).2, fun i hi => ?_⟩⟩
    have := h'.cells (g := g) rfl i (.int .i64 (l.getD i 0)) (by simp [intCells, List.getD_eq_getElem?_getD, List.getElem?_eq_getElem hi])
    have hadd : (⟨g, 0, none⟩ : Addr).add i = ⟨g, i, none⟩ := by unfold Addr.add; split <;> simp_all
    rw [hadd] at this
    rw [Nat.zero_add]; exact this
theorem ofP_listI (l : List Int) (n : Nat) : ofP (fun i => l.getD i 0) l.length n = decide ((n : Int) ∈ l) := by
  rw [Bool.eq_iff_iff, ofP_iff, decide_eq_true_eq]
  constructor
  · rintro ⟨i, hi, e⟩
    rw [List.getD_eq_getElem?_getD, List.getElem?_eq_getElem hi, Option.getD_some] at e
    rw [← e]; exact List.getElem_mem hi
  · intro h
    obtain ⟨i, hi, e⟩ := List.getElem_of_mem h
    exact ⟨i, hi, by rw [List.getD_eq_getElem?_getD, List.getElem?_eq_getElem hi, Option.getD_some, e]⟩
/-- The first k numbers. -/
def firsts (z : Nat → Int) (k : Nat) : List Int := (List.range k).map z
theorem firsts_len (z : Nat → Int) (k : Nat) : (firsts z k).length = k := by simp [firsts]
theorem firsts_succ (z : Nat → Int) (k : Nat) : firsts z (k + 1) = firsts z k ++ [z k] := by simp [firsts, List.range_succ]
theorem ofP_firsts (z : Nat → Int) (k n : Nat) : ofP z k n = decide ((n : Int) ∈ firsts z k) := by
  rw [Bool.eq_iff_iff, ofP_iff, decide_eq_true_eq]; simp [firsts]
/-- Those of the first k that are not n. -/
def others (z : Nat → Int) (n : Int) (k : Nat) : List Int := (firsts z k).filter (fun x => x != n)
theorem others_succ (z : Nat → Int) (n : Int) (k : Nat) : others z n (k + 1) = if z k = n then others z n k else others z n k ++ [z k] := by
  unfold others; rw [firsts_succ, List.filter_append]
  by_cases h : z k = n
  · rw [if_pos h]; simp [h]
  · rw [if_neg h]; simp [h]
theorem others_len (z : Nat → Int) (n : Int) (k : Nat) : (others z n k).length ≤ k := by
  unfold others; exact Nat.le_trans (List.length_filter_le _ _) (by rw [firsts_len]; exact Nat.le_refl _)
theorem cells_with (z : Nat → Int) (n : Int) (m : Nat) : cellsOf (ofP (fun i => (firsts z m ++ [n]).getD i 0) (firsts z m ++ [n]).length) = cellsOf (putP (ofP z m) n) :=
  cellsOf_congr fun k _ => by rw [ofP_listI]; unfold putP; rw [ofP_firsts]; simp
theorem cells_less (z : Nat → Int) (n : Int) (m : Nat) : cellsOf (ofP (fun i => (others z n m).getD i 0) (others z n m).length) = cellsOf (dropP (ofP z m) n) :=
  cellsOf_congr fun k _ => by rw [ofP_listI]; unfold dropP others; rw [ofP_firsts, Bool.eq_iff_iff]; simp
structure RowI (B : Nat) (w : World) (l : List Int) (a : Value) (wr : World) : Prop where
  bel : Below B w wr
  lt : B ≤ wr.heap.size
  own : OwnI wr B a l
theorem RowI.push {B g cap : Nat} {k : Int} {w wr w' : World} {l : List Int} {a : Value} {o : Obj} (h : RowI B w l a wr)
    (ho : w'.ownsRow B 3 1 (.slice (some ⟨g, 0, none⟩) (l.length + 1) cap) (l.length + 1) (intCells l ++ [.int .i64 k])) (hg : (wr.alloc o).grownBy w' a.ownBlock) :
    RowI B w (l ++ [k]) (.slice (some ⟨g, 0, none⟩) (l.length + 1) cap) w' := by
  have hb : Below B wr w' := Below.grown ((Below.refl _ _).alloc h.lt _) hg (by have := h.lt; simp; omega) (fun k hk => (h.own.lt k hk).1)
  refine ⟨h.bel.trans hb, Nat.le_trans h.lt hb.size, ?_⟩
  rw [intCells_app] at ho; simpa [OwnI] using ho
/-- append onto nothing of what a slice holds. -/
theorem append_src {ops : Array Oper} {rest : List Oper} {o : Oper} {a : Act} {w : World} {Q : Exit → Act → World → Prop} (hgd : o.guard = none) (s x : Operand) (ho : o.op = .call { callee := .builtin .append, args := #[s, x], argTypes := #[22, 22] })
    (B : Nat) (v : Value) (hs : a.eval s = v) (hown : w.ownsRow B 3 1 v 0 []) (ad : Option Addr) (m cap : Nat) (z : Nat → Int) (hx : a.eval x = .slice ad m cap) (hnil : ad = none → cap = 0) (hI : IntsAt w (.slice ad m cap) z m) (hm : m ≤ 60) (hB : B ≤ w.heap.size)
    (h : ∀ v' w', OwnI w' B v' (firsts z m) → Below B w w' → wpList Tryd.prog ops Q rest (a.put o.dst v') w') : wpList Tryd.prog ops Q (o :: rest) a w := by
  obtain ⟨i0, hi0, hz0, hz1, hz2⟩ := info_parts infoInt
  rcases ad with _ | ad
  · obtain rfl : cap = 0 := hnil rfl
    have hm0 : m = 0 := by
      rcases ints_cases hI with h | ⟨_, _, e, _⟩
      · exact h
      · cases e
    subst hm0
    exact wpList_append_own_none hgd s x 22 ho B 3 i0 1 Tryd.underlying22 hi0 v 0 [] hs hown hx (h v w (by simpa [OwnI, firsts, intCells] using hown) (Below.refl _ _))
  · refine wpList_append_own w hgd s x 22 ho B 3 i0 (.int .i64 0) 1 8 Tryd.underlying22 hi0 hz0 hz1 hz2 rfl (by decide) v 0 [] hs hown ad m cap (intCells (firsts z m)) hx (by simp [intCells, firsts]) ?_ ?_ (by unfold maxLen; omega) (by omega) hB ?_
    · intro j u hu
      have hj : j < m := by
        have := (List.getElem?_eq_some_iff.1 hu).1
        simpa [intCells, firsts] using this
      rcases ints_cases hI with h0 | ⟨b, off, e, _, hc⟩
      · omega
      · injection e with e
        subst e
        have hadd : (⟨b, off, none⟩ : Addr).add j = ⟨b, off + j, none⟩ := by unfold Addr.add; split <;> simp_all
        rw [hadd, hc j hj, ← hu]
        simp [intCells, firsts, hj]
    · intro u hu
      simp only [intCells, List.mem_map] at hu
      obtain ⟨y, _, rfl⟩ := hu; rfl
    · intro v' w' own g _
      refine h v' w' ?_ ?_
      · have : (firsts z m).length = 0 + m := by rw [firsts_len]; omega
        unfold OwnI; rw [this]; simpa using own
      · exact Below.grown (Below.refl _ _) g hB (fun k hk => (hown.lt k hk).1)
set_option maxRecDepth 100000 in
set_option maxHeartbeats 1600000 in
theorem makes_any (ad : Option Addr) (len cap : Nat) (z : Nat → Int) (n : Int) (w : World) (hT : Tabs w) (hI : IntsAt w (.slice ad len cap) z len) (hnil : ad = none → cap = 0) (hl : len ≤ cap) :
    Calls Tryd.prog 3 #[.slice ad len cap, .int .i64 n] w fun e w' => e = .returned (.bool true) ∧ Below w.heap.size w w' := by
  obtain ⟨i0, hi0, hz0, hz1, hz2⟩ := info_parts infoInt
  obtain ⟨m, hm, hm60, hml⟩ : ∃ m : Nat, min (len : Int) 60 = (m : Int) ∧ m ≤ 60 ∧ m ≤ len := ⟨min len 60, by omega, by omega, by omega⟩
  have hmc : m ≤ cap := Nat.le_trans hml hl
  have TT := Lib.hid hT; clear hT
  have II := Lib.hid hI; clear hI
  have hz := cellsOf_zero.symm
  go_enter Tryd.func3, Tryd.ntmps3
  have I1 := Lib.hid (show IntsAt w (.slice ad m cap) z m from ints_less II.out hml)
  go_wp2_with fail
  refine (of_any z m _ _ (by omega) I1.out).mono ?_
  rintro e w1 ⟨rfl, h1⟩
  obtain ⟨l1, l2, l3⟩ := lay_set w1 (fun _ => false) (ofP z m)
  have L2 := Lib.hid l2
  have IX := Lib.hid ((I1.out.below h1).below l1)
  have TX := Lib.hid ((TT.out.on h1).on l1)
  have BX := Lib.hid (h1.trans (l1.mono h1.size))
  clear l1 l2
  have hxs : ((w1.alloc (.cells (cellsOf fun _ => false) 25)).setRow w1.heap.size (cellsOf (ofP z m))).heap.size = w1.heap.size + 1 := by simp
  have hnew := heap_alloc_new ((w1.alloc (.cells (cellsOf fun _ => false) 25)).setRow w1.heap.size (cellsOf (ofP z m))) (.cells #[] 3)
  rw [hxs] at hnew
  have O0 := Lib.hid (show (((w1.alloc (.cells (cellsOf fun _ => false) 25)).setRow w1.heap.size (cellsOf (ofP z m))).alloc (.cells #[] 3)).ownsRow (w1.heap.size + 1) 3 1 (.slice (some ⟨w1.heap.size + 1, 0, none⟩) 0 0) 0 [] from ⟨rfl, .inr ⟨w1.heap.size + 1, 0, #[], rfl, Nat.le_refl _, hnew, Nat.le_refl _, by unfold maxLen; omega, rfl, rfl⟩⟩)
  have bE := (Below.refl _ ((w1.alloc (.cells (cellsOf fun _ => false) 25)).setRow w1.heap.size (cellsOf (ofP z m)))).alloc (Nat.le_refl _) (.cells #[] 3)
  have IA := Lib.hid (IX.out.below bE)
  have BE := Lib.hid bE
  clear hnew bE
  go_wp2_with (first | (with_reducible (show wpList _ _ _ _ _ _); refine st_set rfl _ _ rfl _ _ rfl rfl _ (heap_alloc_new _ _) (cellsOf_size _) ?_) | (at_builtin; refine append_src rfl (.tmp 17) (.tmp 18) rfl (w1.heap.size + 1) _ rfl O0.out ad m cap z rfl hnil IA.out hm60 (by simp) ?_; intro v2 w2 own2 b2; have OW2 := Lib.hid own2; have BW2 := Lib.hid b2; clear own2 b2) | (at_builtin; refine wpList_append_own _ rfl (.tmp 19) (.tmp 21) 22 rfl (w1.heap.size + 1) 3 i0 (.int .i64 0) 1 8 Tryd.underlying22 hi0 hz0 hz1 hz2 rfl (by decide) _ _ _ rfl (OW2.out.alloc _) ⟨w2.heap.size, 0, none⟩ 1 1 [.int .i64 n] rfl rfl ?_ ?_ ?_ ?_ ?_ ?_))
  · exact cell_one_new _ _ _
  · intro u hu; simp at hu; subst hu; rfl
  · rw [firsts_len]; unfold maxLen; omega
  · rw [firsts_len]; omega
  · have := BW2.out.size; simp at this ⊢; omega
  intro v3 w3 own3 g3 _
  rw [intCells_app] at own3
  have hlen3 : (firsts z m).length + 1 = (firsts z m ++ [n]).length := by simp
  rw [hlen3] at own3
  have i3 := ints_of_ownI own3
  have I3 := Lib.hid i3
  have b3 : Below (w1.heap.size + 1) w2 w3 := Below.grown ((Below.refl _ _).alloc (by have := BW2.out.size; simp at this; omega) _) g3 (by have := BW2.out.size; simp at this ⊢; omega) (fun k hk => (OW2.out.lt k hk).1)
  have B3 := Lib.hid (((hxs ▸ BE.out).trans BW2.out).trans b3)
  have mk3 : Hid (∀ W, IntsAt W v3 (fun i => (firsts z m ++ [n]).getD i 0) (firsts z m ++ [n]).length → Calls Tryd.prog 11 #[v3] W fun e w' => e = .returned (.agg (cellsOf (putP (ofP z m) n))) ∧ Below W.heap.size W w') := fun W h => by
    have := make_any _ _ v3 W (by simp [firsts_len]; omega) h; rw [cells_with] at this; exact this
  clear own3 g3 hlen3 i3 b3
  go_wp2_with fail
  refine (mk3.out _ I3.out).mono ?_
  rintro e w4 ⟨rfl, h4⟩
  obtain ⟨k1, k2, k3⟩ := lay_set w4 (fun _ => false) (putP (ofP z m) n)
  have hs3 := B3.out.size
  have b4 := B3.out.trans ((h4.trans (k1.mono h4.size)).mono (by omega))
  have K1 := Lib.hid k2
  have S1 := Lib.hid ((b4.block _ (by omega)).trans L2.out)
  have I4 := Lib.hid (IX.out.below (b4.mono (by omega)))
  have T4 := Lib.hid (TX.out.below b4 (by have := TX.out.2.2; omega))
  have BB := Lib.hid (BX.out.trans (b4.mono (by have := BX.out.size; omega)))
  have hs4 := b4.size
  clear k1 k2 h4 b4 mk3 I3
  go_wp2_with (with_reducible (show wpList _ _ _ _ _ _); refine st_set rfl _ _ rfl _ _ rfl rfl _ (heap_alloc_new _ _) (cellsOf_size _) ?_)
  generalize hX4 : (w4.alloc (.cells (cellsOf fun _ => false) 25)).setRow w4.heap.size (cellsOf (putP (ofP z m) n)) = X4 at K1 S1 I4 T4 BB k3 hs4 ⊢
  clear hX4
  have HI := Lib.hid (show RowI X4.heap.size X4 (others z n 0) (.slice none 0 0) X4 from ⟨Below.refl _ _, Nat.le_refl _, World.ownsRow_nil _ _ _ _⟩)
  go_loopw [7, 26] (fun a i wr => ∃ k : Nat, k ≤ m ∧ i = .int .i64 k ∧ RowI X4.heap.size X4 (others z n k) a wr) (fun _ i _ => m - (intOf i).toNat)
  case atStart => exact ⟨0, by omega, rfl, HI.out⟩
  case round =>
    obtain ⟨k, hk, rfl, hI⟩ := hrel
    clear HI
    have l1 := others_len z n k
    have hl4 := hI.lt
    by_cases hlt : k < m
    · rcases ints_cases I4.out with h0 | ⟨bl, off, rfl, hbl, hcl⟩
      · omega
      have c0 := (hI.bel.cell (p := ⟨bl, off + k, none⟩) hbl).trans (hcl k hlt)
      clear hcl
      have HJ := Lib.hid hI; clear hI
      by_cases hzn : z k = n
      · have d1 : (z k != n) = false := by simp [hzn]
        have E1 := Lib.hid (show others z n (k + 1) = others z n k by rw [others_succ, if_pos hzn])
        clear hzn
        go_wp2
        go_roundw
        case rel => exact ⟨k + 1, by omega, by go_num, by rw [E1.out]; exact HJ.out⟩
        case measure => simp [intOf]; omega
      · have d1 : (z k != n) = true := by simp [hzn]
        have E1 := Lib.hid (show others z n (k + 1) = others z n k ++ [z k] by rw [others_succ, if_neg hzn])
        clear hzn
        go_wp2_with (at_builtin; refine wpList_append_lies _ rfl (.tmp 33) (.tmp 35) 22 rfl X4.heap.size 3 i0 (.int .i64 0) 1 8 Tryd.underlying22 hi0 hz0 hz1 hz2 rfl (by decide) _ _ _ rfl (HJ.out.own.alloc _) ⟨wr.heap.size, 0, none⟩ 1 1 [.int .i64 (z k)] rfl rfl ?_ ?_ (by decide) ?_ ?_ ?_ (wr.heap.size + 1) ?_ ?_)
        · exact cell_one_new _ _ _
        · intro u hu; simp at hu; subst hu; rfl
        · unfold maxLen; omega
        · omega
        · simp; omega
        · simp
        intro g cap w3 own3 g3 hat3 hl3
        have R3 := Lib.hid (HJ.out.push own3 g3)
        clear own3 g3 hat3
        go_wp2_with fail
        go_roundw
        case rel => exact ⟨k + 1, by omega, by go_num, by rw [E1.out]; exact R3.out⟩
        case measure => simp [intOf]; omega
    · obtain rfl : k = m := by omega
      have hown := hI.own
      have il := Lib.hid (ints_of_ownI hown)
      have S5 := Lib.hid ((hI.bel.block _ (by omega)).trans S1.out)
      have K5 := Lib.hid ((hI.bel.block _ k3).trans K1.out)
      have I5 := Lib.hid (I4.out.below hI.bel)
      have T5 := Lib.hid (T4.out.on hI.bel)
      have B5 := Lib.hid (BB.out.trans (hI.bel.mono BB.out.size))
      have k5 := Nat.lt_of_lt_of_le k3 hI.lt
      have j5 : w1.heap.size < wr.heap.size := by omega
      have m1 : ∀ W, IntsAt W (.slice ad k cap) z k → Calls Tryd.prog 11 #[.slice ad k cap] W fun e w' => e = .returned (.agg (cellsOf (ofP z k))) ∧ Below W.heap.size W w' := fun W h =>
        make_any z k _ W (by omega) h
      have m2 : ∀ W, IntsAt W u7 (fun i => (others z n k).getD i 0) (others z n k).length → Calls Tryd.prog 11 #[u7] W fun e w' => e = .returned (.agg (cellsOf (dropP (ofP z k) n))) ∧ Below W.heap.size W w' := fun W h => by
        have := make_any _ _ u7 W (by omega) h; rw [cells_less] at this; exact this
      obtain ⟨ad7, cap7, hv⟩ : ∃ ad cap, u7 = .slice ad (others z n k).length cap := by
        rcases hown.2 with ⟨h, hn⟩ | ⟨g, cap, cur, h, _⟩
        · exact ⟨none, 0, by rw [h, hn]⟩
        · exact ⟨_, cap, h⟩
      have p1 : ∀ W, Calls Tryd.prog 12 #[.agg (cellsOf (ofP z k)), .int .i64 n] W fun e w' => e = .returned (.agg (cellsOf (putP (ofP z k) n))) ∧ Below W.heap.size W w' := fun W => put_any _ _ W
      have p2 : ∀ W, Calls Tryd.prog 13 #[.agg (cellsOf (ofP z k)), .int .i64 n] W fun e w' => e = .returned (.agg (cellsOf (dropP (ofP z k) n))) ∧ Below W.heap.size W w' := fun W => drop_any _ _ W
      have q1 : ∀ W, Calls Tryd.prog 14 #[.agg (cellsOf (ofP z k)), .int .i64 n] W fun e w' => e = .returned (.bool (hasP (ofP z k) n)) ∧ Below W.heap.size W w' := fun W => has_any _ _ W
      have q2 : ∀ W, Calls Tryd.prog 15 #[.agg (cellsOf (ofP z k)), .int .i64 n] W fun e w' => e = .returned (.bool (hasP (ofP z k) n)) ∧ Below W.heap.size W w' := fun W => refHas_any _ _ W
      clear hI hown l1
      generalize putP (ofP z k) n = P1 at *
      generalize dropP (ofP z k) n = P2 at *
      generalize hasP (ofP z k) n = hb at *
      generalize ofP z k = P0 at *
      generalize (others z n k).length = l7 at *
      generalize (fun i => (others z n k).getD i 0) = z7 at *
      subst hv
      have s0 := eqP_true.2 (fun n (_ : n < 1024) => (rfl : P0 n = P0 n))
      have s1 := eqP_true.2 (fun n (_ : n < 1024) => (rfl : P1 n = P1 n))
      have s2 := eqP_true.2 (fun n (_ : n < 1024) => (rfl : P2 n = P2 n))
      have M1 := Lib.hid m1; have M2 := Lib.hid m2; have E1 := Lib.hid p1; have E2 := Lib.hid p2; have Q1 := Lib.hid q1; have Q2 := Lib.hid q2
      clear m1 m2 p1 p2 q1 q2
      go_wp2_with fail
      refine wp_region_cls (by kernel_rfl) (by kernel_rfl) ?_
      repeat
        first
        | go_big_quiet_skip
        | (go_big_quiet_want
           first
           | (refine quiet_load_set _ rfl _ _ rfl (fun w' h => by first | exact h.blk j5 S5.out | exact h.blk k5 K5.out) ?_; go_simp; go_big_quiet_on)
           | (refine quiet_eql_set _ _ _ rfl _ _ rfl rfl ?_; go_simp; go_big_quiet_on)
           | (go_big_quiet_op
              first
              | go_big_quiet_on
              | (refine ⟨_, fun _ _ => rfl, ?_⟩; go_big_quiet_on)
              | (apply Exists.intro
                 refine ⟨fun w' h => ?_, ?_⟩
                 · (first | (go_at_call 11; first | with_reducible exact quiet_call h (Nat.le_refl _) (M1.out w' (I5.out.below h.bl)) | with_reducible exact quiet_call h (Nat.le_refl _) (M2.out w' (il.out.below h.bl))) | (go_at_call 12; exact quiet_call h (Nat.le_refl _) (E1.out w')) | (go_at_call 13; exact quiet_call h (Nat.le_refl _) (E2.out w')) | (go_at_call 14; exact quiet_call h (Nat.le_refl _) (Q1.out w')) | (go_at_call 15; exact quiet_call h (Nat.le_refl _) (Q2.out w')) | (go_at_call 16; exact quiet_call h (Nat.le_refl _) (lives_any w' (T5.out.on h.bl))))
                 go_big_quiet_on)))
      refine wpQuiet_nil ?_
      intro w9 h9
      go_wp2
      go_ret
      exact ⟨rfl, B5.out.trans (h9.bl.mono B5.out.size)⟩
end Go.Proofs.YtaljhmpaccldcaaDoor
