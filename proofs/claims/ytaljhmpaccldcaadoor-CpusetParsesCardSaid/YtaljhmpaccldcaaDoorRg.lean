/- The walk of CpusetRanges: the law answers true at every two numbers. -/
import Derived.Test.YtaljhmpaccldcaaDoorTh
import Derived.Test.YtaljhmpaccldcaaDoorLv
import Derived.Test.YtaljhmpaccldcaaDoorLe
namespace Go.Proofs.YtaljhmpaccldcaaDoor
open Go.RowKit

theorem upto_cnt (r : Nat → Bool) (k : Nat) : (upto r k).length = cnt r k := by
  induction k with
  | zero => rfl
  | succ k ih => rw [upto_succ, cnt]; split <;> simp_all
/-- A row of numbers that grows, in a block of its own. -/
structure Row1 (B : Nat) (w : World) (l : List Nat) (a : Value) (wr : World) : Prop where
  bel : Below B w wr
  lt : B ≤ wr.heap.size
  own : OwnN wr B a l
theorem Row1.on {B : Nat} {w wr w' : World} {l : List Nat} {a : Value} (h : Row1 B w l a wr) (hb : Below wr.heap.size wr w') : Row1 B w l a w' :=
  ⟨h.bel.trans (hb.mono h.lt), Nat.le_trans h.lt hb.size, own_below h.own hb⟩
theorem Row1.push {B k g cap : Nat} {w wr w' : World} {l : List Nat} {a : Value} {o : Obj} (h : Row1 B w l a wr)
    (ho : w'.ownsRow B 3 1 (.slice (some ⟨g, 0, none⟩) (l.length + 1) cap) (l.length + 1) (natCells l ++ [.int .i64 (k : Int)])) (hg : (wr.alloc o).grownBy w' a.ownBlock) :
    Row1 B w (l ++ [k]) (.slice (some ⟨g, 0, none⟩) (l.length + 1) cap) w' := by
  have hb := push_below h.own hg h.lt (rfl : g = g)
  refine ⟨h.bel.trans hb, Nat.le_trans h.lt hb.size, ?_⟩
  rw [natCells_app] at ho; simpa [OwnN] using ho

theorem own_formN {w : World} {B : Nat} {v : Value} {l : List Nat} (h : OwnN w B v l) : ∃ ad cap, v = .slice ad l.length cap := by
  rcases h.2 with ⟨rfl, hn⟩ | ⟨g, cap, cur, rfl, hg, hh, hc⟩
  · exact ⟨none, 0, by rw [hn]⟩
  · exact ⟨_, cap, rfl⟩
set_option maxRecDepth 100000 in
set_option maxHeartbeats 1600000 in
theorem ranges_any (f t : Int) (w : World) (hT : Tabs w) :
    Calls Tryd.prog 4 #[.int .i64 f, .int .i64 t] w fun e w' => e = .returned (.bool true) ∧ Below w.heap.size w w' := by
  have hz := cellsOf_zero.symm
  obtain ⟨i0, hi0, hz0, hz1, hz2⟩ := info_parts infoInt
  have TT := Lib.hid hT; clear hT
  have HI := Lib.hid (show Row1 w.heap.size w (upto (rangeP f t) 0) (.slice none 0 0) w from ⟨Below.refl _ _, Nat.le_refl _, World.ownsRow_nil _ _ _ _⟩)
  go_enter Tryd.func4, Tryd.ntmps4
  go_wp2
  generalize hB : w.heap.size = B at HI ⊢
  have HB := Lib.hid hB; clear hB
  go_loopw [5, 6] (fun a i wr => ∃ k : Nat, k ≤ 1024 ∧ i = .int .i64 k ∧ Row1 B w (upto (rangeP f t) k) a wr) (fun _ i _ => 1024 - (intOf i).toNat)
  case atStart => exact ⟨0, by omega, rfl, HI.out⟩
  case round =>
    obtain ⟨k, hk, rfl, hI⟩ := hrel
    clear HI
    by_cases hlt : k < 1024
    · by_cases hr : f ≤ (k : Int) ∧ (k : Int) ≤ t
      · have d1 : decide (f ≤ (k : Int)) = true := by simpa using hr.1
        have d2 : decide ((k : Int) ≤ t) = true := by simpa using hr.2
        have e1 : upto (rangeP f t) (k + 1) = upto (rangeP f t) k ++ [k] := by rw [upto_succ]; simp [rangeP, hr]
        have E1 := Lib.hid e1; clear e1 hr
        have l1 := upto_len (rangeP f t) k
        have hl := hI.lt
        have HJ := Lib.hid hI; clear hI
        go_wp2_with (at_builtin; refine wpList_append_lies _ rfl (.tmp 20) (.tmp 22) 22 rfl B 3 i0 (.int .i64 0) 1 8 Tryd.underlying22 hi0 hz0 hz1 hz2 rfl (by decide) _ _ _ rfl (HJ.out.own.alloc _) ⟨wr.heap.size, 0, none⟩ 1 1 [.int .i64 k] rfl rfl ?_ ?_ (by decide) ?_ ?_ ?_ (wr.heap.size + 1) ?_ ?_)
        · exact cell_one_new _ _ _
        · intro u hu; simp at hu; subst hu; rfl
        · unfold maxLen; omega
        · omega
        · simp; omega
        · simp
        intro g cap w3 own3 g3 hat3 hl3
        have R3 := Lib.hid (HJ.out.push own3 g3)
        clear own3 g3 hat3
        go_wp2_with fail
        go_roundw
        case rel => exact ⟨k + 1, by omega, by go_num, by rw [E1.out]; exact R3.out⟩
        case measure => simp [intOf]; omega
      · have e1 : upto (rangeP f t) (k + 1) = upto (rangeP f t) k := by rw [upto_succ, if_neg]; simpa [rangeP] using hr
        have E1 := Lib.hid e1; clear e1
        have HJ := Lib.hid hI; clear hI
        by_cases h1 : f ≤ (k : Int)
        · have d1 : decide (f ≤ (k : Int)) = true := by simpa using h1
          have d2 : decide ((k : Int) ≤ t) = false := by simp; omega
          clear h1 hr
          go_wp2
          go_roundw
          case rel => exact ⟨k + 1, by omega, by go_num, by rw [E1.out]; exact HJ.out⟩
          case measure => simp [intOf]; omega
        · have d1 : decide (f ≤ (k : Int)) = false := by simp; omega
          clear h1 hr
          go_wp2
          go_roundw
          case rel => exact ⟨k + 1, by omega, by go_num, by rw [E1.out]; exact HJ.out⟩
          case measure => simp [intOf]; omega
    · obtain rfl : k = 1024 := by omega
      have ia := Lib.hid (ints_of_own hI.own)
      have T1 := Lib.hid (TT.out.below hI.bel (by rw [← HB.out]; exact TT.out.2.2))
      have BB := Lib.hid hI.bel
      have hl := hI.lt
      obtain ⟨ad, cap, hv⟩ := own_formN hI.own
      have hm := upto_cnt (rangeP f t) 1024
      have hc := cells_upto (rangeP f t)
      have hlen := upto_len (rangeP f t) 1024
      clear hI
      subst hv
      have ma : Hid (∀ W, IntsAt W (.slice ad (upto (rangeP f t) 1024).length cap) (fun i => (((upto (rangeP f t) 1024).getD i 0 : Nat) : Int)) (upto (rangeP f t) 1024).length → Calls Tryd.prog 11 #[.slice ad (upto (rangeP f t) 1024).length cap] W fun e w' => e = .returned (.agg (cellsOf (rangeP f t))) ∧ Below W.heap.size W w') := fun W h => by
        have := make_any _ _ _ W (Nat.le_trans hlen (by omega)) h; rw [hc] at this; exact this
      have ml : Hid (∀ W, Calls Tryd.prog 18 #[.agg (cellsOf (rangeP f t))] W fun e w' => e = .returned (.int .i64 (upto (rangeP f t) 1024).length) ∧ Below W.heap.size W w') := fun W => by
        have := len_any (rangeP f t) W; rw [← hm] at this; exact this
      have s1 := eqP_true.2 (fun n (_ : n < 1024) => (rfl : rangeP f t n = rangeP f t n))
      clear hm hc hlen
      generalize (upto (rangeP f t) 1024).length = m at *
      generalize (fun i => (((upto (rangeP f t) 1024).getD i 0 : Nat) : Int)) = z at *
      go_wp2_with fail
      refine (range_any f t _).mono ?_
      rintro e w2 ⟨rfl, h2⟩
      obtain ⟨l1, l2, l3⟩ := lay_set w2 (fun _ => false) (rangeP f t)
      have L2 := Lib.hid l2
      have hsz := Nat.le_trans hl h2.size
      have IX := Lib.hid ((ia.out.below h2).below l1)
      have TX := Lib.hid ((T1.out.on h2).on l1)
      have BX := Lib.hid ((BB.out.trans (h2.mono hl)).trans (l1.mono hsz))
      clear l1 l2 ia T1 BB
      go_wp2_with (with_reducible (show wpList _ _ _ _ _ _); refine st_set rfl _ _ rfl _ _ rfl rfl _ (heap_alloc_new _ _) (cellsOf_size _) ?_)
      generalize hX : (w2.alloc (.cells (cellsOf fun _ => false) 25)).setRow w2.heap.size (cellsOf (rangeP f t)) = X at L2 l3 IX TX BX ⊢
      clear hX
      generalize w2.heap.size = b at *
      try simp only [Act.put]
      refine wp_region_cls (by kernel_rfl) (by kernel_rfl) ?_
      repeat
        first
        | go_big_quiet_skip
        | (go_big_quiet_want
           first
           | (refine quiet_load_set _ rfl _ _ rfl (fun w' h => h.blk l3 L2.out) ?_; go_simp; go_big_quiet_on)
           | (refine quiet_eql_set _ _ _ rfl _ _ rfl rfl ?_; go_simp; go_big_quiet_on)
           | (go_big_quiet_op
              first
              | go_big_quiet_on
              | (refine ⟨_, fun _ _ => rfl, ?_⟩; go_big_quiet_on)
              | (apply Exists.intro
                 refine ⟨fun w' h => ?_, ?_⟩
                 · (first | (go_at_call 11; exact quiet_call h (Nat.le_refl _) (ma.out w' (IX.out.below h.bl))) | (go_at_call 18; exact quiet_call h (Nat.le_refl _) (ml.out w')) | (go_at_call 16; exact quiet_call h (Nat.le_refl _) (lives_any w' (TX.out.on h.bl))))
                 go_big_quiet_on)))
      refine wpQuiet_nil ?_
      intro w9 h9
      go_wp2
      go_ret
      exact ⟨rfl, by rw [HB.out]; exact BX.out.trans (h9.bl.mono (by omega))⟩
end Go.Proofs.YtaljhmpaccldcaaDoor
