/- The walk of CpusetAlgebra: the law answers true at every two sets. -/
import Derived.Test.YtcnpcokddlkcaaaDoorTh
import Derived.Test.YtcnpcokddlkcaaaDoorLv
namespace Go.Proofs.YtcnpcokddlkcaaaDoor
open Go.RowKit

theorem eqP_self (p : Nat → Bool) : eqP p p = true := eqP_true.2 fun _ _ => rfl
theorem within_minus (p q : Nat → Bool) : eqP (fun n => p n && q n) p = eqP (fun n => p n && !q n) (fun _ => false) := by
  rw [Bool.eq_iff_iff, eqP_true, eqP_true]
  constructor
  · intro h n hn; have := h n hn; revert this; cases p n <;> cases q n <;> simp
  · intro h n hn; have := h n hn; revert this; cases p n <;> cases q n <;> simp
/-- Three results laid in three variables. -/
theorem lay_sets (w2 : World) (p q r : Nat → Bool) : Below w2.heap.size w2 ((((((w2.alloc (.cells (cellsOf fun _ => false) 25)).alloc (.cells (cellsOf fun _ => false) 25)).alloc (.cells (cellsOf fun _ => false) 25)).setRow w2.heap.size (cellsOf p)).setRow (w2.heap.size + 1) (cellsOf q)).setRow (w2.heap.size + 1 + 1) (cellsOf r)) ∧
    ((((((w2.alloc (.cells (cellsOf fun _ => false) 25)).alloc (.cells (cellsOf fun _ => false) 25)).alloc (.cells (cellsOf fun _ => false) 25)).setRow w2.heap.size (cellsOf p)).setRow (w2.heap.size + 1) (cellsOf q)).setRow (w2.heap.size + 1 + 1) (cellsOf r)).heap[w2.heap.size]? = some (.cells (cellsOf p) 25 (0, 0)) ∧
    ((((((w2.alloc (.cells (cellsOf fun _ => false) 25)).alloc (.cells (cellsOf fun _ => false) 25)).alloc (.cells (cellsOf fun _ => false) 25)).setRow w2.heap.size (cellsOf p)).setRow (w2.heap.size + 1) (cellsOf q)).setRow (w2.heap.size + 1 + 1) (cellsOf r)).heap[w2.heap.size + 1]? = some (.cells (cellsOf q) 25 (0, 0)) ∧
    ((((((w2.alloc (.cells (cellsOf fun _ => false) 25)).alloc (.cells (cellsOf fun _ => false) 25)).alloc (.cells (cellsOf fun _ => false) 25)).setRow w2.heap.size (cellsOf p)).setRow (w2.heap.size + 1) (cellsOf q)).setRow (w2.heap.size + 1 + 1) (cellsOf r)).heap[w2.heap.size + 1 + 1]? = some (.cells (cellsOf r) 25 (0, 0)) ∧ w2.heap.size + 1 + 1 < ((((((w2.alloc (.cells (cellsOf fun _ => false) 25)).alloc (.cells (cellsOf fun _ => false) 25)).alloc (.cells (cellsOf fun _ => false) 25)).setRow w2.heap.size (cellsOf p)).setRow (w2.heap.size + 1) (cellsOf q)).setRow (w2.heap.size + 1 + 1) (cellsOf r)).heap.size := by
  refine ⟨?_, ?_, ?_, ?_, by simp⟩
  · exact below_setRow (below_setRow (below_setRow ((((Below.refl _ _).alloc (Nat.le_refl _) _).alloc (by simp) _).alloc (by simp; omega) _) (Nat.le_refl _) _) (by omega) _) (by omega) _
  · exact (setRow_other _ _ _ _ (by omega)).trans ((setRow_other _ _ _ _ (by omega)).trans (setRow_heap _ _ _ _ _ _ (heap_alloc3_0 w2 _ _ _)))
  · exact (setRow_other _ _ _ _ (by omega)).trans (setRow_heap _ _ _ _ _ _ ((setRow_other _ _ _ _ (by omega)).trans (heap_alloc3_1 w2 _ _ _)))
  · exact setRow_heap _ _ _ _ _ _ ((setRow_other _ _ _ _ (by omega)).trans ((setRow_other _ _ _ _ (by omega)).trans (heap_alloc3_2 w2 _ _ _)))
set_option maxRecDepth 100000 in
set_option maxHeartbeats 800000 in
theorem algebra_any (p q : Nat → Bool) (w : World) (hT : Tabs w) :
    Calls Tryd.prog 6 #[.agg (cellsOf p), .agg (cellsOf q)] w fun e w' => e = .returned (.bool true) ∧ Below w.heap.size w w' := by
  have hz := cellsOf_zero.symm
  have g0 := heap_alloc2_old w (.cells (cellsOf p) 25) (.cells (cellsOf q) 25)
  have g1 := heap_alloc2_new w (.cells (cellsOf p) 25) (.cells (cellsOf q) 25)
  have hb0 : Below w.heap.size w ((w.alloc (.cells (cellsOf p) 25)).alloc (.cells (cellsOf q) 25)) := ((Below.refl _ _).alloc (Nat.le_refl _) _).alloc (by simp) _
  have TT := Lib.hid (hT.on hb0)
  have HB0 := Lib.hid hb0; clear hb0 hT
  have G0 := Lib.hid g0; have G1 := Lib.hid g1; clear g0 g1
  go_enter Tryd.func6, Tryd.ntmps6
  go_wp2_with (first | (refine ld_set rfl _ rfl _ rfl _ G0.out ?_) | (refine ld_set rfl _ rfl _ rfl _ G1.out ?_))
  refine (three_any p q _).mono ?_
  rintro e w2 ⟨rfl, h2⟩
  have hsz : w.heap.size + 1 < w2.heap.size := Nat.lt_of_lt_of_le (by simp) h2.size
  have K0 := Lib.hid ((h2.block _ (by simp; omega)).trans G0.out)
  have K1 := Lib.hid ((h2.block _ (by simp)).trans G1.out)
  have T2 := Lib.hid (TT.out.on h2)
  have B2 := Lib.hid (HB0.out.trans (h2.mono HB0.out.size))
  clear h2 TT HB0 G0 G1
  obtain ⟨x1, x2, x3, x4, x5⟩ := lay_sets w2 (fun n => p n && q n) (fun n => p n || q n) (fun n => p n && !q n)
  have X1 := Lib.hid x1; have X2 := Lib.hid x2; have X3 := Lib.hid x3; have X4 := Lib.hid x4; have X5 := Lib.hid x5; clear x1 x2 x3 x4 x5
  go_wp2_with (first | (with_reducible (show wpList _ _ _ _ _ _); refine st_set rfl (.tmp 5) _ rfl w2.heap.size _ rfl rfl _ (heap_alloc3_0 w2 _ _ _) (cellsOf_size _) ?_) | (with_reducible (show wpList _ _ _ _ _ _); refine st_set rfl (.tmp 6) _ rfl (w2.heap.size + 1) _ rfl rfl _ ((setRow_other _ _ _ _ (by omega)).trans (heap_alloc3_1 w2 _ _ _)) (cellsOf_size _) ?_) | (with_reducible (show wpList _ _ _ _ _ _); refine st_set rfl (.tmp 7) _ rfl (w2.heap.size + 1 + 1) _ rfl rfl _ ((setRow_other _ _ _ _ (by omega)).trans ((setRow_other _ _ _ _ (by omega)).trans (heap_alloc3_2 w2 _ _ _))) (cellsOf_size _) ?_))
  generalize hX : ((((((w2.alloc (.cells (cellsOf fun _ => false) 25)).alloc (.cells (cellsOf fun _ => false) 25)).alloc (.cells (cellsOf fun _ => false) 25)).setRow w2.heap.size (cellsOf fun n => p n && q n)).setRow (w2.heap.size + 1) (cellsOf fun n => p n || q n)).setRow (w2.heap.size + 1 + 1) (cellsOf fun n => p n && !q n)) = X at X1 X2 X3 X4 X5 ⊢
  clear hX
  have J0 := Lib.hid ((X1.out.block _ (by omega)).trans K0.out)
  have J1 := Lib.hid ((X1.out.block _ hsz).trans K1.out)
  have TX := Lib.hid (T2.out.on X1.out)
  have BX := Lib.hid (B2.out.trans (X1.out.mono B2.out.size))
  have x5 := X5.out
  have hA : Hid (∀ w', Calls Tryd.prog 27 #[.agg (cellsOf p), .agg (cellsOf q)] w' fun e w'' => e = .returned (.bool (eqP (fun n => p n && !q n) fun _ => false)) ∧ Below w'.heap.size w' w'') := fun w' => by
    have := within_any p q w'; rw [within_minus] at this; exact this
  obtain ⟨m1, hm1⟩ : ∃ m1, eqP (fun n => p n && !q n) (fun _ => false) = m1 := ⟨_, rfl⟩
  obtain ⟨m2, hm2⟩ : ∃ m2, eqP (fun n => p n && q n) (fun _ => false) = m2 := ⟨_, rfl⟩
  have hW : Hid (∀ w', Calls Tryd.prog 27 #[.agg (cellsOf p), .agg (cellsOf q)] w' fun e w'' => e = .returned (.bool m1) ∧ Below w'.heap.size w' w'') := fun w' => by
    have := hA.out w'; rw [hm1] at this; exact this
  have hMt : Hid (∀ w', Calls Tryd.prog 28 #[.agg (cellsOf p), .agg (cellsOf q)] w' fun e w'' => e = .returned (.bool (!m2)) ∧ Below w'.heap.size w' w'') := fun w' => by
    have := meets_any p q w'; rw [hm2] at this; exact this
  clear hA
  have s1 := eqP_self (fun n => p n && q n); have s2 := eqP_self (fun n => p n || q n); have s3 := eqP_self (fun n => p n && !q n)
  clear X1 X5 K0 K1 T2 B2
  generalize w2.heap.size = N at *
  simp only [Act.put]
  refine wp_region_cls (by kernel_rfl) (by kernel_rfl) ?_
  repeat
    first
    | go_big_quiet_skip
    | (go_big_quiet_want
       first
       | (refine quiet_load_set _ rfl _ _ rfl (fun w' h => by first | exact h.blk (by omega) J0.out | exact h.blk (by omega) J1.out | exact h.blk (by omega) X2.out | exact h.blk (by omega) X3.out | exact h.blk (by omega) X4.out) ?_; go_simp; go_big_quiet_on)
       | (refine quiet_eql_set _ _ _ rfl _ _ rfl rfl ?_; go_simp; go_big_quiet_on)
       | (refine quiet_neq_set _ _ _ rfl _ _ rfl rfl ?_; go_simp; go_big_quiet_on)
       | (go_big_quiet_op
          first
          | go_big_quiet_on
          | (refine ⟨_, fun _ _ => rfl, ?_⟩; go_big_quiet_on)
          | (apply Exists.intro
             refine ⟨fun w' h => ?_, ?_⟩
             · (first | (go_at_call 24; exact quiet_call h (Nat.le_refl _) (and_any p q w')) | (go_at_call 25; exact quiet_call h (Nat.le_refl _) (or_any p q w')) | (go_at_call 26; exact quiet_call h (Nat.le_refl _) (minus_any p q w')) | (go_at_call 27; exact quiet_call h (Nat.le_refl _) (hW.out w')) | (go_at_call 28; exact quiet_call h (Nat.le_refl _) (hMt.out w')) | (go_at_call 16; exact quiet_call h (Nat.le_refl _) (lives_any w' (TX.out.on h.bl))))
             go_big_quiet_on)))
  refine wpQuiet_nil ?_
  intro w9 h9
  go_wp2
  go_ret
  exact ⟨rfl, BX.out.trans (h9.bl.mono BX.out.size)⟩
end Go.Proofs.YtcnpcokddlkcaaaDoor
