/- The walk of CpusetPrints: the law answers true at every two sets and every text. -/
import Derived.Test.YtpdghnlnbhenhaaDoorRt
import Derived.Test.YtpdghnlnbhenhaaDoorLv
namespace Go.Proofs.YtpdghnlnbhenhaaDoor
open Go.RowKit

theorem parseR_err (c : Nat → Nat) (len : Nat) : ∀ f q i, (parseR c len f q i).2.1 ≠ 0 → (parseR c len f q i).1 = fun _ => false := by
  intro f
  induction f with
  | zero => intro q i h; simp [parseR] at h
  | succ f ih =>
    intro q i h
    rw [parseR] at h ⊢
    split at h
    · rename_i h1; rw [if_pos h1]
    · rename_i h1
      rw [if_neg h1]
      split at h
      · rename_i h2; rw [if_pos h2]
      · rename_i h2
        rw [if_neg h2]
        split at h
        · rename_i h3; exact absurd rfl h
        · rename_i h3
          rw [if_neg h3]
          exact ih _ _ h
theorem parseAll_err {c : Nat → Nat} {len : Nat} {p : Nat → Bool} {a b : Nat} (h : parseAll c len = (p, a, b)) (ha : a ≠ 0) : p = fun _ => false := by
  unfold parseAll at h
  split at h
  · injection h with h1 h2; exact h1.symm
  · have := parseR_err c len (len + 1) (fun _ => false) 0
    rw [h] at this
    exact this ha
theorem eqP_me (p : Nat → Bool) : eqP p p = true := eqP_true.2 fun _ _ => rfl
/-- What the two texts of two sets have to do with each other. -/
theorem texts (p q : Nat → Bool) : ∃ sp sq : ByteArray, sp = ⟨(printAll p).toArray⟩ ∧
    (∀ W, Tabs W → Calls Tryd.prog 31 #[.agg (cellsOf p)] W fun e w' => e = .returned (.string sp) ∧ Below W.heap.size W w') ∧
    (∀ W, Tabs W → Calls Tryd.prog 31 #[.agg (cellsOf q)] W fun e w' => e = .returned (.string sq) ∧ Below W.heap.size W w') ∧
    (sq.toList == sp.toList) = eqP p q := by
  by_cases h : eqP p q = true
  · have hc : cellsOf q = cellsOf p := cellsOf_congr fun n hn => (eqP_true.1 h n hn).symm
    refine ⟨⟨(printAll p).toArray⟩, ⟨(printAll p).toArray⟩, rfl, fun W hW => print_any p W hW, fun W hW => ?_, by rw [h]; simp⟩
    rw [hc]; exact print_any p W hW
  · refine ⟨⟨(printAll p).toArray⟩, ⟨(printAll q).toArray⟩, rfl, fun W hW => print_any p W hW, fun W hW => print_any q W hW, ?_⟩
    rw [show eqP p q = false by simpa using h]
    rw [Bool.eq_false_iff]
    intro he
    have := eq_of_beq he
    rw [ByteArray.toList_eq, ByteArray.toList_eq] at this
    exact h (printAll_inj (by simpa using this.symm))
theorem back (p : Nat → Bool) (W : World) : Calls Tryd.prog 29 #[.string ⟨(printAll p).toArray⟩] W fun e w' => e = .returned (.tuple #[.agg (cellsOf p), .int .i64 0, .int .i64 0]) ∧ Below W.heap.size W w' := by
  have := parse_any ⟨(printAll p).toArray⟩ W (by rw [size_mk]; have := printAll_length p; omega)
  rw [parse_printAll] at this
  exact this
set_option maxRecDepth 100000 in
set_option maxHeartbeats 1600000 in
theorem prints_any (p q : Nat → Bool) (s : ByteArray) (w : World) (hT : Tabs w) :
    Calls Tryd.prog 9 #[.agg (cellsOf p), .agg (cellsOf q), .string s] w fun e w' => e = .returned (.bool true) ∧ Below w.heap.size w w' := by
  have hz := cellsOf_zero.symm
  have g0 := heap_alloc2_old w (.cells (cellsOf p) 25) (.cells (cellsOf q) 25)
  have g1 := heap_alloc2_new w (.cells (cellsOf p) 25) (.cells (cellsOf q) 25)
  have hb0 : Below w.heap.size w ((w.alloc (.cells (cellsOf p) 25)).alloc (.cells (cellsOf q) 25)) := ((Below.refl _ _).alloc (Nat.le_refl _) _).alloc (by simp) _
  have TT := Lib.hid (hT.on hb0)
  have HB0 := Lib.hid hb0; clear hb0 hT
  have G0 := Lib.hid g0; have G1 := Lib.hid g1; clear g0 g1
  obtain ⟨sp, sq, hsp, h1, h2, h3⟩ := texts p q
  have PP := Lib.hid h1; have PQ := Lib.hid h2
  have RP : Hid (∀ W, Calls Tryd.prog 32 #[.agg (cellsOf p)] W fun e w' => e = .returned (.string sp) ∧ Below W.heap.size W w') := fun W => by rw [hsp]; exact refPrint_any p W
  have BK : Hid (∀ W, Calls Tryd.prog 29 #[.string sp] W fun e w' => e = .returned (.tuple #[.agg (cellsOf p), .int .i64 0, .int .i64 0]) ∧ Below W.heap.size W w') := fun W => by rw [hsp]; exact back p W
  clear h1 h2 hsp
  have hX : (s.extract 0 (min (s.size : Int) 1000).toNat).size ≤ 100000 := by simp; omega
  obtain ⟨y, a, b, hR⟩ : ∃ y a b, parseAll (byteAt (s.extract 0 (min (s.size : Int) 1000).toNat)) (s.extract 0 (min (s.size : Int) 1000).toNat).size = (y, a, b) := ⟨_, _, _, rfl⟩
  have P1 : Hid (∀ W, Calls Tryd.prog 29 #[.string (s.extract 0 (min (s.size : Int) 1000).toNat)] W fun e w' => e = .returned (.tuple #[.agg (cellsOf y), .int .i64 a, .int .i64 b]) ∧ Below W.heap.size W w') := fun W => by
    have := parse_any _ W hX; rw [hR] at this; exact this
  have HR := Lib.hid hR; clear hX hR
  have H3 := Lib.hid h3; clear h3
  go_enter Tryd.func9, Tryd.ntmps9
  go_wp2_with (first | (refine ld_set rfl _ rfl _ rfl _ G0.out ?_) | (refine ld_set rfl _ rfl _ rfl _ G1.out ?_))
  refine (PP.out _ TT.out).mono ?_
  rintro e w1 ⟨rfl, h1⟩
  have B1 := Lib.hid (HB0.out.trans (h1.mono HB0.out.size))
  have TT1 := Lib.hid (TT.out.on h1)
  have J0 := Lib.hid ((h1.block _ (by simp; omega)).trans G0.out)
  have J1 := Lib.hid ((h1.block _ (by simp)).trans G1.out)
  have k1 : w.heap.size + 1 < w1.heap.size := Nat.lt_of_lt_of_le (by simp) h1.size
  clear h1 HB0 G0 G1
  go_wp2_with fail
  refine (BK.out _).mono ?_
  rintro e w2 ⟨rfl, h2⟩
  obtain ⟨l1, l2, l3⟩ := lay_set w2 (fun _ => false) p
  have hb2 := h2.trans (l1.mono h2.size)
  have K0 := Lib.hid ((hb2.block _ (by omega)).trans J0.out)
  have K1 := Lib.hid ((hb2.block _ (by omega)).trans J1.out)
  have K2 := Lib.hid l2
  have B2 := Lib.hid (B1.out.trans (hb2.mono B1.out.size))
  have TX := Lib.hid (TT1.out.on hb2)
  have k2 := Nat.lt_of_lt_of_le k1 hb2.size
  clear h2 l1 l2 hb2 J0 J1 B1 k1
  go_wp2_with (with_reducible (show wpList _ _ _ _ _ _); refine st_set rfl _ _ rfl _ _ rfl rfl _ (heap_alloc_new _ _) (cellsOf_size _) ?_)
  generalize hX1 : (w2.alloc (.cells (cellsOf fun _ => false) 25)).setRow w2.heap.size (cellsOf p) = X1 at K0 K1 K2 B2 l3 k2 TX ⊢
  clear hX1
  generalize w2.heap.size = b1 at *
  clear TT
  have s0 := eqP_me p
  have sy := eqP_me y
  obtain ⟨m, hm⟩ : ∃ m, eqP p q = m := ⟨_, rfl⟩
  have h3 := H3.out
  rw [hm] at h3
  clear H3
  refine wp_region_cls (by kernel_rfl) (by kernel_rfl) ?_
  repeat
    first
    | go_big_quiet_skip
    | (go_big_quiet_want
       first
       | (refine quiet_load_set _ rfl _ _ rfl (fun w' h => by first | exact h.blk (by omega) K0.out | exact h.blk (by omega) K1.out | exact h.blk (by omega) K2.out) ?_; go_simp; go_big_quiet_on)
       | (refine quiet_eql_set _ _ _ rfl _ _ rfl rfl ?_; go_simp; go_big_quiet_on)
       | (refine quiet_neq_set _ _ _ rfl _ _ rfl rfl ?_; go_simp; go_big_quiet_on)
       | (go_big_quiet_op
          first
          | go_big_quiet_on
          | (refine ⟨_, fun _ _ => rfl, ?_⟩; go_big_quiet_on)
          | (apply Exists.intro
             refine ⟨fun w' h => ?_, ?_⟩
             · (first | (go_at_call 32; exact quiet_call h (Nat.le_refl _) (RP.out w')) | (go_at_call 31; exact quiet_call h (Nat.le_refl _) (PQ.out w' (TX.out.on h.bl))))
             go_big_quiet_on)))
  refine wpQuiet_nil ?_
  intro w3 h3'
  have T3 := Lib.hid (TX.out.on h3'.bl)
  have B3 := Lib.hid (B2.out.trans (h3'.bl.mono B2.out.size))
  clear h3' K0 K1 K2 l3 k2 TX B2 PQ PP RP BK TT1 h3 hm s0
  go_wp2_with fail
  refine (P1.out _).mono ?_
  rintro e w4 ⟨rfl, h4⟩
  obtain ⟨l1, l2, l3⟩ := lay_set w4 (fun _ => false) y
  have hb4 := h4.trans (l1.mono h4.size)
  have K4 := Lib.hid l2
  have B4 := Lib.hid (B3.out.trans (hb4.mono B3.out.size))
  have T4 := Lib.hid (T3.out.on hb4)
  clear h4 l1 l2 hb4 T3 B3
  by_cases ha : a = 0
  · obtain ⟨sy', _, hsy, PY, _, _⟩ := texts y y
    have PY := Lib.hid PY
    have BY : Hid (∀ W, Calls Tryd.prog 29 #[.string sy'] W fun e w' => e = .returned (.tuple #[.agg (cellsOf y), .int .i64 0, .int .i64 0]) ∧ Below W.heap.size W w') := fun W => by rw [hsy]; exact back y W
    clear hsy
    subst ha
    go_wp2_with (first | (with_reducible (show wpList _ _ _ _ _ _); refine st_set rfl _ _ rfl _ _ rfl rfl _ (heap_alloc_new _ _) (cellsOf_size _) ?_) | (with_reducible (show wpList _ _ _ _ _ _); refine ld_set rfl _ rfl _ rfl _ K4.out ?_))
    generalize hX4 : (w4.alloc (.cells (cellsOf fun _ => false) 25)).setRow w4.heap.size (cellsOf y) = X4 at K4 B4 l3 T4 ⊢
    clear hX4
    generalize w4.heap.size = b4 at *
    refine (PY.out _ T4.out).mono ?_
    rintro e w5 ⟨rfl, h5⟩
    go_wp2_with fail
    refine (BY.out _).mono ?_
    rintro e w6 ⟨rfl, h6⟩
    obtain ⟨l1, l2, l4⟩ := lay_set w6 (fun _ => false) y
    have hb6 := (h5.trans (h6.mono h5.size)).trans (l1.mono (Nat.le_trans h5.size h6.size))
    have M4 := Lib.hid ((hb6.block _ l3).trans K4.out)
    have M6 := Lib.hid l2
    have B6 := Lib.hid (B4.out.trans (hb6.mono B4.out.size))
    have T6 := Lib.hid (T4.out.on hb6)
    clear h5 h6 l1 l2 hb6 K4 B4 T4
    go_wp2_with (first | (with_reducible (show wpList _ _ _ _ _ _); refine st_set rfl _ _ rfl _ _ rfl rfl _ (heap_alloc_new _ _) (cellsOf_size _) ?_) | (with_reducible (show wpList _ _ _ _ _ _); refine ld_set rfl _ rfl _ rfl _ M4.out ?_) | (with_reducible (show wpList _ _ _ _ _ _); refine ld_set rfl _ rfl _ rfl _ M6.out ?_) | (with_reducible (show wpList _ _ _ _ _ _); refine eql_set rfl _ _ _ rfl _ _ rfl rfl ?_) | (go_at_call 16; refine (lives_any _ T6.out).mono ?_; rintro e w9 ⟨rfl, h9⟩))
    go_ret
    exact ⟨rfl, B6.out.trans (h9.mono B6.out.size)⟩
  · have hy := parseAll_err HR.out ha
    subst hy
    have hne : ((a : Int) != 0) = true := by simp; omega
    have HA := Lib.hid ha; clear ha
    go_wp2_with (first | (with_reducible (show wpList _ _ _ _ _ _); refine st_set rfl _ _ rfl _ _ rfl rfl _ (heap_alloc_new _ _) (cellsOf_size _) ?_) | (with_reducible (show wpList _ _ _ _ _ _); refine ld_set rfl _ rfl _ rfl _ K4.out ?_) | (with_reducible (show wpList _ _ _ _ _ _); refine eql_set rfl _ _ _ rfl _ _ rfl rfl ?_) | (go_at_call 16; refine (lives_any _ T4.out).mono ?_; rintro e w9 ⟨rfl, h9⟩))
    go_ret
    exact ⟨rfl, B4.out.trans (h9.mono B4.out.size)⟩
end Go.Proofs.YtpdghnlnbhenhaaDoor
