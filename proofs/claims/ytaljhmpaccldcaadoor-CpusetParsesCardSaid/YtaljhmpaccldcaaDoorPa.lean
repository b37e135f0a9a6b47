/- The walk of CpusetParses: the law answers true at every text. -/
import Derived.Test.YtaljhmpaccldcaaDoorRp
import Derived.Test.YtaljhmpaccldcaaDoorLv
namespace Go.Proofs.YtaljhmpaccldcaaDoor
open Go.RowKit

set_option maxRecDepth 100000 in
set_option maxHeartbeats 1600000 in
theorem refParse_empty (s : ByteArray) (w : World) (hs : s.size = 0) :
    Calls Tryd.prog 30 #[.string s] w fun e w' => e = .returned (parseV (fun _ => false, 0, 0)) ∧ Below w.heap.size w w' := by
  have hz := cellsOf_zero.symm
  have G0 := Lib.hid (heap_alloc_new w (.cells (cellsOf fun _ => false) 25))
  have HB := Lib.hid ((Below.refl w.heap.size w).alloc (Nat.le_refl _) (.cells (cellsOf fun _ => false) 25))
  go_enter Tryd.func30, Tryd.ntmps30
  go_wp2
  go_loopw [5, 6] (fun l i wr => l = .slice none 0 0 ∧ i = .int .i64 0 ∧ wr = w.alloc (.cells (cellsOf fun _ => false) 25)) (fun _ _ _ => 0)
  case atStart => exact ⟨rfl, rfl, rfl⟩
  case round =>
    obtain ⟨rfl, rfl, rfl⟩ := hrel
    have mk : Hid (∀ W, Calls Tryd.prog 11 #[.slice none 0 0] W fun e w' => e = .returned (.agg (cellsOf fun _ => false)) ∧ Below W.heap.size W w') := fun W => make_none none 0 W
    go_wp2_with (first | (go_at_call 11; refine (mk.out _).mono ?_; rintro e' w8 ⟨rfl, h8⟩) | (with_reducible (show wpList _ _ _ _ _ _); refine st_set rfl _ _ rfl _ _ rfl rfl _ ((h8.block _ (by simp)).trans G0.out) (cellsOf_size _) ?_))
    refine res_set3 rfl _ _ rfl (setRow_heap _ _ _ _ _ _ ((h8.block _ (by simp)).trans G0.out)) rfl ⟨rfl, ?_⟩
    exact below_setRow (HB.out.trans (h8.mono (by simp))) (Nat.le_refl _) _
/-- The document's Parse, of every text of at most 100000 bytes. -/
theorem refParse_any (s : ByteArray) (w : World) (hs : s.size ≤ 100000) :
    Calls Tryd.prog 30 #[.string s] w fun e w' => e = .returned (parseV (parseAll (byteAt s) s.size)) ∧ Below w.heap.size w w' := by
  unfold parseAll
  by_cases h : s.size = 0
  · rw [if_pos h]; exact refParse_empty s w h
  · rw [if_neg h]; exact refParse_some s w hs (by omega)

set_option maxRecDepth 100000 in
set_option maxHeartbeats 1600000 in
theorem parses_any (s : ByteArray) (w : World) (hT : Tabs w) :
    Calls Tryd.prog 8 #[.string s] w fun e w' => e = .returned (.bool true) ∧ Below w.heap.size w w' := by
  have hz := cellsOf_zero.symm
  have TT := Lib.hid hT; clear hT
  have hX : (s.extract 0 (min (s.size : Int) 1000).toNat).size ≤ 100000 := by simp; omega
  obtain ⟨p, a, b, hR⟩ : ∃ p a b, parseAll (byteAt (s.extract 0 (min (s.size : Int) 1000).toNat)) (s.extract 0 (min (s.size : Int) 1000).toNat).size = (p, a, b) := ⟨_, _, _, rfl⟩
  have P1 : Hid (∀ W, Calls Tryd.prog 29 #[.string (s.extract 0 (min (s.size : Int) 1000).toNat)] W fun e w' => e = .returned (.tuple #[.agg (cellsOf p), .int .i64 a, .int .i64 b]) ∧ Below W.heap.size W w') := fun W => by
    have := parse_any _ W hX; rw [hR] at this; exact this
  have P2 : Hid (∀ W, Calls Tryd.prog 30 #[.string (s.extract 0 (min (s.size : Int) 1000).toNat)] W fun e w' => e = .returned (.tuple #[.agg (cellsOf p), .int .i64 a, .int .i64 b]) ∧ Below W.heap.size W w') := fun W => by
    have := refParse_any _ W hX; rw [hR] at this; exact this
  clear hX hR
  go_enter Tryd.func8, Tryd.ntmps8
  go_wp2_with fail
  refine (P1.out _).mono ?_
  rintro e w1 ⟨rfl, h1⟩
  obtain ⟨l1, l2, l3⟩ := lay_set w1 (fun _ => false) p
  have L2 := Lib.hid l2
  have B1 := Lib.hid (h1.trans (l1.mono h1.size))
  clear h1 l1 l2
  go_wp2_with (with_reducible (show wpList _ _ _ _ _ _); refine st_set rfl _ _ rfl _ _ rfl rfl _ (heap_alloc_new _ _) (cellsOf_size _) ?_)
  generalize hX1 : (w1.alloc (.cells (cellsOf fun _ => false) 25)).setRow w1.heap.size (cellsOf p) = X1 at L2 l3 B1 ⊢
  clear hX1
  generalize w1.heap.size = b1 at *
  refine (P2.out _).mono ?_
  rintro e w2 ⟨rfl, h2⟩
  obtain ⟨l1, l2, l4⟩ := lay_set w2 (fun _ => false) p
  have hb2 := h2.trans (l1.mono h2.size)
  have M1 := Lib.hid ((hb2.block _ l3).trans L2.out)
  have M2 := Lib.hid l2
  have B2 := Lib.hid (B1.out.trans (hb2.mono B1.out.size))
  have TX := Lib.hid (TT.out.on B2.out)
  have k1 := Nat.lt_of_lt_of_le l3 hb2.size
  clear h2 l1 l2 hb2 L2 B1 P1 P2
  have s0 := eqP_true.2 (fun n (_ : n < 1024) => (rfl : p n = p n))
  go_wp2_with (first | (with_reducible (show wpList _ _ _ _ _ _); refine st_set rfl _ _ rfl _ _ rfl rfl _ (heap_alloc_new _ _) (cellsOf_size _) ?_) | (with_reducible (show wpList _ _ _ _ _ _); refine ld_set rfl _ rfl _ rfl _ M1.out ?_) | (with_reducible (show wpList _ _ _ _ _ _); refine ld_set rfl _ rfl _ rfl _ M2.out ?_) | (with_reducible (show wpList _ _ _ _ _ _); refine eql_set rfl _ _ _ rfl _ _ rfl rfl ?_) | (go_at_call 16; refine (lives_any _ TX.out).mono ?_; rintro e w9 ⟨rfl, h9⟩))
  go_ret
  exact ⟨rfl, B2.out.trans (h9.mono B2.out.size)⟩
end Go.Proofs.YtaljhmpaccldcaaDoor
