/- ProgChecks' walk. -/
import Derived.Test.YtndekdelhngblaaDoorWy
namespace Go.Proofs.YtndekdelhngblaaDoor
open Go.RowKit

set_option maxRecDepth 100000 in
set_option maxHeartbeats 4000000 in
theorem checks9_any (prio op : Int) (A : Option Addr) (l : List I4) (cap : Nat) (w : World) (hT : Tabs w) (hc : l.length ≤ cap) (hI : InsIn w A l) :
    Calls Tryd.prog 3 #[.agg #[.int .i64 prio, .slice A l.length cap], .int .i64 op] w (GotB w.heap.size (.bool true) w) := by
  have hb := Blk.new w 24 #[.int .i64 prio, .slice A l.length cap]
  have x0 := hb.cell 0; have x1 := hb.cell 1; have f0 := hb.free 0; have f1 := hb.free 1
  simp only [List.getElem?_toArray, List.getElem?_cons_zero, List.getElem?_cons_succ] at x0 x1
  have hB1 : Below w.heap.size w (w.alloc (.cells #[.int .i64 prio, .slice A l.length cap] 24)) := (Below.refl _ _).alloc (Nat.le_refl _) _
  have HC := Lib.hid (cut9_any prio A l cap (w.alloc (.cells #[.int .i64 prio, .slice A l.length cap] 24)) hc)
  have HB := Lib.hid hb; have HB1 := Lib.hid hB1; have HT := Lib.hid hT; have HI := Lib.hid hI
  clear hb hB1 hT hI
  obtain ⟨e1, he1⟩ : ∃ e, (progE prio (l.take 80)).1 = e := ⟨_, rfl⟩
  obtain ⟨e2, he2⟩ : ∃ e, (progE prio (l.take 80)).2 = e := ⟨_, rfl⟩
  have HQ1 : Hid (∀ W, Tabs W → InsIn W A (l.take 80) → Calls Tryd.prog 7 #[.agg #[.int .i64 prio, .slice A (l.take 80).length cap]] W fun e w' => e = .returned (.tuple #[.int .i64 e1, .int .i64 (e2 : Nat)]) ∧ Below W.heap.size W w') := fun W h1 h2 => by
    have := check_any prio A (l.take 80) cap W h1 h2
    unfold CheckP at this; rw [he1, he2] at this; exact this
  have HQ2 : Hid (∀ W, InsIn W A (l.take 80) → Calls Tryd.prog 8 #[.agg #[.int .i64 prio, .slice A (l.take 80).length cap]] W fun e w' => e = .returned (.tuple #[.int .i64 e1, .int .i64 (e2 : Nat)]) ∧ Below W.heap.size W w') := fun W h2 => by
    have := refCheck_any prio A (l.take 80) cap W h2
    unfold CheckP at this; rw [he1, he2] at this; exact this
  clear he1 he2
  have HI80 := Lib.hid (HI.out.less 80)
  generalize l.take 80 = m at *
  obtain ⟨k, hk⟩ : ∃ k, m.length = k := ⟨_, rfl⟩
  rw [hk] at HC HQ1 HQ2
  obtain ⟨n, hn⟩ : ∃ n, l.length = n := ⟨_, rfl⟩
  rw [hn] at HC HB HB1 x0 x1 f0 f1 ⊢
  clear hk hn hc HI
  have t1 : (e1 == e1) = true := by simp
  go_enter Tryd.func3, Tryd.ntmps3
  go_wp2_with fail
  refine HC.out.mono ?_
  rintro e w2 ⟨rfl, h2⟩
  have hb2 := HB.out.below h2 HB.out.lt
  have y0 := hb2.cell 0; have y1 := hb2.cell 1; have g0 := hb2.free 0; have g1 := hb2.free 1
  simp only [List.getElem?_toArray, List.getElem?_cons_zero, List.getElem?_cons_succ] at y0 y1
  have b2 : Below w.heap.size w ((w2.setCell ⟨w.heap.size, 0, none⟩ (.int .i64 prio)).setCell ⟨w.heap.size, 1, none⟩ (.slice A k cap)) :=
    (((But.of_below (HB1.out.trans (h2.mono HB1.out.size))).set (X := Nob) _ _ (.inr (Nat.le_refl _))).set _ _ (.inr (Nat.le_refl _))).below (Nat.le_refl _) fun _ _ q => q.elim
  have hs2 := (hb2.set_ 0 (.int .i64 prio)).set_ 1 (.slice A k cap)
  have HS2 := Lib.hid hs2; have B2 := Lib.hid b2
  clear h2 hb2 b2 hs2 x0 x1 f0 f1 HB HB1 HC
  go_wp2_with fail
  generalize (w2.setCell ⟨w.heap.size, 0, none⟩ (.int .i64 prio)).setCell ⟨w.heap.size, 1, none⟩ (.slice A k cap) = W9 at *
  clear y0 y1 g0 g1
  refine (HQ1.out W9 (HT.out.on B2.out) (HI80.out.below B2.out)).mono ?_
  rintro e w3 ⟨rfl, h3⟩
  have hs3 := HS2.out.below h3 HS2.out.lt
  have b3 := B2.out.trans (h3.mono B2.out.size)
  have y0 := hs3.cell 0; have y1 := hs3.cell 1
  simp only [List.getElem?_toArray, List.getElem?_cons_zero, List.getElem?_cons_succ, List.setIfInBounds_toArray, List.set_cons_succ, List.set_cons_zero] at y0 y1
  have B3 := Lib.hid b3
  clear h3 hs3 b3 HS2
  go_wp2_with fail
  refine (HQ2.out w3 (HI80.out.below B3.out)).mono ?_
  rintro e w4 ⟨rfl, h4⟩
  have b4 := B3.out.trans (h4.mono B3.out.size)
  have HN1 := Lib.hid (name_any op w4 (HT.out.on b4)); have HN2 := Lib.hid (refName_any op w4); have HLV := Lib.hid (lives9_any w4 (HT.out.on b4)); have B4 := Lib.hid b4
  clear h4 b4 y0 y1 B2 B3
  go_wp2_with (first
    | (go_at_call 9; (with_reducible refine HN1.out.mono ?_); rintro e wq ⟨rfl, rfl⟩)
    | (go_at_call 10; (with_reducible refine HN2.out.mono ?_); rintro e wq ⟨rfl, rfl⟩)
    | (go_at_call 11; (with_reducible refine HLV.out.mono ?_); rintro e w5 ⟨rfl, h5⟩; have H5 := Lib.hid h5; clear h5))
  go_ret
  exact ⟨rfl, B4.out.trans (H5.out.mono B4.out.size)⟩
end Go.Proofs.YtndekdelhngblaaDoor
