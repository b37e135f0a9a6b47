/- Layer 9's lives; cut. -/
import Derived.Test.YtndekdelhngblaaDoorWx
namespace Go.Proofs.YtndekdelhngblaaDoor
open Go.RowKit

set_option maxRecDepth 100000 in
set_option maxHeartbeats 4000000 in
theorem lives9_any (w : World) (hT : Tabs w) : Calls Tryd.prog 11 #[] w (GotB w.heap.size (.bool true) w) := by
  have hb := Blk.new w 38 #[.int .i64 13, .int .i64 0, .int .i64 0, .int .i32 0, .int .i64 14, .int .i64 0, .int .i64 0, .int .i32 0]
  have hI : ∀ W, Blk W w.heap.size 38 #[.int .i64 13, .int .i64 0, .int .i64 0, .int .i32 0, .int .i64 14, .int .i64 0, .int .i64 0, .int .i32 0] → InsIn W (some ⟨w.heap.size, 0, none⟩) exL := fun W h i x hx => by
    match i, hx with
    | 0, hx => cases hx; exact ⟨exFits _ (by simp [exL]), w.heap.size, 0, rfl, h.lt, h.cell 0, h.cell 1, h.cell 2, h.cell 3⟩
    | 1, hx => cases hx; exact ⟨exFits _ (by simp [exL]), w.heap.size, 0, rfl, h.lt, h.cell 4, h.cell 5, h.cell 6, h.cell 7⟩
    | i + 2, hx => simp [exL] at hx
  have b1 : Below w.heap.size w ((w.alloc (.cells #[.int .i64 13, .int .i64 0, .int .i64 0, .int .i32 0, .int .i64 14, .int .i64 0, .int .i64 0, .int .i32 0] 38)).alloc (.cells #[.int .i64 1, .slice (some ⟨w.heap.size, 0, none⟩) 2 2] 24)) := ((Below.refl _ _).alloc (Nat.le_refl _) _).alloc (by simp) _
  have hb1 := hb.alloc (.cells #[.int .i64 1, .slice (some ⟨w.heap.size, 0, none⟩) 2 2] 24)
  have hp1 := Blk.new (w.alloc (.cells #[.int .i64 13, .int .i64 0, .int .i64 0, .int .i32 0, .int .i64 14, .int .i64 0, .int .i64 0, .int .i32 0] 38)) 24 #[.int .i64 1, .slice (some ⟨w.heap.size, 0, none⟩) 2 2]
  rw [World.size_alloc] at hp1
  have HPR := print_any 1 (some ⟨w.heap.size, 0, none⟩) exL 2 _ (by unfold In64; omega) (by decide) (hT.on b1) (hI _ hb1)
  rw [show textL 1 exL = [112, 114, 111, 103, 32, 49, 10, 9, 111, 117, 116, 32, 114, 48, 10, 9, 101, 120, 105, 116, 32, 114, 48, 10] from by decide +kernel] at HPR
  have y0 := hp1.cell 0; have y1 := hp1.cell 1
  simp only [List.getElem?_toArray, List.getElem?_cons_zero, List.getElem?_cons_succ] at y0 y1
  have HPR := Lib.hid HPR; have HI := Lib.hid hI; have HT := Lib.hid hT; have HB := Lib.hid hb1; have HP := Lib.hid hp1; have HB1 := Lib.hid b1
  clear hb hI b1 hb1 hp1 hT
  go_enter Tryd.func11, Tryd.ntmps11
  go_wp2_with fail
  refine HPR.out.mono ?_
  rintro e w2 ⟨rfl, h2⟩
  have b2 := HB1.out.trans (h2.mono HB1.out.size)
  have PX' := Lib.hid (parse_ex w2 (HT.out.on b2))
  have hp2 := HP.out.below h2 HP.out.lt
  have hb2 := HB.out.below h2 HB.out.lt
  have HP2 := Lib.hid hp2; have HB2 := Lib.hid hb2; have B2 := Lib.hid b2
  clear h2 y0 y1 hp2 hb2 b2 HPR HP HB HB1
  go_wp2_with fail
  refine PX'.out.mono ?_
  rintro e w3 ⟨A, cap, rfl, hI3, h3⟩
  have hp3 := HP2.out.below h3 HP2.out.lt
  have hb3 := HB2.out.below h3 HB2.out.lt
  have b3 := B2.out.trans (h3.mono B2.out.size)
  have b4 : Below w.heap.size w (w3.alloc (.cells #[.int .i64 1, .slice A 2 cap] 24)) := b3.alloc b3.size _
  have g4 : Below w3.heap.size w3 (w3.alloc (.cells #[.int .i64 1, .slice A 2 cap] 24)) := (Below.refl _ _).alloc (Nat.le_refl _) _
  have hp4 := hp3.below g4 hp3.lt
  have hb4 := hb3.below g4 hb3.lt
  have hq4 := Blk.new w3 24 #[.int .i64 1, .slice A 2 cap]
  have y0 := hp4.cell 0; have y1 := hp4.cell 1; have z0 := hq4.cell 0; have z1 := hq4.cell 1
  simp only [List.getElem?_toArray, List.getElem?_cons_zero, List.getElem?_cons_succ] at y0 y1 z0 z1
  have HS := refSame_any 1 1 (some ⟨w.heap.size, 0, none⟩) A exL exL 2 cap _ (by decide) (HI.out _ hb4) (hI3.below g4)
  rw [show decide ((1 : Int) = 1 ∧ exL = exL) = true by simp] at HS
  have HS := Lib.hid HS; have B4 := Lib.hid b4
  clear hp3 hb3 b3 b4 g4 hp4 hb4 hq4 hI3 h3 PX' HP2 HB2 B2
  go_wp2_with (go_at_call 15; refine HS.out.mono ?_; rintro e w5 ⟨rfl, h5⟩; have H5 := Lib.hid h5; clear h5)
  go_ret
  exact ⟨rfl, B4.out.trans (H5.out.mono B4.out.size)⟩
theorem InsIn.less {w : World} {A : Option Addr} {l : List I4} (h : InsIn w A l) (k : Nat) : InsIn w A (l.take k) := fun i x hx => by
  rw [List.getElem?_take] at hx
  split at hx
  · exact h i x hx
  · cases hx
set_option maxRecDepth 100000 in
set_option maxHeartbeats 4000000 in
theorem cut9_any (prio : Int) (A : Option Addr) (l : List I4) (cap : Nat) (w : World) (hc : l.length ≤ cap) :
    Calls Tryd.prog 6 #[.agg #[.int .i64 prio, .slice A l.length cap]] w (GotB w.heap.size (.agg #[.int .i64 prio, .slice A (l.take 80).length cap]) w) := by
  obtain ⟨n, hn⟩ : ∃ n, l.length = n := ⟨_, rfl⟩
  obtain ⟨k, hk⟩ : ∃ k, (l.take 80).length = k := ⟨_, rfl⟩
  have hkn : k = min 80 n := by rw [← hk, List.length_take, hn]
  rw [hk, hn]
  rw [hn] at hc
  have h0 := (Blk.new w 24 #[.int .i64 prio, .slice A n cap]).alloc (.cells #[.int .i64 0, .slice none 0 0] 24)
  have h1 := Blk.new (w.alloc (.cells #[.int .i64 prio, .slice A n cap] 24)) 24 #[.int .i64 0, .slice none 0 0]
  rw [World.size_alloc] at h1
  have hB : Below w.heap.size w ((w.alloc (.cells #[.int .i64 prio, .slice A n cap] 24)).alloc (.cells #[.int .i64 0, .slice none 0 0] 24)) := ((Below.refl _ _).alloc (Nat.le_refl _) _).alloc (by simp) _
  have HB := Lib.hid hB; have H0 := Lib.hid h0; have H1 := Lib.hid h1
  have x0 := h0.cell 0; have x1 := h0.cell 1; have f0 := h0.free 0; have f1 := h0.free 1
  have y0 := h1.cell 0; have y1 := h1.cell 1; have g0 := h1.free 0; have g1 := h1.free 1
  simp only [List.getElem?_toArray, List.getElem?_cons_zero, List.getElem?_cons_succ] at x0 x1 y0 y1
  have hq : (min (n : Int) 80).toNat = k := by omega
  have t1 : (k : Int) ≤ (cap : Int) := by omega
  have t2 : min (n : Int) 80 ≤ (cap : Int) := by omega
  have t3 : (0 : Int) ≤ min (n : Int) 80 := by omega
  clear h0 h1 hB hk hn hkn
  go_enter Tryd.func6, Tryd.ntmps6
  go_wp2_with fail
  have r1 := Blk.new (w.alloc (.cells #[.int .i64 prio, .slice A k cap] 24)) 24 #[.int .i64 prio, .slice A k cap]
  rw [World.size_alloc] at r1
  have hB9 : Below w.heap.size w ((w.alloc (.cells #[.int .i64 prio, .slice A k cap] 24)).alloc (.cells #[.int .i64 prio, .slice A k cap] 24)) := ((Below.refl _ _).alloc (Nat.le_refl _) _).alloc (by simp) _
  generalize (w.alloc (.cells #[.int .i64 prio, .slice A k cap] 24)).alloc (.cells #[.int .i64 prio, .slice A k cap] 24) = W9 at *
  have z0 := r1.cell 0; have z1 := r1.cell 1
  simp only [List.getElem?_toArray, List.getElem?_cons_zero, List.getElem?_cons_succ] at z0 z1
  exact bodyPost_ret (v := .agg #[.int .i64 prio, .slice A k cap]) (by simp [results, Tryd.results6, go_sem, z0, z1]) rfl ⟨rfl, hB9⟩
end Go.Proofs.YtndekdelhngblaaDoor
