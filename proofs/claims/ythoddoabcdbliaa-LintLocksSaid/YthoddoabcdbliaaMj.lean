/- Layer 26's lives: the walk. -/
import Derived.Test.YthoddoabcdbliaaMi
namespace Go.Proofs.Ythoddoabcdbliaa
open Go.RowKit

set_option maxRecDepth 100000 in
set_option maxHeartbeats 8000000 in
theorem lives26_any (w : World) : Calls Try.prog 7 #[] w (GotB w.heap.size (.bool true) w) := by
  obtain ⟨b1, hb, hp⟩ := two (w := w) (t := 41) (u := 24) (a := exMC) (b := #[.int .i64 0, .slice (some ⟨w.heap.size, 0, none⟩) 3 3])
  have HMA : Hid (∀ W, Blk W w.heap.size 41 exMC → Calls Try.prog 15 #[.agg #[.int .i64 0, .slice (some ⟨w.heap.size, 0, none⟩) 3 3], .int .i64 3] W fun e w' => ∃ F G, e = .returned (.slice (some ⟨G, 0, none⟩) 3 3) ∧ Blk w' G 39 (setC F 3) ∧ wordB (F 0) 16 = 0 ∧ wordB (F 1) 16 = 4 ∧ wordB (F 2) 16 = 4 ∧ Below W.heap.size W w') := fun W h =>
    (May_any 0 3 _ exM 3 exA exAB W (exM_in h) (fun a ha => by cases ha; exact h.lt) exM_fine (fun i k hk => by cases hk) exA_B exA_S).mono fun e w' ⟨F, G, he, hg, hi, hc, _, hb⟩ => by
      obtain ⟨q0, q1, q2⟩ := exA_words hi hc
      exact ⟨F, G, he, hg, q0, q1, q2, hb⟩
  have HMU : Hid (∀ W, Blk W w.heap.size 41 exMC → Calls Try.prog 16 #[.agg #[.int .i64 0, .slice (some ⟨w.heap.size, 0, none⟩) 3 3], .int .i64 3] W fun e w' => ∃ F G, e = .returned (.slice (some ⟨G, 0, none⟩) 3 3) ∧ Blk w' G 39 (setC F 3) ∧ wordB (F 2) 16 = 4 ∧ Below W.heap.size W w') := fun W h =>
    (Must_any 0 3 _ exM 3 exU exUB W (exM_in h) (fun a ha => by cases ha; exact h.lt) exM_fine exU_0 exU_B exU_S).mono fun e w' ⟨F, G, he, hg, hi, hc, _, hb⟩ => ⟨F, G, he, hg, exU_word hi hc, hb⟩
  have HLE : Hid (∀ W, Blk W w.heap.size 41 exMC → Calls Try.prog 17 #[.agg #[.int .i64 0, .slice (some ⟨w.heap.size, 0, none⟩) 3 3], .int .i64 3] W fun e w' => ∃ A cap, e = .returned (.slice A 1 cap) ∧ NumsIn w' A [2] ∧ Below W.heap.size W w') := fun W h =>
    (Leaks_any 0 3 _ exM 3 exA exAB W (exM_in h) (fun a ha => by cases ha; exact h.lt) exM_fine (fun i k hk => by cases hk) exA_B exA_S).mono fun e w' ⟨F, v, he, hm, hi, hc, hb⟩ => by
      rw [show exM.length = 3 from rfl, exA_leak hi hc] at hm
      obtain ⟨A, cap, rfl, hn⟩ := hm.nums
      exact ⟨A, cap, he, hn, hb⟩
  have HB := Lib.hid hb; have HP := Lib.hid hp; have HB1 := Lib.hid b1
  clear hb hp b1
  go_enter Try.func7, Try.ntmps7
  go_upto_region 2 with fail
  generalize (w.alloc (.cells exMC 41)).alloc (.cells #[.int .i64 0, .slice (some ⟨w.heap.size, 0, none⟩) 3 3] 24) = W1 at *
  go_cut [2, 3] (fun u v wx => ∃ F G F' G', u = .slice (some ⟨G, 0, none⟩) 3 3 ∧ v = .slice (some ⟨G', 0, none⟩) 3 3 ∧ Blk wx G 39 (setC F 3) ∧ Blk wx G' 39 (setC F' 3) ∧ wordB (F 0) 16 = 0 ∧ wordB (F 1) 16 = 4 ∧ wordB (F 2) 16 = 4 ∧ wordB (F' 2) 16 = 4 ∧ Below W1.heap.size W1 wx)
  case first =>
    have x0 := HP.out.cell 0; have x1 := HP.out.cell 1
    simp only [List.getElem?_toArray, List.getElem?_cons_zero, List.getElem?_cons_succ] at x0 x1
    have HB0 : Hid (Blk W1.drew w.heap.size 41 exMC) := HB.out
    go_region_with (first
      | (go_at_call 15; (with_reducible refine (HMA.out _ HB0.out).mono ?_); rintro e w4 ⟨F, G, rfl, hg, q0, q1, q2, h4⟩; have HG := Lib.hid hg; have H4 := Lib.hid h4; have HB4 := Lib.hid (HB0.out.below h4 HB0.out.lt); have p4 := (blk_drew HP.out).below h4 HP.out.lt; have y0 := p4.cell 0; have y1 := p4.cell 1; simp only [List.getElem?_toArray, List.getElem?_cons_zero, List.getElem?_cons_succ] at y0 y1; clear hg h4 p4)
      | (go_at_call 16; (with_reducible refine (HMU.out _ HB0.out).mono ?_); rintro e w4 ⟨F', G', rfl, hg, q3, h4⟩; have HG' := Lib.hid hg; have H4 := Lib.hid h4; have HB4 := Lib.hid (HB0.out.below h4 HB0.out.lt); have p4 := (blk_drew HP.out).below h4 HP.out.lt; have y0 := p4.cell 0; have y1 := p4.cell 1; simp only [List.getElem?_toArray, List.getElem?_cons_zero, List.getElem?_cons_succ] at y0 y1; clear hg h4 p4)
      | (go_at_call 16; (with_reducible refine (HMU.out _ HB4.out).mono ?_); rintro e w5 ⟨F', G', rfl, hg, q3, h5⟩; have HG' := Lib.hid hg; have H5 := Lib.hid h5; have HG5 := Lib.hid (HG.out.below h5 HG.out.lt); clear hg h5)
      | (go_at_call 15; (with_reducible refine (HMA.out _ HB4.out).mono ?_); rintro e w5 ⟨F, G, rfl, hg, q0, q1, q2, h5⟩; have HG := Lib.hid hg; have H5 := Lib.hid h5; have HG5 := Lib.hid (HG'.out.below h5 HG'.out.lt); clear hg h5))
    all_goals
      go_wp2_with fail
      go_meet
      first
        | exact ⟨F, G, F', G', rfl, rfl, HG5.out, HG'.out, q0, q1, q2, q3, show Below W1.heap.size W1 w5 from (Below.refl _ _).drew.trans (H4.out.trans (H5.out.mono H4.out.size))⟩
        | exact ⟨F, G, F', G', rfl, rfl, HG.out, HG5.out, q0, q1, q2, q3, show Below W1.heap.size W1 w5 from (Below.refl _ _).drew.trans (H4.out.trans (H5.out.mono H4.out.size))⟩
  case rest =>
    obtain ⟨F, G, F', G', rfl, rfl, hg, hg', q0, q1, q2, q3, hb⟩ := hcut
    have c0 := (hg.cell 0).trans (setC_get F (by omega : 0 < 3)); have c1 := (hg.cell 1).trans (setC_get F (by omega : 1 < 3)); have c2 := (hg.cell 2).trans (setC_get F (by omega : 2 < 3)); have c3 := (hg'.cell 2).trans (setC_get F' (by omega : 2 < 3))
    rw [q0] at c0; rw [q1] at c1; rw [q2] at c2; rw [q3] at c3
    have hp2 := HP.out.below hb HP.out.lt
    have x0 := hp2.cell 0; have x1 := hp2.cell 1
    simp only [List.getElem?_toArray, List.getElem?_cons_zero, List.getElem?_cons_succ] at x0 x1
    have HL2 := Lib.hid (HLE.out _ (HB.out.below hb HB.out.lt))
    have HBB := Lib.hid (HB1.out.trans (hb.mono HB1.out.size))
    clear hg hg' q0 q1 q2 q3 hb hp2 HMA HMU HLE HB HP HB1
    generalize wc = W2 at *
    go_wp2_with fail
    refine HL2.out.mono ?_
    rintro e w5 ⟨A, cap, rfl, hn, h5⟩
    dsimp only
    have hal : Below w5.heap.size w5 (w5.alloc (.cells #[.int .i64 2] 3)) := (Below.refl _ _).alloc (Nat.le_refl _) _
    have hn2 : NumsIn (w5.alloc (.cells #[.int .i64 2] 3)) (some ⟨w5.heap.size, 0, none⟩) [2] := fun i x hx => by
      match i, hx with
      | 0, hx => cases hx; exact ⟨_, 0, rfl, (Blk.new w5 3 #[.int .i64 2]).lt, (Blk.new w5 3 #[.int .i64 2]).cell 0⟩
      | i + 1, hx => simp at hx
    have HSM : Hid (Calls Try.prog 11 #[.slice A 1 cap, .slice (some ⟨w5.heap.size, 0, none⟩) 1 1] (w5.alloc (.cells #[.int .i64 2] 3)) (GotB (w5.alloc (.cells #[.int .i64 2] 3)).heap.size (.bool true) (w5.alloc (.cells #[.int .i64 2] 3)))) := same04_yes A (some ⟨w5.heap.size, 0, none⟩) [2] cap 1 _ (by simp) (hn.below hal) hn2
    have HB6 := Lib.hid ((HBB.out.trans (h5.mono HBB.out.size)).trans (hal.mono (Nat.le_trans HBB.out.size h5.size)))
    clear hn h5 hal hn2 HL2
    go_wp2_with (go_at_call 11; (with_reducible refine HSM.out.mono ?_); rintro e w7 ⟨rfl, h7⟩; have H7 := Lib.hid h7; clear h7)
    go_ret
    exact ⟨rfl, HB6.out.trans (H7.out.mono HB6.out.size)⟩
end Go.Proofs.Ythoddoabcdbliaa
