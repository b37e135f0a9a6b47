/- The document's Mask (layer 13). -/
import Derived.Test.YtckdabokaelnoaaZv
import Derived.Test.YtckdabokaelnoaaZj
import Derived.Deep.DeepCutAuto
namespace Go.Proofs.Ytckdabokaelnoaa
open Go.RowKit
set_option maxRecDepth 100000

def onesP : Nat → Bool := fun _ => true
theorem word_ones (i : Nat) : word onesP i = 18446744073709551615 := by
  refine (word_eq (x := 18446744073709551615) (by omega) fun k hk => ?_).symm
  rw [show (18446744073709551615 : Nat) = 2 ^ 64 - 1 by decide, Nat.testBit_two_pow_sub_one]
  simp [onesP, hk]
theorem ones_all (bs : List Bub) : cellsOf onesP = cellsOf (allP bs []) := cellsOf_congr fun n _ => by simp [onesP, allP]
section
variable {d : Value} {bs : List Bub} {w w' : World}
set_option maxHeartbeats 8000000 in
theorem rmask_any (b : Int) (h : DocL d bs w) : Calls Try.prog 58 #[d, .int .i64 b] w fun e w' => e = .returned (.agg (cellsOf (maskP bs b))) ∧ Below w.heap.size w w' := by
  have HD := Lib.hid h
  have hin : ∀ y ∈ way bs b, ∃ (k : Nat) (x : Bub), y = k ∧ bs[k]? = some x := fun y hy => inB_nat (way_in h.inv _ b (Nat.le_refl _) y hy).2.2
  have hyl := way_len32 h.inv b
  have hwa : ∀ W, Below w.heap.size w W → Calls Try.prog 89 #[d, .int .i64 b] W fun e w' => ∃ u, e = .returned u ∧ MineN W.heap.size u (way bs b) w' ∧ Below W.heap.size W w' := fun W hW => rway_any b (h.below hW)
  rw [show maskP bs b = allP bs (way bs b) from rfl]
  obtain ⟨DA, dcap, hdv⟩ := h.form
  obtain ⟨n, hn2⟩ : ∃ n, bs.length = n := ⟨_, rfl⟩
  rw [hn2] at hdv
  have HLN := Lib.hid hn2
  subst hdv
  have HYY := Lib.hid hin; have HYL := Lib.hid hyl; have HWA := Lib.hid hwa
  clear hin hyl hwa hn2
  generalize way bs b = Y at *
  have hz := cellsOf_zero.symm
  have hg0 : ((w.alloc (.cells (cellsOf fun _ => false) 29)).alloc (.cells (cellsOf fun _ => false) 29)).heap[w.heap.size]? = some (.cells (cellsOf fun _ => false) 29 (0, 0)) := (Blk.new w 29 (cellsOf fun _ => false)).alloc _
  have hg1 : ((w.alloc (.cells (cellsOf fun _ => false) 29)).alloc (.cells (cellsOf fun _ => false) 29)).heap[w.heap.size + 1]? = some (.cells (cellsOf fun _ => false) 29 (0, 0)) := by
    have := Blk.new (w.alloc (.cells (cellsOf fun _ => false) 29)) 29 (cellsOf fun _ => false)
    unfold Blk at this
    simp only [World.alloc, Array.size_push] at this ⊢
    exact this
  have hal : Below w.heap.size w ((w.alloc (.cells (cellsOf fun _ => false) 29)).alloc (.cells (cellsOf fun _ => false) 29)) := ((Below.refl _ _).alloc (Nat.le_refl _) _).alloc (by simp) _
  have HG0 := Lib.hid hg0; have HG1 := Lib.hid hg1; have HAL := Lib.hid hal
  clear hg0 hg1 hal h
  go_enter Try.func58, Try.ntmps58
  go_wp2_with fail
  generalize (w.alloc (.cells (cellsOf fun _ => false) 29)).alloc (.cells (cellsOf fun _ => false) 29) = w0 at *
  go_loopw [10] (fun iv wr => ∃ k : Nat, iv = .int .i64 k ∧ k ≤ 16 ∧ But (fun j => j = w.heap.size + 1) w0 wr ∧ wr.heap[w.heap.size + 1]? = some (.cells (cellsOf (mixP onesP (fun _ => false) k)) 29 (0, 0))) (fun iv _ => 16 - (intOf iv).toNat)
  case atStart => exact ⟨0, rfl, Nat.zero_le _, But.refl _ _, by rw [mix_zero]; exact HG1.out⟩
  case round =>
    obtain ⟨k, rfl, hk, hb, hg⟩ := hrel
    have HB := Lib.hid hb
    clear hb
    by_cases hlt : k < 16
    · have c0 := blk_cell hg k hlt
      have f0 := frozen_of_row wr (w.heap.size + 1) k _ _ hg
      have k0 : (0 : Int) ≤ (k : Int) := by omega
      have k1 : (k : Int) < 16 := by omega
      have G0 := Lib.hid (blk_set hg (mixP onesP (fun _ => false) (k + 1)) k 18446744073709551615 hlt (by rw [mix_next]; exact (word_ones k).symm) (fun j _ hj => mix_other _ _ k j hj))
      clear hg
      go_wp2_with fail
      go_roundw
      case rel => exact ⟨k + 1, by go_num, by omega, HB.out.set _ _ (.inl rfl), G0.out⟩
      case measure => simp [intOf]; omega
    · obtain rfl : k = 16 := by omega
      rw [mix_all, ones_all bs] at hg
      have HG := Lib.hid hg
      clear hg hz
      have hzz := 0
      have HBW : Hid (Below w.heap.size w wr) := Lib.hid (HAL.out.trans (HB.out.below HAL.out.size fun j _ e => by omega))
      have HR : Hid (wr.heap[w.heap.size]? = some (.cells (cellsOf fun _ => false) 29 (0, 0))) := Lib.hid ((HB.out.block _ (Array.getElem?_eq_some_iff.1 HG0.out).1 (by omega)).trans HG0.out)
      have HWY := Lib.hid (HWA.out wr HBW.out)
      clear HB HAL HG0 HG1 hzz
      go_wp2_with fail
      refine HWY.out.mono ?_
      rintro e w4 ⟨u, rfl, hm, h4⟩
      dsimp only
      obtain ⟨A, cap, rfl, hn⟩ := hm.nums
      have hXB : w.heap.size + 1 < wr.heap.size := (Array.getElem?_eq_some_iff.1 HG.out).1
      have HNB : Hid (∀ g off, A = some ⟨g, off, none⟩ → w.heap.size + 1 < g) := Lib.hid fun g off e => by
        have := (hm.lt g (by rw [e]; rfl)).1; omega
      have HN := Lib.hid hn
      have HG4 : Hid (w4.heap[w.heap.size + 1]? = some (.cells (cellsOf (allP bs [])) 29 (0, 0))) := Lib.hid ((h4.block _ hXB).trans HG.out)
      have HR4 : Hid (w4.heap[w.heap.size]? = some (.cells (cellsOf fun _ => false) 29 (0, 0))) := Lib.hid ((h4.block _ (Array.getElem?_eq_some_iff.1 HR.out).1).trans HR.out)
      have HB4 := Lib.hid (HBW.out.trans (h4.mono HBW.out.size))
      clear hm hn h4 hXB HG HR HBW
      go_wp2_with fail
      go_loopw [20] (fun iv wr => ∃ k : Nat, iv = .int .i64 k ∧ k ≤ Y.length ∧ But (fun j => j = w.heap.size + 1) w4 wr ∧ wr.heap[w.heap.size + 1]? = some (.cells (cellsOf (allP bs (Y.take k))) 29 (0, 0))) (fun iv _ => Y.length - (intOf iv).toNat)
      case atStart => exact ⟨0, rfl, Nat.zero_le _, But.refl _ _, by simpa using HG4.out⟩
      case round =>
        obtain ⟨k, rfl, hk, hb, hg⟩ := hrel
        have HBU := Lib.hid hb; have HG := Lib.hid hg
        clear hb hg HG4
        by_cases hlt : k < Y.length
        · obtain ⟨y, hy⟩ : ∃ y, Y[k]? = some y := ⟨_, List.getElem?_eq_getElem hlt⟩
          obtain ⟨i, x, rfl, hx⟩ := HYY.out y (List.mem_of_getElem? hy)
          have HBQ : Hid (Below w.heap.size w wr) := Lib.hid (HB4.out.trans (HBU.out.below HB4.out.size fun j _ e => by omega))
          obtain ⟨g, cp, hv, hr, hgl⟩ := row_at (HD.out.below HBQ.out).row hx
          rw [HLN.out] at hv
          simp only [Value.slice.injEq] at hv
          obtain ⟨rfl, -, rfl⟩ := hv
          have hgw := (HD.out.row.lt g rfl).2
          obtain ⟨ab, off, rfl, hbl, hc⟩ := HN.out k _ hy
          have hc' : wr.cell? ⟨ab, off + k, none⟩ = some (.int .i64 i) := by
            have hne : ab ≠ w.heap.size + 1 := by have := HNB.out ab off rfl; omega
            rw [World.cell?_of_block (HBU.out.block ab hbl hne)]; exact hc
          have hgw4 : g < w4.heap.size := Nat.lt_of_lt_of_le hgw HB4.out.size
          have HSET : Hid (∀ W, But (fun j => j = w.heap.size + 1) w4 W → ∀ j, j < 16 → W.cell? ⟨g, i * 19 + 1 + j, none⟩ = some (.int .u64 (word x.mask j))) := Lib.hid fun W hW j hj => by
            have h1 := hr (1 + j) _ (bubL_m x j hj)
            rw [World.cell?_of_block (HBU.out.block g hgw4 (by show g ≠ _; omega))] at h1
            rw [World.cell?_of_block (hW.block g hgw4 (by show g ≠ _; omega)), Nat.add_assoc]
            exact h1
          have hnx : (fun n => allP bs (Y.take k) n && x.mask n) = allP bs (Y.take (k + 1)) := by
            rw [← atB_of hx, allP_app, List.take_add_one, hy]; rfl
          have HNX := Lib.hid hnx
          have i0 : (0 : Int) ≤ (i : Int) := by omega
          have i1 : (i : Int) < (n : Int) := by have := (List.getElem?_eq_some_iff.1 hx).1; have := HLN.out; omega
          have k0 : (0 : Int) ≤ (k : Int) := by omega
          have k1 : (k : Int) < (Y.length : Int) := by omega
          have hyl := HYL.out
          clear hnx hy hx hr hgl hgw hbl hc hgw4
          generalize x.mask = m at *
          generalize Y.length = yn at *
          go_wp2_with fail
          clear hc'
          go_loopw [24] (fun jv wj => ∃ j : Nat, jv = .int .i64 j ∧ j ≤ 16 ∧ But (fun j => j = w.heap.size + 1) w4 wj ∧ wj.heap[w.heap.size + 1]? = some (.cells (cellsOf (mixP (fun n => allP bs (Y.take k) n && m n) (allP bs (Y.take k)) j)) 29 (0, 0))) (fun jv _ => 16 - (intOf jv).toNat)
          case atStart => exact ⟨0, rfl, Nat.zero_le _, HBU.out, by rw [mix_zero]; exact HG.out⟩
          case round =>
            obtain ⟨j, rfl, hj, hbj, hgj⟩ := hrel
            have HBJ := Lib.hid hbj
            by_cases hj16 : j < 16
            · have c0 := blk_cell hgj j hj16
              rw [mix_here] at c0
              have c1 := HSET.out _ hbj j hj16
              have f0 := frozen_of_row _ (w.heap.size + 1) j _ _ hgj
              have hand := and_word (allP bs (Y.take k)) m j
              have j0 : (0 : Int) ≤ (j : Int) := by omega
              have j1 : (j : Int) < 16 := by omega
              have G0 := Lib.hid (blk_set hgj (mixP (fun n => allP bs (Y.take k) n && m n) (allP bs (Y.take k)) (j + 1)) j _ hj16 (mix_next _ _ j).symm (fun j' _ hj' => mix_other _ _ j j' hj'))
              clear hbj hgj
              go_wp2_with fail
              go_region
              go_wp2_with fail
              go_roundw
              case rel => exact ⟨j + 1, by go_num, by omega, HBJ.out.drew.set _ _ (.inl rfl), G0.out⟩
              case measure => simp [intOf]; omega
            · obtain rfl : j = 16 := by omega
              rw [mix_all, HNX.out] at hgj
              have HGJ := Lib.hid hgj
              clear hgj hbj
              go_wp2_with fail
              go_roundw
              case rel => exact ⟨k + 1, by go_num, by omega, HBJ.out, HGJ.out⟩
              case measure => simp [intOf]; omega
        · obtain rfl : k = Y.length := by omega
          have hg := HG.out
          rw [List.take_length] at hg
          have HG5 := Lib.hid hg
          have HBW : Hid (Below w.heap.size w wr) := Lib.hid (HB4.out.trans (HBU.out.below HB4.out.size fun j _ e => by omega))
          have HR5 : Hid (wr.heap[w.heap.size]? = some (.cells (cellsOf fun _ => false) 29 (0, 0))) := Lib.hid ((HBU.out.block _ (Array.getElem?_eq_some_iff.1 HR4.out).1 (by omega)).trans HR4.out)
          clear hg HG
          generalize Y.length = yn at *
          have tk : ¬ (yn : Int) < (yn : Int) := by omega
          go_wp2_with (first
            | (with_reducible (show wpList _ _ _ _ _ _); refine ld_set rfl (.tmp 5) rfl (w.heap.size + 1) rfl _ HG5.out ?_)
            | (with_reducible (show wpList _ _ _ _ _ _); refine st_set rfl (.tmp 4) (.tmp 42) rfl w.heap.size _ rfl rfl _ HR5.out (cellsOf_size _) ?_))
          refine res_set rfl w.heap.size _ rfl (setRow_heap _ _ _ _ _ _ HR5.out) rfl ⟨rfl, ?_⟩
          exact below_setRow HBW.out (Nat.le_refl _) _
end
end Go.Proofs.Ytckdabokaelnoaa
