/- A forest's Mask (layer 13). -/
import Derived.Test.YtekahmfchpgmfaaZh
import Derived.Test.YtekahmfchpgmfaaSl
import Derived.Deep.RegionHeld3
namespace Go.Proofs.Ytekahmfchpgmfaa
open Go.RowKit
set_option maxRecDepth 100000

/-- The workers that all of a row of bubbles have. -/
def allP (bs : List Bub) (l : List Int) : Nat → Bool := fun n => l.all fun k => (atB bs k).mask n
theorem maskP_eq (bs : List Bub) (b : Int) : maskP bs b = allP bs (way bs b) := rfl
theorem rangeP_all (bs : List Bub) : cellsOf (rangeP 0 1023) = cellsOf (allP bs []) := cellsOf_congr fun n hn => by
  unfold rangeP allP; simp; omega
theorem allP_app (bs : List Bub) (l : List Int) (y : Int) : (fun n => allP bs l n && (atB bs y).mask n) = allP bs (l ++ [y]) := by
  funext n; unfold allP; simp
/-- A bubble's set, as a range of cells. -/
theorem bubL_set (x : Bub) {w : World} {g o : Nat} (h : w.rangeAt g o (bubL x)) : w.rangeAt g (o + 1) (cellsOf x.mask).toList := fun j u hj => by
  have hl : j < 16 := by have := (List.getElem?_eq_some_iff.1 hj).1; simpa [cellsOf] using this
  have := h (1 + j) u (by
    rw [bubL_m x j hl, ← hj]
    have := cellsOf_get x.mask j hl
    simpa using this.symm)
  rwa [← Nat.add_assoc] at this
theorem infoSetM : ∀ p : Nat → Bool, (Try.prog.info? 28).map (·.size) = some (cellsOf p).toList.length := fun p => by rw [infoSet]; simp [cellsOf]
theorem step_ld_set {ops : Array Oper} {o : Oper} {a : Act} {w : World} {K : Act → World → Prop} {Q : Exit → Act → World → Prop} {E : Prop} (hg : o.guard = none) (x : Operand) (ho : o.op = .load 28 x)
    (g : Nat) (hx : a.eval x = .pointer (some ⟨g, 0, none⟩)) (p : Nat → Bool) (hh : w.heap[g]? = some (.cells (cellsOf p) 28 (0, 0))) (hK : K (a.put o.dst (.agg (cellsOf p))) w) : if Region.wanted o (yielded ops a.tmps) = true then Oper.wp Try.prog o a w K Q else E := by
  rw [if_pos (by simp [Region.wanted, hg])]
  exact wp_load_row 28 x ho g hx 28 _ (0, 0) _ hh underSet rfl (by rw [infoSet, cellsOf_size]) hK
theorem step_st_set {ops : Array Oper} {o : Oper} {a : Act} {w : World} {K : Act → World → Prop} {Q : Exit → Act → World → Prop} {E : Prop} (hg : o.guard = none) (x y : Operand) (ho : o.op = .store 28 x y)
    (g : Nat) (p q : Nat → Bool) (hx : a.eval x = .pointer (some ⟨g, 0, none⟩)) (hy : a.eval y = .agg (cellsOf p)) (hh : w.heap[g]? = some (.cells (cellsOf q) 28 (0, 0))) (hK : K (a.put o.dst undef) (w.setRow g (cellsOf p))) : if Region.wanted o (yielded ops a.tmps) = true then Oper.wp Try.prog o a w K Q else E := by
  rw [if_pos (by simp [Region.wanted, hg])]
  exact wp_store_row 28 x y ho g _ hx hy 28 _ hh (by rw [infoSet, cellsOf_size]) (by rw [cellsOf_size, cellsOf_size]) (cellsOf_one p) hK
theorem But.setRow {X : Nat → Prop} {a w : World} (h : But X a w) (g : Nat) (cs : Array Value) (hg : X g ∨ a.heap.size ≤ g) : But X a (w.setRow g cs) :=
  ⟨h.os, h.tape, h.output, by simpa [World.setRow] using h.size, fun k hk hn => (setRow_other w g k cs (by rintro rfl; rcases hg with q | q; exact hn q; omega)).trans (h.block k hk hn)⟩
theorem setRow_cell {w : World} {g : Nat} {cs : Array Value} {a : Addr} (h : a.block ≠ g) : (w.setRow g cs).cell? a = w.cell? a := by
  unfold World.cell?; rw [setRow_other w g a.block cs h]
section
variable {fb : Nat} {v : Value} {bs : List Bub} {w w' : World}
set_option maxHeartbeats 8000000 in
theorem mask_of {pv : Option Addr} (b : Int) (Y : List Int) (hYl : Y.length ≤ 100) (hA : ∀ W, Below w.heap.size w W → Calls Try.prog 31 #[.pointer pv, .int .i64 b] W fun e w' => ∃ u, e = .returned u ∧ MineN W.heap.size u Y w' ∧ Below W.heap.size W w')
    (hY : ∀ y ∈ Y, ∃ (k : Nat) (x : Bub), y = k ∧ bs[k]? = some x) (hF : Y ≠ [] → ∃ fb, pv = some ⟨fb, 0, none⟩ ∧ ForC fb v bs w) :
    Calls Try.prog 11 #[.pointer pv, .int .i64 b] w fun e w' => e = .returned (.agg (cellsOf (allP bs Y))) ∧ Below w.heap.size w w' := by
  have HAA := Lib.hid hA; have HYY := Lib.hid hY; have HFF := Lib.hid hF
  clear hA hY hF
  have hal : Below w.heap.size w (w.alloc (.cells (cellsOf fun _ => false) 28)) := (Below.refl _ _).alloc (Nat.le_refl _) _
  have HAL := Lib.hid hal
  have HRG := Lib.hid (range_any 0 1023 (w.alloc (.cells (cellsOf fun _ => false) 28)))
  have hz := cellsOf_zero.symm
  have hg0 : (w.alloc (.cells (cellsOf fun _ => false) 28)).heap[w.heap.size]? = some (.cells (cellsOf fun _ => false) 28 (0, 0)) := heap_alloc_new _ _
  have HG0 := Lib.hid hg0
  clear hal hg0
  go_enter Try.func11, Try.ntmps11
  go_upto_region 1 with fail
  generalize w.alloc (.cells (cellsOf fun _ => false) 28) = W1 at *
  go_wp2_with fail
  refine HRG.out.mono ?_
  rintro e w2 ⟨rfl, h2⟩
  dsimp only
  have HB2 := Lib.hid (HAL.out.trans (h2.mono HAL.out.size))
  have HG2 : Hid (w2.heap[w.heap.size]? = some (.cells (cellsOf fun _ => false) 28 (0, 0))) := Lib.hid ((h2.block _ (Array.getElem?_eq_some_iff.1 HG0.out).1).trans HG0.out)
  clear h2 HRG HAL HG0
  rw [rangeP_all bs]
  go_upto_region 2 with (with_reducible (show wpList _ _ _ _ _ _); refine st_set rfl (.tmp 5) (.tmp 8) rfl w2.heap.size _ rfl rfl _ (heap_alloc_new _ _) (cellsOf_size _) ?_)
  have hx0 : Below w2.heap.size w2 ((w2.alloc (.cells (cellsOf fun _ => false) 28)).setRow w2.heap.size (cellsOf (allP bs []))) := below_setRow ((Below.refl _ _).alloc (Nat.le_refl _) _) (Nat.le_refl _) _
  have hg3 : ((w2.alloc (.cells (cellsOf fun _ => false) 28)).setRow w2.heap.size (cellsOf (allP bs []))).heap[w2.heap.size]? = some (.cells (cellsOf (allP bs [])) 28 (0, 0)) := setRow_heap _ _ _ _ _ _ (heap_alloc_new _ _)
  have HB3 := Lib.hid (HB2.out.trans (hx0.mono HB2.out.size))
  have HR3 := Lib.hid ((hx0.block _ (Array.getElem?_eq_some_iff.1 HG2.out).1).trans HG2.out)
  have HG3 := Lib.hid hg3
  have HLT : Hid (w.heap.size < w2.heap.size) := Lib.hid (Array.getElem?_eq_some_iff.1 HG2.out).1
  clear hx0 hg3 HG2 HB2
  generalize (w2.alloc (.cells (cellsOf fun _ => false) 28)).setRow w2.heap.size (cellsOf (allP bs [])) = w3 at *
  generalize w2.heap.size = XB at *
  go_wp2_with fail
  refine (HAA.out w3 HB3.out).mono ?_
  rintro e w4 ⟨u, rfl, hm, h4⟩
  dsimp only
  obtain ⟨A, cap, rfl, hn⟩ := hm.nums
  have hXB : XB < w3.heap.size := (Array.getElem?_eq_some_iff.1 HG3.out).1
  have HNB : Hid (∀ g off, A = some ⟨g, off, none⟩ → XB < g) := Lib.hid fun g off e => by
    have := (hm.lt g (by rw [e]; rfl)).1; omega
  have HN := Lib.hid hn
  have HG4 : Hid (w4.heap[XB]? = some (.cells (cellsOf (allP bs [])) 28 (0, 0))) := Lib.hid ((h4.block _ hXB).trans HG3.out)
  have HR4 : Hid (w4.heap[w.heap.size]? = some (.cells (cellsOf fun _ => false) 28 (0, 0))) := Lib.hid ((h4.block _ (Array.getElem?_eq_some_iff.1 HR3.out).1).trans HR3.out)
  have HB4 := Lib.hid (HB3.out.trans (h4.mono HB3.out.size))
  clear hm hn h4 hXB HAA HB3 HG3 HR3
  go_wp2_with fail
  go_loopw [13] (fun iv wr => ∃ k : Nat, iv = .int .i64 k ∧ k ≤ Y.length ∧ But (fun j => j = XB) w4 wr ∧ wr.heap[XB]? = some (.cells (cellsOf (allP bs (Y.take k))) 28 (0, 0))) (fun iv _ => Y.length - (intOf iv).toNat)
  case atStart => exact ⟨0, rfl, Nat.zero_le _, But.refl _ _, by simpa using HG4.out⟩
  case round =>
    obtain ⟨k, rfl, hk, hb, hg⟩ := hrel
    have HBU := Lib.hid hb; have HG := Lib.hid hg
    clear hb hg HG4
    have HBW : Hid (Below w.heap.size w wr) := Lib.hid (HB4.out.trans (HBU.out.below HB4.out.size fun j _ e => by have := HLT.out; omega))
    by_cases hlt : k < Y.length
    · obtain ⟨y, hy⟩ : ∃ y, Y[k]? = some y := ⟨_, List.getElem?_eq_getElem hlt⟩
      obtain ⟨i, x, rfl, hx⟩ := HYY.out y (List.mem_of_getElem? hy)
      obtain ⟨fb, rfl, hf⟩ := HFF.out (fun e => by rw [e] at hlt; simp at hlt)
      have hf' := hf.below HBW.out
      obtain ⟨g, cp, rfl, hr, hgl⟩ := row_at hf'.row hx
      have hgw := (hf.row.lt g rfl).2
      have hfw := hf.lt (.inl rfl)
      have HNE : Hid (g ≠ XB ∧ fb ≠ XB) := Lib.hid (by have := HLT.out; exact ⟨by omega, by omega⟩)
      have hset := bubL_set x hr
      have c0 := hf'.cell
      obtain ⟨ab, off, hAe, hbl, hc⟩ := HN.out k _ hy
      have hc' : wr.cell? ⟨ab, off + k, none⟩ = some (.int .i64 i) := by
        have hne : ab ≠ XB := by have := HNB.out ab off hAe; omega
        rw [World.cell?_of_block (HBU.out.block ab hbl hne)]; exact hc
      subst hAe
      have i0 : (0 : Int) ≤ (i : Int) := by omega
      have i1 : (i : Int) < (bs.length : Int) := by have := (List.getElem?_eq_some_iff.1 hx).1; omega
      have k0 : (0 : Int) ≤ (k : Int) := by omega
      have k1 : (k : Int) < (Y.length : Int) := by omega
      have hnx : (fun n => allP bs (Y.take k) n && x.mask n) = allP bs (Y.take (k + 1)) := by
        rw [← atB_of hx, allP_app, List.take_add_one, hy]; rfl
      have HNX := Lib.hid hnx
      have HIM := Lib.hid (infoSetM x.mask)
      have HS0 : Hid (wr.drew.cell? ⟨fb, 0, none⟩ = some (.slice (some ⟨g, 0, none⟩) bs.length cp) ∧ wr.drew.rangeAt g (i * 19 + 1) (cellsOf x.mask).toList) := Lib.hid ⟨c0, hset⟩
      have HGD : Hid (g < wr.drew.heap.size ∧ fb < wr.drew.heap.size) := Lib.hid ⟨hgl, Nat.lt_of_lt_of_le hfw HBW.out.size⟩
      have HAN := Lib.hid (and_any (allP bs (Y.take k)) x.mask wr.drew)
      have HGR : Hid (wr.drew.heap[XB]? = some (.cells (cellsOf (allP bs (Y.take k))) 28 (0, 0))) := HG
      have HBD : Hid (But (fun j => j = XB) w4 wr.drew) := Lib.hid HBU.out.drew
      clear hnx hy hx hf hf' hr hgl hgw hfw hset hbl hc HG HBU HFF HYY
      generalize bs.length = n at *
      generalize hm : x.mask = m at *
      generalize Y.length = yn at *
      go_upto_region 5 with fail
      clear hc' c0
      refine wp_region_held_drew (S := fun W => W.cell? ⟨fb, 0, none⟩ = some (.slice (some ⟨g, 0, none⟩) n cp) ∧ W.rangeAt g (i * 19 + 1) (cellsOf m).toList) (by kernel_rfl) HS0.out (fun hHeld => ?_)
      show wpAnyH _ _ _ _ _ _ _ _ _
      try dsimp only at hHeld
      refine wpAnyH_take (i := 1) (v := ?_) rfl (by kernel_rfl) (by kernel_rfl) (by kernel_rfl) (fun _ _ _ h => h) (Or.inl ⟨by rfl, fun W hW => by (obtain ⟨z0, z1⟩ := hW; go_simp <;> with_reducible rfl)⟩) hHeld ?_
      go_simp
      refine wpAnyH_take (i := 2) (v := ?_) rfl (by kernel_rfl) (by kernel_rfl) (by kernel_rfl) (fun _ _ _ h => h) (Or.inl ⟨by rfl, fun W hW => by (obtain ⟨z0, z1⟩ := hW; go_simp <;> with_reducible rfl)⟩) hHeld ?_
      go_simp
      refine wpAnyH_take (i := 3) (v := ?_) rfl (by kernel_rfl) (by kernel_rfl) (by kernel_rfl) (fun _ _ _ h => h) (Or.inl ⟨by rfl, fun W hW => by (obtain ⟨z0, z1⟩ := hW; go_simp <;> with_reducible rfl)⟩) hHeld ?_
      go_simp
      refine wpAnyH_take (i := 4) (v := ?_) rfl (by kernel_rfl) (by kernel_rfl) (by kernel_rfl) (fun _ _ _ h => h) (Or.inl ⟨by rfl, fun W hW => by (obtain ⟨z0, z1⟩ := hW; go_simp <;> with_reducible rfl)⟩) hHeld ?_
      go_simp
      refine wpAnyH_take (i := 5) (v := ?_) rfl (by kernel_rfl) (by kernel_rfl) (by kernel_rfl) (fun _ _ _ h => h) (Or.inl ⟨by rfl, fun W hW => by (obtain ⟨z0, z1⟩ := hW; go_simp <;> with_reducible rfl)⟩) hHeld ?_
      go_simp
      refine wpAnyH_take (i := 6) (v := ?_) rfl (by kernel_rfl) (by kernel_rfl) (by kernel_rfl) (fun _ _ _ h => h) (Or.inl ⟨by rfl, fun W hW => by (obtain ⟨z0, z1⟩ := hW; go_simp <;> with_reducible rfl)⟩) hHeld ?_
      go_simp
      refine wpAnyH_take (i := 7) (v := ?_) rfl (by kernel_rfl) (by kernel_rfl) (by kernel_rfl) (fun _ _ _ h => h) (Or.inl ⟨by rfl, fun W hW => by (obtain ⟨z0, z1⟩ := hW; go_simp <;> with_reducible rfl)⟩) hHeld ?_
      go_simp
      refine wpAnyH_take (i := 8) (v := .agg (cellsOf m)) rfl (by kernel_rfl) (by kernel_rfl) (by kernel_rfl) (fun _ _ _ h => h) (yieldsIf_load_mid (by rfl) 28 (.tmp 24) rfl g (i * 19 + 1) rfl (cellsOf m).toList _ (fun W h => h.2) underSet rfl HIM.out) hHeld ?_
      go_simp
      refine wpAnyH_ready (rs := [0]) (by kernel_rfl) (by simp) (AllReadyH.cons rfl (fun K hK => ?_) AllReadyH.nil)
      refine step_ld_set rfl (.tmp 5) rfl XB rfl _ HGR.out ?_
      refine hK.out _ _ hHeld (fun hHeld => ?_)
      clear hK K
      refine wpAnyH_ready (rs := [9]) (by kernel_rfl) (by simp) (AllReadyH.cons rfl (fun K hK => ?_) AllReadyH.nil)
      go_simp
      go_at_call 32
      refine HAN.out.mono ?_
      rintro e w5 ⟨rfl, h5⟩
      have hs5 : w5.cell? ⟨fb, 0, none⟩ = some (.slice (some ⟨g, 0, none⟩) n cp) ∧ w5.rangeAt g (i * 19 + 1) (cellsOf m).toList := ⟨(h5.cell (p := ⟨fb, 0, none⟩) HGD.out.2).trans HS0.out.1, fun j u hj => (h5.cell (p := ⟨g, i * 19 + 1 + j, none⟩) HGD.out.1).trans (HS0.out.2 j u hj)⟩
      have HG5 : Hid (w5.heap[XB]? = some (.cells (cellsOf (allP bs (Y.take k))) 28 (0, 0))) := Lib.hid ((h5.block _ (Array.getElem?_eq_some_iff.1 HGR.out).1).trans HGR.out)
      have HB5 : Hid (But (fun j => j = XB) w4 w5) := Lib.hid (HBD.out.trans (But.of_below h5))
      have HS5 := Lib.hid hs5
      clear h5 HGR HBD HAN
      dsimp only
      (try (go_wp2_with fail))
      refine hK.out _ _ hs5 (fun hHeld => ?_)
      clear hK K hs5
      rw [HNX.out]
      refine wpAnyH_ready (rs := [10]) (by kernel_rfl) (by simp) (AllReadyH.cons rfl (fun K hK => ?_) AllReadyH.nil)
      refine step_st_set rfl (.tmp 5) (.tmp 26) rfl XB _ _ rfl rfl HG5.out ?_
      refine hK.out _ _ ⟨(setRow_cell HNE.out.2).trans HS5.out.1, fun j u hj => (setRow_cell HNE.out.1).trans (HS5.out.2 j u hj)⟩ (fun hHeld => ?_)
      clear hK K
      refine wpAnyH_done (by kernel_rfl) ?_ _
      have HG6 := Lib.hid (setRow_heap w5 XB _ (cellsOf (allP bs (Y.take (k + 1)))) _ _ HG5.out)
      have HB6 := Lib.hid (HB5.out.setRow XB (cellsOf (allP bs (Y.take (k + 1)))) (.inl rfl))
      go_wp2_with fail
      go_roundw
      case rel => exact ⟨k + 1, by go_num, by omega, HB6.out, HG6.out⟩
      case measure => simp [intOf]; omega
    · obtain rfl : k = Y.length := by omega
      have hg := HG.out
      rw [List.take_length] at hg
      have HG5 := Lib.hid hg
      have HR5 : Hid (wr.heap[w.heap.size]? = some (.cells (cellsOf fun _ => false) 28 (0, 0))) := Lib.hid ((HBU.out.block _ (Array.getElem?_eq_some_iff.1 HR4.out).1 (by have := HLT.out; omega)).trans HR4.out)
      clear hg HG
      generalize Y.length = yn at *
      have tk : ¬ (yn : Int) < (yn : Int) := by omega
      go_wp2_with (first
        | (with_reducible (show wpList _ _ _ _ _ _); refine ld_set rfl (.tmp 5) rfl XB rfl _ HG5.out ?_)
        | (with_reducible (show wpList _ _ _ _ _ _); refine st_set rfl (.tmp 4) (.tmp 28) rfl w.heap.size _ rfl rfl _ HR5.out (cellsOf_size _) ?_))
      refine res_set rfl w.heap.size _ rfl (setRow_heap _ _ _ _ _ _ HR5.out) rfl ⟨rfl, ?_⟩
      exact below_setRow HBW.out (Nat.le_refl _) _
theorem fmask_any (b : Int) (h : ForC fb v bs w) : Calls Try.prog 11 #[.pointer (some ⟨fb, 0, none⟩), .int .i64 b] w fun e w' => e = .returned (.agg (cellsOf (maskP bs b))) ∧ Below w.heap.size w w' :=
  mask_of b (way bs b) (by have := way_len32 h.inv b; omega) (fun W hW => around_any b (h.below hW)) (fun y hy => inB_nat (way_in h.inv _ b (Nat.le_refl _) y hy).2.2) (fun _ => ⟨fb, rfl, h⟩)
theorem fmask_nil (b : Int) (w : World) : Calls Try.prog 11 #[.pointer none, .int .i64 b] w fun e w' => e = .returned (.agg (cellsOf (maskP [] b))) ∧ Below w.heap.size w w' := by
  have hn : inB [] b = false := by unfold inB; simp
  exact mask_of (v := .slice none 0 0) b (way [] b) (by rw [way_no hn]; simp) (fun W _ => around_nil b W) (fun y hy => by rw [way_no hn] at hy; simp at hy) (fun q => absurd (way_no hn) q)
end
end Go.Proofs.Ytekahmfchpgmfaa
