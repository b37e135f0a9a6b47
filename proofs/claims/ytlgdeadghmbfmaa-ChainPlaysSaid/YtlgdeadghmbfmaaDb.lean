/- The document's rows of layer 7: Push, Remove. -/
import Derived.Test.YtlgdeadghmbfmaaDa
import Derived.Test.YtlgdeadghmbfmaaRi
import Derived.Test.YtlgdeadghmbfmaaCm
import Derived.Deep.RegionHeld3
namespace Go.Proofs.Ytlgdeadghmbfmaa
open Go.RowKit

section
variable {N : Nat → Prop} {rb gL n m : Nat} {ls : Nat → List Nat} {w w' : World}
theorem DrV.stored {k : Nat} {v2 : Value} {l : List Nat} {w2 : World} (h : DrV N rb gL n m ls w) (hN : ∀ b, N b → b < w.heap.size) (hk : k < m) (hM : Mine w.heap.size v2 (asInts l) w2) (hB : Below w.heap.size w w2) : DrV N rb gL n m (updL ls k l) (w2.setCell ⟨gL, k, none⟩ v2) ∧ But (fun b => b = gL) w (w2.setCell ⟨gL, k, none⟩ v2) := by
  have hbut : But (fun b => b = gL) w (w2.setCell ⟨gL, k, none⟩ v2) := (But.of_below hB).set _ _ (.inl rfl)
  have hst : But (fun b => b = gL) w2 (w2.setCell ⟨gL, k, none⟩ v2) := (But.refl _ _).set _ _ (.inl rfl)
  refine ⟨⟨h.hn, h.hm, h.nr, h.nL, h.ne, h.own.but hbut (Ne.symm h.ne), ?_⟩, hbut⟩
  obtain ⟨V, S, a, c, d, e⟩ := h.rows
  have hlt := c.lt
  refine ⟨fun j => if j = k then v2 else V j, S.setIfInBounds k v2, by simpa using a, ((c.below hB hlt).set_ k v2), fun j hj => ?_, fun j hj => ?_⟩
  · by_cases q : j = k
    · subst q; simp [show j < S.size by omega]
    · dsimp only; rw [Array.getElem?_setIfInBounds_ne (Ne.symm q), if_neg q]; exact d j hj
  · by_cases q : j = k
    · subst q
      dsimp only; rw [if_pos rfl, updL_same]
      obtain ⟨ad, cap, rfl, h1, h2, h3, h4⟩ := hM.ints
      rw [asInts_length] at h2 h3 ⊢
      refine ⟨ad, cap, rfl, h2, h1, ?_, fun bb off e q => ?_⟩
      · have h5 : (fun i => (asInts l)[i]?.getD 0) = fun i => ((l[i]?.getD 0 : Nat) : Int) := funext fun i => asInts_get l i
        rw [h5] at h3
        exact h3.but (X := fun b => b = gL) (by rw [asInts_length] at hst; exact hst) fun bb off e q => by have := h4 bb off e; omega
      · have h6 := h4 bb off e; have h7 := hN bb q; omega
    · dsimp only; rw [if_neg q, updL_other _ _ q]; exact (e j hj).but hbut fun b hb => by rw [hb]; exact h.nL
theorem zs_asInts (l : List Nat) : zs (fun i => ((l[i]?.getD 0 : Nat) : Int)) l.length = asInts l := by
  have h5 : (fun i => (asInts l)[i]?.getD 0) = fun i => ((l[i]?.getD 0 : Nat) : Int) := funext fun i => asInts_get l i
  rw [← h5, ← asInts_length, zs_of]
theorem din_none (x : Int) (h : DrV N rb gL n m ls w) (hL : ∀ a, a < m → (ls a).length ≤ 4096) (hf : ∀ a, a < m → ∀ y ∈ ls a, (y : Int) ≠ x) : Calls Try.prog 82 #[.pointer (some ⟨rb, 0, none⟩), .int .i64 x] w fun e w' => e = .returned (.tuple #[.int .i64 (-1), .int .i64 (-1)]) ∧ w = w' := by
  refine (din_any x h hL).mono ?_
  rintro e w' ⟨i, k, rfl, hF, rfl⟩
  rcases hF with ⟨rfl, rfl, _⟩ | ⟨a, c, rfl, rfl, ha, hc, hx⟩
  · exact ⟨rfl, rfl⟩
  · refine absurd hx (hf a ha _ ?_)
    rw [List.getElem?_eq_getElem hc]; exact List.getElem_mem hc
set_option maxRecDepth 100000 in
set_option maxHeartbeats 8000000 in
theorem dpush_ok (k x : Nat) (h : DrV N rb gL n m ls w) (hN : ∀ b, N b → b < w.heap.size) (hk : k < m) (hx : x < n) (hL : ∀ a, a < m → (ls a).length ≤ 4096) (hf : ∀ a, a < m → x ∉ ls a) :
    Calls Try.prog 84 #[.pointer (some ⟨rb, 0, none⟩), .int .i64 k, .int .i64 x] w fun e w' => e = .returned (.int .i64 0) ∧ DrV N rb gL n m (updL ls k (ls k ++ [x])) w' ∧ But (fun b => b = gL) w w' := by
  obtain ⟨c0, c1⟩ := h.cells
  obtain ⟨v, hv, A, cap, rfl, hc1, hc2, hIn, hc3⟩ := h.row hk
  have k0 : (0 : Int) ≤ (k : Int) := by omega
  have k1 : (k : Int) < (m : Int) := by omega
  have k2 : (0 : Int) ≤ (x : Int) := by omega
  have k3 : (x : Int) < (n : Int) := by omega
  have hl4 := hL k hk
  have HD := Lib.hid (din_none x h hL (fun a ha y hy e => hf a ha (Int.ofNat.inj e ▸ hy)))
  have HST : Hid (∀ v2 w2, Mine w.heap.size v2 (asInts (ls k ++ [x])) w2 → Below w.heap.size w w2 → DrV N rb gL n m (updL ls k (ls k ++ [x])) (w2.setCell ⟨gL, k, none⟩ v2) ∧ But (fun b => b = gL) w (w2.setCell ⟨gL, k, none⟩ v2)) := fun v2 w2 q1 q2 => h.stored hN hk q1 q2
  have HIN := Lib.hid hIn
  have OWN := Lib.hid h.own
  have HBL : Hid (∃ S, Blk w gL 27 S) := h.rows.elim fun _ q => q.elim fun S q => ⟨S, q.2.1⟩
  have HGL : Hid (gL < w.heap.size) := h.rows.elim fun _ q => q.elim fun _ q => q.2.1.lt
  have HNE : Hid (rb ≠ gL) := Ne.symm h.ne
  have c0w := c0
  clear h hN hx hL hf hIn hc3
  go_enter Try.func84, Try.ntmps84
  go_wp2_with fail
  refine HD.out.mono ?_
  rintro e w' ⟨rfl, rfl⟩
  clear HD
  go_wp2_with fail
  have hrb := c0w
  have n0 := World.new_ne w _ hv
  have n1 := World.new_ne w _ c1
  have HM1 : Hid (Mine w.heap.size (.slice (some ⟨w.heap.size, 0, none⟩) 0 0) [] (w.alloc (.cells #[] 3)).drew) := (mine_lit w).drew
  have HM3 : Hid (Mine w.heap.size (.slice (some ⟨w.heap.size, 0, none⟩) 0 0) [] ((w.alloc (.cells #[] 3)).alloc (.cells #[.int .i64 x] 3)).drew) := (mine_alloc (mine_lit w) _).drew
  have HM2 : Hid (Mine w.heap.size (.slice (some ⟨w.heap.size + 1, 0, none⟩) 0 0) [] ((w.alloc (.cells #[.int .i64 x] 3)).alloc (.cells #[] 3)).drew) := Mine.drew ⟨rfl, .inr ⟨w.heap.size + 1, 0, #[], rfl, by omega, by have := heap_alloc_new (w.alloc (.cells #[.int .i64 x] 3)) (.cells #[] 3); simpa using this, Nat.le_refl _, by unfold maxLen; omega, rfl, rfl⟩⟩
  have HB1 : Hid (Below w.heap.size w (w.alloc (.cells #[] 3)).drew) := ((Below.refl _ _).alloc (Nat.le_refl _) _).drew
  have HB3 : Hid (Below w.heap.size w ((w.alloc (.cells #[] 3)).alloc (.cells #[.int .i64 x] 3)).drew) := (((Below.refl _ _).alloc (Nat.le_refl _) _).alloc (by simp) _).drew
  have HB2 : Hid (Below w.heap.size w ((w.alloc (.cells #[.int .i64 x] 3)).alloc (.cells #[] 3)).drew) := (((Below.refl _ _).alloc (Nat.le_refl _) _).alloc (by simp) _).drew
  have HX3 : Hid (Blk ((w.alloc (.cells #[] 3)).alloc (.cells #[.int .i64 x] 3)).drew (w.heap.size + 1) 3 #[.int .i64 x]) := by have := Blk.new (w.alloc (.cells #[] 3)) 3 #[.int .i64 x]; rw [show (w.alloc (.cells #[] 3)).heap.size = w.heap.size + 1 by simp] at this; exact this
  have HX2 : Hid (Blk ((w.alloc (.cells #[.int .i64 x] 3)).alloc (.cells #[] 3)).drew w.heap.size 3 #[.int .i64 x]) := (Blk.new w 3 #[.int .i64 x]).alloc (.cells #[] 3)
  have HVV : Hid (∀ W, Below w.heap.size w W → W.cell? ⟨gL, k, none⟩ = some (.slice A (ls k).length cap)) := fun W q => (World.cell?_of_block (w := w) (a := ⟨gL, k, none⟩) (q.block gL HGL.out)).trans hv
  have hvZ := HVV.out (w.alloc (.cells #[] 3)) ((Below.refl _ _).alloc (Nat.le_refl _) _)
  have hvX := HVV.out (w.alloc (.cells #[.int .i64 x] 3)) ((Below.refl _ _).alloc (Nat.le_refl _) _)
  have hvZX := HVV.out ((w.alloc (.cells #[] 3)).alloc (.cells #[.int .i64 x] 3)) (((Below.refl _ _).alloc (Nat.le_refl _) _).alloc (by simp) _)
  have hvXZ := HVV.out ((w.alloc (.cells #[.int .i64 x] 3)).alloc (.cells #[] 3)) (((Below.refl _ _).alloc (Nat.le_refl _) _).alloc (by simp) _)
  have HFF : Hid (∀ W, Below w.heap.size w W → W.frozen? ⟨gL, k, none⟩ = false) := fun W q => HBL.out.elim fun S c => (c.below q HGL.out).free k
  have HCC : Hid (∀ W, Below w.heap.size w W → W.cell? ⟨rb, 1, none⟩ = some (.slice (some ⟨gL, 0, none⟩) m m)) := fun W q => (OWN.out.below q OWN.out.lt).cell 1
  have HBX : Hid (Below w.heap.size w (w.alloc (.cells #[.int .i64 x] 3)).drew) := ((Below.refl _ _).alloc (Nat.le_refl _) _).drew
  have HCS : Hid (∀ v W, Below w.heap.size w W → (W.setCell ⟨gL, k, none⟩ v).cell? ⟨rb, 1, none⟩ = some (.slice (some ⟨gL, 0, none⟩) m m)) := fun v W q => ((OWN.out.below q OWN.out.lt).far (p := ⟨gL, k, none⟩) HNE.out v).cell 1
  refine wp_region_held_drew (S := fun W => W.cell? ⟨rb, 1, none⟩ = some (.slice (some ⟨gL, 0, none⟩) m m)) (by kernel_rfl) (HCC.out _ (Below.refl w.heap.size w).drew) (fun hHeld => ?_)
  show wpAnyH _ _ _ _ _ _ _ _ _
  try dsimp only at hHeld
  refine wpAnyH_take (i := 0) (v := ?_) rfl (by kernel_rfl) (by kernel_rfl) (by kernel_rfl) (fun _ _ _ h => h) (Or.inl ⟨by rfl, fun W hW => by ((try dsimp only at hW); go_simp <;> with_reducible rfl)⟩) hHeld ?_
  go_simp
  refine wpAnyH_take (i := 1) (v := ?_) rfl (by kernel_rfl) (by kernel_rfl) (by kernel_rfl) (fun _ _ _ h => h) (Or.inl ⟨by rfl, fun W hW => by ((try dsimp only at hW); go_simp <;> with_reducible rfl)⟩) hHeld ?_
  go_simp
  refine wpAnyH_take (i := 2) (v := ?_) rfl (by kernel_rfl) (by kernel_rfl) (by kernel_rfl) (fun _ _ _ h => h) (Or.inl ⟨by rfl, fun W hW => by ((try dsimp only at hW); go_simp <;> with_reducible rfl)⟩) hHeld ?_
  go_simp
  refine wpAnyH_take (i := 3) (v := ?_) rfl (by kernel_rfl) (by kernel_rfl) (by kernel_rfl) (fun _ _ _ h => h) (Or.inl ⟨by rfl, fun W hW => by ((try dsimp only at hW); go_simp <;> with_reducible rfl)⟩) hHeld ?_
  go_simp
  refine wpAnyH_take (i := 4) (v := ?_) rfl (by kernel_rfl) (by kernel_rfl) (by kernel_rfl) (fun _ _ _ h => h) (Or.inl ⟨by rfl, fun W hW => by ((try dsimp only at hW); go_simp <;> with_reducible rfl)⟩) hHeld ?_
  go_simp
  refine wpAnyH_take (i := 6) (v := ?_) rfl (by kernel_rfl) (by kernel_rfl) (by kernel_rfl) (fun _ _ _ h => h) (Or.inl ⟨by rfl, fun W hW => by ((try dsimp only at hW); go_simp <;> with_reducible rfl)⟩) hHeld ?_
  go_simp
  refine wpAnyH_take (i := 7) (v := ?_) rfl (by kernel_rfl) (by kernel_rfl) (by kernel_rfl) (fun _ _ _ h => h) (Or.inl ⟨by rfl, fun W hW => by ((try dsimp only at hW); go_simp <;> with_reducible rfl)⟩) hHeld ?_
  go_simp
  refine wpAnyH_take (i := 8) (v := ?_) rfl (by kernel_rfl) (by kernel_rfl) (by kernel_rfl) (fun _ _ _ h => h) (Or.inl ⟨by rfl, fun W hW => by ((try dsimp only at hW); go_simp <;> with_reducible rfl)⟩) hHeld ?_
  go_simp
  refine wpAnyH_take (i := 9) (v := ?_) rfl (by kernel_rfl) (by kernel_rfl) (by kernel_rfl) (fun _ _ _ h => h) (Or.inl ⟨by rfl, fun W hW => by ((try dsimp only at hW); go_simp <;> with_reducible rfl)⟩) hHeld ?_
  go_simp
  refine wpAnyH_take (i := 10) (v := ?_) rfl (by kernel_rfl) (by kernel_rfl) (by kernel_rfl) (fun _ _ _ h => h) (Or.inl ⟨by rfl, fun W hW => by ((try dsimp only at hW); go_simp <;> with_reducible rfl)⟩) hHeld ?_
  go_simp
  refine wpAnyH_take (i := 11) (v := ?_) rfl (by kernel_rfl) (by kernel_rfl) (by kernel_rfl) (fun _ _ _ h => h) (Or.inl ⟨by rfl, fun W hW => by ((try dsimp only at hW); go_simp <;> with_reducible rfl)⟩) hHeld ?_
  go_simp
  refine wpAnyH_take (i := 14) (v := ?_) rfl (by kernel_rfl) (by kernel_rfl) (by kernel_rfl) (fun _ _ _ h => h) (Or.inl ⟨by rfl, fun W hW => by ((try dsimp only at hW); go_simp <;> with_reducible rfl)⟩) hHeld ?_
  go_simp
  refine wpAnyH_ready (rs := [5, 12, 15]) (by kernel_rfl) (by simp) (AllReadyH.cons rfl (fun K hK => ?_) (AllReadyH.cons rfl (fun K hK => ?_) (AllReadyH.cons rfl (fun K hK => ?_) (AllReadyH.nil))))
  · go_simp
    refine hK.out _ _ (HCC.out _ HB1.out) (fun hHeld => ?_)
    clear hK K
    refine wpAnyH_ready (rs := [12, 15]) (by kernel_rfl) (by simp) (AllReadyH.cons rfl (fun K hK => ?_) (AllReadyH.cons rfl (fun K hK => ?_) (AllReadyH.nil)))
    · go_simp
      refine hK.out _ _ (HCC.out _ HB1.out) (fun hHeld => ?_)
      clear hK K
      refine wpAnyH_ready (rs := [13, 15]) (by kernel_rfl) (by simp) (AllReadyH.cons rfl (fun K hK => ?_) (AllReadyH.cons rfl (fun K hK => ?_) (AllReadyH.nil)))
      · refine step_app_ints rfl (.tmp 45) (.tmp 52) rfl w.heap.size (.slice (some ⟨w.heap.size, 0, none⟩) 0 0) [] (by rfl) HM1.out A (ls k).length cap (fun i => ((ls k)[i]?.getD 0 : Nat)) (by rfl) hc2 hc1 (HIN.out.below HB1.out) (by omega) (by simp) HB1.out.size ?_
        intro v1 w1 h1; have H1 := Lib.hid h1.1; have B1 := Lib.hid (HB1.out.trans h1.2.1); clear h1
        refine hK.out _ _ (HCC.out _ B1.out) (fun hHeld => ?_)
        clear hK K
        refine wpAnyH_ready (rs := [15]) (by kernel_rfl) (by simp) (AllReadyH.cons rfl (fun K hK => ?_) (AllReadyH.nil))
        · go_simp
          refine hK.out _ _ (HCC.out _ (B1.out.alloc B1.out.size _)) (fun hHeld => ?_)
          clear hK K
          refine wpAnyH_ready (rs := [16]) (by kernel_rfl) (by simp) (AllReadyH.cons rfl (fun K hK => ?_) (AllReadyH.nil))
          · refine step_app_ints rfl (.tmp 53) (.tmp 55) rfl w.heap.size v1 ([] ++ zs (fun i => ((ls k)[i]?.getD 0 : Nat)) (ls k).length) (by rfl) (H1.out.alloc _) (some ⟨w1.heap.size, 0, none⟩) 1 1 (fun _ => (x : Int)) (by rfl) (fun e => by cases e) (Nat.le_refl _) (fun j hj => ⟨w1.heap.size, 0, rfl, by simp, by rw [show j = 0 by omega]; exact (Blk.new w1 3 #[.int .i64 x]).cell 0⟩) (by omega) (by rw [List.nil_append, zs_length]; omega) (by have := B1.out.size; simp; omega) ?_
            intro v2 w2 h2; have H2 := Lib.hid h2.1; have B2 := Lib.hid ((B1.out.alloc B1.out.size (.cells #[.int .i64 x] 3)).trans h2.2.1); have hv2 := HVV.out w2 B2.out; have hf2 := HFF.out w2 B2.out; obtain ⟨ad2, ln2, cp2, rfl⟩ : ∃ ad ln cp, v2 = .slice ad ln cp := h2.1.ints.elim fun ad q => q.elim fun cp q => ⟨ad, _, cp, q.1⟩; clear h2
            refine hK.out _ _ (HCC.out _ B2.out) (fun hHeld => ?_)
            clear hK K
            refine wpAnyH_take (i := 17) (v := ?_) rfl (by kernel_rfl) (by kernel_rfl) (by kernel_rfl) (fun _ _ _ h => h) (Or.inl ⟨by rfl, fun W hW => by ((try dsimp only at hW); go_simp <;> with_reducible rfl)⟩) hHeld ?_
            go_simp
            refine wpAnyH_ready (rs := [18]) (by kernel_rfl) (by simp) (AllReadyH.cons rfl (fun K hK => ?_) (AllReadyH.nil))
            · go_simp
              refine hK.out _ _ (HCS.out _ _ B2.out) (fun hHeld => ?_)
              clear hK K
              refine wpAnyH_done (by kernel_rfl) ?_ _
              go_wp2_with fail
              go_ret
              have hM2 : Mine w.heap.size (.slice ad2 ln2 cp2) (asInts (ls k ++ [x])) w2 := by
                have h7 := H2.out
                rw [show [] ++ zs (fun i => (((ls k)[i]?.getD 0 : Nat) : Int)) (ls k).length ++ zs (fun _ => (x : Int)) 1 = asInts (ls k ++ [x]) by rw [zs_asInts]; simp [asInts, zs]] at h7
                exact h7
              exact ⟨rfl, HST.out _ w2 hM2 B2.out⟩
      · go_simp
        refine hK.out _ _ (HCC.out _ HB3.out) (fun hHeld => ?_)
        clear hK K
        refine wpAnyH_ready (rs := [13]) (by kernel_rfl) (by simp) (AllReadyH.cons rfl (fun K hK => ?_) (AllReadyH.nil))
        · refine step_app_ints rfl (.tmp 45) (.tmp 52) rfl w.heap.size (.slice (some ⟨w.heap.size, 0, none⟩) 0 0) [] (by rfl) HM3.out A (ls k).length cap (fun i => ((ls k)[i]?.getD 0 : Nat)) (by rfl) hc2 hc1 (HIN.out.below HB3.out) (by omega) (by simp) HB3.out.size ?_
          intro v1 w1 h1; have H1 := Lib.hid h1.1; have B1 := Lib.hid (HB3.out.trans h1.2.1)
          have HX : Hid (Blk w1 (w.heap.size + 1) 3 #[.int .i64 x]) := HX3.out.but ((But.refl (fun b => b = w.heap.size) _).grown h1.2.2 (fun q hq => .inl (by cases hq; rfl))) (by simp)
          clear h1
          refine hK.out _ _ (HCC.out _ B1.out) (fun hHeld => ?_)
          clear hK K
          refine wpAnyH_ready (rs := [16]) (by kernel_rfl) (by simp) (AllReadyH.cons rfl (fun K hK => ?_) (AllReadyH.nil))
          · refine step_app_ints rfl (.tmp 53) (.tmp 55) rfl w.heap.size v1 ([] ++ zs (fun i => ((ls k)[i]?.getD 0 : Nat)) (ls k).length) (by rfl) H1.out (some ⟨w.heap.size + 1, 0, none⟩) 1 1 (fun _ => (x : Int)) (by rfl) (fun e => by cases e) (Nat.le_refl _) (fun j hj => ⟨w.heap.size + 1, 0, rfl, HX.out.lt, by rw [show j = 0 by omega]; exact HX.out.cell 0⟩) (by omega) (by rw [List.nil_append, zs_length]; omega) B1.out.size ?_
            intro v2 w2 h2; have H2 := Lib.hid h2.1; have B2 := Lib.hid (B1.out.trans h2.2.1); have hv2 := HVV.out w2 B2.out; have hf2 := HFF.out w2 B2.out; obtain ⟨ad2, ln2, cp2, rfl⟩ : ∃ ad ln cp, v2 = .slice ad ln cp := h2.1.ints.elim fun ad q => q.elim fun cp q => ⟨ad, _, cp, q.1⟩; clear h2
            refine hK.out _ _ (HCC.out _ B2.out) (fun hHeld => ?_)
            clear hK K
            refine wpAnyH_take (i := 17) (v := ?_) rfl (by kernel_rfl) (by kernel_rfl) (by kernel_rfl) (fun _ _ _ h => h) (Or.inl ⟨by rfl, fun W hW => by ((try dsimp only at hW); go_simp <;> with_reducible rfl)⟩) hHeld ?_
            go_simp
            refine wpAnyH_ready (rs := [18]) (by kernel_rfl) (by simp) (AllReadyH.cons rfl (fun K hK => ?_) (AllReadyH.nil))
            · go_simp
              refine hK.out _ _ (HCS.out _ _ B2.out) (fun hHeld => ?_)
              clear hK K
              refine wpAnyH_done (by kernel_rfl) ?_ _
              go_wp2_with fail
              go_ret
              have hM2 : Mine w.heap.size (.slice ad2 ln2 cp2) (asInts (ls k ++ [x])) w2 := by
                have h7 := H2.out
                rw [show [] ++ zs (fun i => (((ls k)[i]?.getD 0 : Nat) : Int)) (ls k).length ++ zs (fun _ => (x : Int)) 1 = asInts (ls k ++ [x]) by rw [zs_asInts]; simp [asInts, zs]] at h7
                exact h7
              exact ⟨rfl, HST.out _ w2 hM2 B2.out⟩
    · go_simp
      refine hK.out _ _ (HCC.out _ HB3.out) (fun hHeld => ?_)
      clear hK K
      refine wpAnyH_ready (rs := [12]) (by kernel_rfl) (by simp) (AllReadyH.cons rfl (fun K hK => ?_) (AllReadyH.nil))
      · go_simp
        refine hK.out _ _ (HCC.out _ HB3.out) (fun hHeld => ?_)
        clear hK K
        refine wpAnyH_ready (rs := [13]) (by kernel_rfl) (by simp) (AllReadyH.cons rfl (fun K hK => ?_) (AllReadyH.nil))
        · refine step_app_ints rfl (.tmp 45) (.tmp 52) rfl w.heap.size (.slice (some ⟨w.heap.size, 0, none⟩) 0 0) [] (by rfl) HM3.out A (ls k).length cap (fun i => ((ls k)[i]?.getD 0 : Nat)) (by rfl) hc2 hc1 (HIN.out.below HB3.out) (by omega) (by simp) HB3.out.size ?_
          intro v1 w1 h1; have H1 := Lib.hid h1.1; have B1 := Lib.hid (HB3.out.trans h1.2.1)
          have HX : Hid (Blk w1 (w.heap.size + 1) 3 #[.int .i64 x]) := HX3.out.but ((But.refl (fun b => b = w.heap.size) _).grown h1.2.2 (fun q hq => .inl (by cases hq; rfl))) (by simp)
          clear h1
          refine hK.out _ _ (HCC.out _ B1.out) (fun hHeld => ?_)
          clear hK K
          refine wpAnyH_ready (rs := [16]) (by kernel_rfl) (by simp) (AllReadyH.cons rfl (fun K hK => ?_) (AllReadyH.nil))
          · refine step_app_ints rfl (.tmp 53) (.tmp 55) rfl w.heap.size v1 ([] ++ zs (fun i => ((ls k)[i]?.getD 0 : Nat)) (ls k).length) (by rfl) H1.out (some ⟨w.heap.size + 1, 0, none⟩) 1 1 (fun _ => (x : Int)) (by rfl) (fun e => by cases e) (Nat.le_refl _) (fun j hj => ⟨w.heap.size + 1, 0, rfl, HX.out.lt, by rw [show j = 0 by omega]; exact HX.out.cell 0⟩) (by omega) (by rw [List.nil_append, zs_length]; omega) B1.out.size ?_
            intro v2 w2 h2; have H2 := Lib.hid h2.1; have B2 := Lib.hid (B1.out.trans h2.2.1); have hv2 := HVV.out w2 B2.out; have hf2 := HFF.out w2 B2.out; obtain ⟨ad2, ln2, cp2, rfl⟩ : ∃ ad ln cp, v2 = .slice ad ln cp := h2.1.ints.elim fun ad q => q.elim fun cp q => ⟨ad, _, cp, q.1⟩; clear h2
            refine hK.out _ _ (HCC.out _ B2.out) (fun hHeld => ?_)
            clear hK K
            refine wpAnyH_take (i := 17) (v := ?_) rfl (by kernel_rfl) (by kernel_rfl) (by kernel_rfl) (fun _ _ _ h => h) (Or.inl ⟨by rfl, fun W hW => by ((try dsimp only at hW); go_simp <;> with_reducible rfl)⟩) hHeld ?_
            go_simp
            refine wpAnyH_ready (rs := [18]) (by kernel_rfl) (by simp) (AllReadyH.cons rfl (fun K hK => ?_) (AllReadyH.nil))
            · go_simp
              refine hK.out _ _ (HCS.out _ _ B2.out) (fun hHeld => ?_)
              clear hK K
              refine wpAnyH_done (by kernel_rfl) ?_ _
              go_wp2_with fail
              go_ret
              have hM2 : Mine w.heap.size (.slice ad2 ln2 cp2) (asInts (ls k ++ [x])) w2 := by
                have h7 := H2.out
                rw [show [] ++ zs (fun i => (((ls k)[i]?.getD 0 : Nat) : Int)) (ls k).length ++ zs (fun _ => (x : Int)) 1 = asInts (ls k ++ [x]) by rw [zs_asInts]; simp [asInts, zs]] at h7
                exact h7
              exact ⟨rfl, HST.out _ w2 hM2 B2.out⟩
  · go_simp
    refine hK.out _ _ (HCC.out _ (Below.refl w.heap.size w).drew) (fun hHeld => ?_)
    clear hK K
    refine wpAnyH_ready (rs := [5, 15]) (by kernel_rfl) (by simp) (AllReadyH.cons rfl (fun K hK => ?_) (AllReadyH.cons rfl (fun K hK => ?_) (AllReadyH.nil)))
    · go_simp
      refine hK.out _ _ (HCC.out _ HB1.out) (fun hHeld => ?_)
      clear hK K
      refine wpAnyH_ready (rs := [13, 15]) (by kernel_rfl) (by simp) (AllReadyH.cons rfl (fun K hK => ?_) (AllReadyH.cons rfl (fun K hK => ?_) (AllReadyH.nil)))
      · refine step_app_ints rfl (.tmp 45) (.tmp 52) rfl w.heap.size (.slice (some ⟨w.heap.size, 0, none⟩) 0 0) [] (by rfl) HM1.out A (ls k).length cap (fun i => ((ls k)[i]?.getD 0 : Nat)) (by rfl) hc2 hc1 (HIN.out.below HB1.out) (by omega) (by simp) HB1.out.size ?_
        intro v1 w1 h1; have H1 := Lib.hid h1.1; have B1 := Lib.hid (HB1.out.trans h1.2.1); clear h1
        refine hK.out _ _ (HCC.out _ B1.out) (fun hHeld => ?_)
        clear hK K
        refine wpAnyH_ready (rs := [15]) (by kernel_rfl) (by simp) (AllReadyH.cons rfl (fun K hK => ?_) (AllReadyH.nil))
        · go_simp
          refine hK.out _ _ (HCC.out _ (B1.out.alloc B1.out.size _)) (fun hHeld => ?_)
          clear hK K
          refine wpAnyH_ready (rs := [16]) (by kernel_rfl) (by simp) (AllReadyH.cons rfl (fun K hK => ?_) (AllReadyH.nil))
          · refine step_app_ints rfl (.tmp 53) (.tmp 55) rfl w.heap.size v1 ([] ++ zs (fun i => ((ls k)[i]?.getD 0 : Nat)) (ls k).length) (by rfl) (H1.out.alloc _) (some ⟨w1.heap.size, 0, none⟩) 1 1 (fun _ => (x : Int)) (by rfl) (fun e => by cases e) (Nat.le_refl _) (fun j hj => ⟨w1.heap.size, 0, rfl, by simp, by rw [show j = 0 by omega]; exact (Blk.new w1 3 #[.int .i64 x]).cell 0⟩) (by omega) (by rw [List.nil_append, zs_length]; omega) (by have := B1.out.size; simp; omega) ?_
            intro v2 w2 h2; have H2 := Lib.hid h2.1; have B2 := Lib.hid ((B1.out.alloc B1.out.size (.cells #[.int .i64 x] 3)).trans h2.2.1); have hv2 := HVV.out w2 B2.out; have hf2 := HFF.out w2 B2.out; obtain ⟨ad2, ln2, cp2, rfl⟩ : ∃ ad ln cp, v2 = .slice ad ln cp := h2.1.ints.elim fun ad q => q.elim fun cp q => ⟨ad, _, cp, q.1⟩; clear h2
            refine hK.out _ _ (HCC.out _ B2.out) (fun hHeld => ?_)
            clear hK K
            refine wpAnyH_take (i := 17) (v := ?_) rfl (by kernel_rfl) (by kernel_rfl) (by kernel_rfl) (fun _ _ _ h => h) (Or.inl ⟨by rfl, fun W hW => by ((try dsimp only at hW); go_simp <;> with_reducible rfl)⟩) hHeld ?_
            go_simp
            refine wpAnyH_ready (rs := [18]) (by kernel_rfl) (by simp) (AllReadyH.cons rfl (fun K hK => ?_) (AllReadyH.nil))
            · go_simp
              refine hK.out _ _ (HCS.out _ _ B2.out) (fun hHeld => ?_)
              clear hK K
              refine wpAnyH_done (by kernel_rfl) ?_ _
              go_wp2_with fail
              go_ret
              have hM2 : Mine w.heap.size (.slice ad2 ln2 cp2) (asInts (ls k ++ [x])) w2 := by
                have h7 := H2.out
                rw [show [] ++ zs (fun i => (((ls k)[i]?.getD 0 : Nat) : Int)) (ls k).length ++ zs (fun _ => (x : Int)) 1 = asInts (ls k ++ [x]) by rw [zs_asInts]; simp [asInts, zs]] at h7
                exact h7
              exact ⟨rfl, HST.out _ w2 hM2 B2.out⟩
      · go_simp
        refine hK.out _ _ (HCC.out _ HB3.out) (fun hHeld => ?_)
        clear hK K
        refine wpAnyH_ready (rs := [13]) (by kernel_rfl) (by simp) (AllReadyH.cons rfl (fun K hK => ?_) (AllReadyH.nil))
        · refine step_app_ints rfl (.tmp 45) (.tmp 52) rfl w.heap.size (.slice (some ⟨w.heap.size, 0, none⟩) 0 0) [] (by rfl) HM3.out A (ls k).length cap (fun i => ((ls k)[i]?.getD 0 : Nat)) (by rfl) hc2 hc1 (HIN.out.below HB3.out) (by omega) (by simp) HB3.out.size ?_
          intro v1 w1 h1; have H1 := Lib.hid h1.1; have B1 := Lib.hid (HB3.out.trans h1.2.1)
          have HX : Hid (Blk w1 (w.heap.size + 1) 3 #[.int .i64 x]) := HX3.out.but ((But.refl (fun b => b = w.heap.size) _).grown h1.2.2 (fun q hq => .inl (by cases hq; rfl))) (by simp)
          clear h1
          refine hK.out _ _ (HCC.out _ B1.out) (fun hHeld => ?_)
          clear hK K
          refine wpAnyH_ready (rs := [16]) (by kernel_rfl) (by simp) (AllReadyH.cons rfl (fun K hK => ?_) (AllReadyH.nil))
          · refine step_app_ints rfl (.tmp 53) (.tmp 55) rfl w.heap.size v1 ([] ++ zs (fun i => ((ls k)[i]?.getD 0 : Nat)) (ls k).length) (by rfl) H1.out (some ⟨w.heap.size + 1, 0, none⟩) 1 1 (fun _ => (x : Int)) (by rfl) (fun e => by cases e) (Nat.le_refl _) (fun j hj => ⟨w.heap.size + 1, 0, rfl, HX.out.lt, by rw [show j = 0 by omega]; exact HX.out.cell 0⟩) (by omega) (by rw [List.nil_append, zs_length]; omega) B1.out.size ?_
            intro v2 w2 h2; have H2 := Lib.hid h2.1; have B2 := Lib.hid (B1.out.trans h2.2.1); have hv2 := HVV.out w2 B2.out; have hf2 := HFF.out w2 B2.out; obtain ⟨ad2, ln2, cp2, rfl⟩ : ∃ ad ln cp, v2 = .slice ad ln cp := h2.1.ints.elim fun ad q => q.elim fun cp q => ⟨ad, _, cp, q.1⟩; clear h2
            refine hK.out _ _ (HCC.out _ B2.out) (fun hHeld => ?_)
            clear hK K
            refine wpAnyH_take (i := 17) (v := ?_) rfl (by kernel_rfl) (by kernel_rfl) (by kernel_rfl) (fun _ _ _ h => h) (Or.inl ⟨by rfl, fun W hW => by ((try dsimp only at hW); go_simp <;> with_reducible rfl)⟩) hHeld ?_
            go_simp
            refine wpAnyH_ready (rs := [18]) (by kernel_rfl) (by simp) (AllReadyH.cons rfl (fun K hK => ?_) (AllReadyH.nil))
            · go_simp
              refine hK.out _ _ (HCS.out _ _ B2.out) (fun hHeld => ?_)
              clear hK K
              refine wpAnyH_done (by kernel_rfl) ?_ _
              go_wp2_with fail
              go_ret
              have hM2 : Mine w.heap.size (.slice ad2 ln2 cp2) (asInts (ls k ++ [x])) w2 := by
                have h7 := H2.out
                rw [show [] ++ zs (fun i => (((ls k)[i]?.getD 0 : Nat) : Int)) (ls k).length ++ zs (fun _ => (x : Int)) 1 = asInts (ls k ++ [x]) by rw [zs_asInts]; simp [asInts, zs]] at h7
                exact h7
              exact ⟨rfl, HST.out _ w2 hM2 B2.out⟩
    · go_simp
      refine hK.out _ _ (HCC.out _ HBX.out) (fun hHeld => ?_)
      clear hK K
      refine wpAnyH_ready (rs := [5]) (by kernel_rfl) (by simp) (AllReadyH.cons rfl (fun K hK => ?_) (AllReadyH.nil))
      · go_simp
        refine hK.out _ _ (HCC.out _ HB2.out) (fun hHeld => ?_)
        clear hK K
        refine wpAnyH_ready (rs := [13]) (by kernel_rfl) (by simp) (AllReadyH.cons rfl (fun K hK => ?_) (AllReadyH.nil))
        · refine step_app_ints rfl (.tmp 45) (.tmp 52) rfl w.heap.size (.slice (some ⟨w.heap.size + 1, 0, none⟩) 0 0) [] (by rfl) HM2.out A (ls k).length cap (fun i => ((ls k)[i]?.getD 0 : Nat)) (by rfl) hc2 hc1 (HIN.out.below HB2.out) (by omega) (by simp) HB2.out.size ?_
          intro v1 w1 h1; have H1 := Lib.hid h1.1; have B1 := Lib.hid (HB2.out.trans h1.2.1)
          have HX : Hid (Blk w1 w.heap.size 3 #[.int .i64 x]) := HX2.out.but ((But.refl (fun b => b = w.heap.size + 1) _).grown h1.2.2 (fun q hq => .inl (by cases hq; rfl))) (by simp)
          clear h1
          refine hK.out _ _ (HCC.out _ B1.out) (fun hHeld => ?_)
          clear hK K
          refine wpAnyH_ready (rs := [16]) (by kernel_rfl) (by simp) (AllReadyH.cons rfl (fun K hK => ?_) (AllReadyH.nil))
          · refine step_app_ints rfl (.tmp 53) (.tmp 55) rfl w.heap.size v1 ([] ++ zs (fun i => ((ls k)[i]?.getD 0 : Nat)) (ls k).length) (by rfl) H1.out (some ⟨w.heap.size, 0, none⟩) 1 1 (fun _ => (x : Int)) (by rfl) (fun e => by cases e) (Nat.le_refl _) (fun j hj => ⟨w.heap.size, 0, rfl, HX.out.lt, by rw [show j = 0 by omega]; exact HX.out.cell 0⟩) (by omega) (by rw [List.nil_append, zs_length]; omega) B1.out.size ?_
            intro v2 w2 h2; have H2 := Lib.hid h2.1; have B2 := Lib.hid (B1.out.trans h2.2.1); have hv2 := HVV.out w2 B2.out; have hf2 := HFF.out w2 B2.out; obtain ⟨ad2, ln2, cp2, rfl⟩ : ∃ ad ln cp, v2 = .slice ad ln cp := h2.1.ints.elim fun ad q => q.elim fun cp q => ⟨ad, _, cp, q.1⟩; clear h2
            refine hK.out _ _ (HCC.out _ B2.out) (fun hHeld => ?_)
            clear hK K
            refine wpAnyH_take (i := 17) (v := ?_) rfl (by kernel_rfl) (by kernel_rfl) (by kernel_rfl) (fun _ _ _ h => h) (Or.inl ⟨by rfl, fun W hW => by ((try dsimp only at hW); go_simp <;> with_reducible rfl)⟩) hHeld ?_
            go_simp
            refine wpAnyH_ready (rs := [18]) (by kernel_rfl) (by simp) (AllReadyH.cons rfl (fun K hK => ?_) (AllReadyH.nil))
            · go_simp
              refine hK.out _ _ (HCS.out _ _ B2.out) (fun hHeld => ?_)
              clear hK K
              refine wpAnyH_done (by kernel_rfl) ?_ _
              go_wp2_with fail
              go_ret
              have hM2 : Mine w.heap.size (.slice ad2 ln2 cp2) (asInts (ls k ++ [x])) w2 := by
                have h7 := H2.out
                rw [show [] ++ zs (fun i => (((ls k)[i]?.getD 0 : Nat) : Int)) (ls k).length ++ zs (fun _ => (x : Int)) 1 = asInts (ls k ++ [x]) by rw [zs_asInts]; simp [asInts, zs]] at h7
                exact h7
              exact ⟨rfl, HST.out _ w2 hM2 B2.out⟩
  · go_simp
    refine hK.out _ _ (HCC.out _ HBX.out) (fun hHeld => ?_)
    clear hK K
    refine wpAnyH_ready (rs := [5, 12]) (by kernel_rfl) (by simp) (AllReadyH.cons rfl (fun K hK => ?_) (AllReadyH.cons rfl (fun K hK => ?_) (AllReadyH.nil)))
    · go_simp
      refine hK.out _ _ (HCC.out _ HB2.out) (fun hHeld => ?_)
      clear hK K
      refine wpAnyH_ready (rs := [12]) (by kernel_rfl) (by simp) (AllReadyH.cons rfl (fun K hK => ?_) (AllReadyH.nil))
      · go_simp
        refine hK.out _ _ (HCC.out _ HB2.out) (fun hHeld => ?_)
        clear hK K
        refine wpAnyH_ready (rs := [13]) (by kernel_rfl) (by simp) (AllReadyH.cons rfl (fun K hK => ?_) (AllReadyH.nil))
        · refine step_app_ints rfl (.tmp 45) (.tmp 52) rfl w.heap.size (.slice (some ⟨w.heap.size + 1, 0, none⟩) 0 0) [] (by rfl) HM2.out A (ls k).length cap (fun i => ((ls k)[i]?.getD 0 : Nat)) (by rfl) hc2 hc1 (HIN.out.below HB2.out) (by omega) (by simp) HB2.out.size ?_
          intro v1 w1 h1; have H1 := Lib.hid h1.1; have B1 := Lib.hid (HB2.out.trans h1.2.1)
          have HX : Hid (Blk w1 w.heap.size 3 #[.int .i64 x]) := HX2.out.but ((But.refl (fun b => b = w.heap.size + 1) _).grown h1.2.2 (fun q hq => .inl (by cases hq; rfl))) (by simp)
          clear h1
          refine hK.out _ _ (HCC.out _ B1.out) (fun hHeld => ?_)
          clear hK K
          refine wpAnyH_ready (rs := [16]) (by kernel_rfl) (by simp) (AllReadyH.cons rfl (fun K hK => ?_) (AllReadyH.nil))
          · refine step_app_ints rfl (.tmp 53) (.tmp 55) rfl w.heap.size v1 ([] ++ zs (fun i => ((ls k)[i]?.getD 0 : Nat)) (ls k).length) (by rfl) H1.out (some ⟨w.heap.size, 0, none⟩) 1 1 (fun _ => (x : Int)) (by rfl) (fun e => by cases e) (Nat.le_refl _) (fun j hj => ⟨w.heap.size, 0, rfl, HX.out.lt, by rw [show j = 0 by omega]; exact HX.out.cell 0⟩) (by omega) (by rw [List.nil_append, zs_length]; omega) B1.out.size ?_
            intro v2 w2 h2; have H2 := Lib.hid h2.1; have B2 := Lib.hid (B1.out.trans h2.2.1); have hv2 := HVV.out w2 B2.out; have hf2 := HFF.out w2 B2.out; obtain ⟨ad2, ln2, cp2, rfl⟩ : ∃ ad ln cp, v2 = .slice ad ln cp := h2.1.ints.elim fun ad q => q.elim fun cp q => ⟨ad, _, cp, q.1⟩; clear h2
            refine hK.out _ _ (HCC.out _ B2.out) (fun hHeld => ?_)
            clear hK K
            refine wpAnyH_take (i := 17) (v := ?_) rfl (by kernel_rfl) (by kernel_rfl) (by kernel_rfl) (fun _ _ _ h => h) (Or.inl ⟨by rfl, fun W hW => by ((try dsimp only at hW); go_simp <;> with_reducible rfl)⟩) hHeld ?_
            go_simp
            refine wpAnyH_ready (rs := [18]) (by kernel_rfl) (by simp) (AllReadyH.cons rfl (fun K hK => ?_) (AllReadyH.nil))
            · go_simp
              refine hK.out _ _ (HCS.out _ _ B2.out) (fun hHeld => ?_)
              clear hK K
              refine wpAnyH_done (by kernel_rfl) ?_ _
              go_wp2_with fail
              go_ret
              have hM2 : Mine w.heap.size (.slice ad2 ln2 cp2) (asInts (ls k ++ [x])) w2 := by
                have h7 := H2.out
                rw [show [] ++ zs (fun i => (((ls k)[i]?.getD 0 : Nat) : Int)) (ls k).length ++ zs (fun _ => (x : Int)) 1 = asInts (ls k ++ [x]) by rw [zs_asInts]; simp [asInts, zs]] at h7
                exact h7
              exact ⟨rfl, HST.out _ w2 hM2 B2.out⟩
    · go_simp
      refine hK.out _ _ (HCC.out _ HBX.out) (fun hHeld => ?_)
      clear hK K
      refine wpAnyH_ready (rs := [5]) (by kernel_rfl) (by simp) (AllReadyH.cons rfl (fun K hK => ?_) (AllReadyH.nil))
      · go_simp
        refine hK.out _ _ (HCC.out _ HB2.out) (fun hHeld => ?_)
        clear hK K
        refine wpAnyH_ready (rs := [13]) (by kernel_rfl) (by simp) (AllReadyH.cons rfl (fun K hK => ?_) (AllReadyH.nil))
        · refine step_app_ints rfl (.tmp 45) (.tmp 52) rfl w.heap.size (.slice (some ⟨w.heap.size + 1, 0, none⟩) 0 0) [] (by rfl) HM2.out A (ls k).length cap (fun i => ((ls k)[i]?.getD 0 : Nat)) (by rfl) hc2 hc1 (HIN.out.below HB2.out) (by omega) (by simp) HB2.out.size ?_
          intro v1 w1 h1; have H1 := Lib.hid h1.1; have B1 := Lib.hid (HB2.out.trans h1.2.1)
          have HX : Hid (Blk w1 w.heap.size 3 #[.int .i64 x]) := HX2.out.but ((But.refl (fun b => b = w.heap.size + 1) _).grown h1.2.2 (fun q hq => .inl (by cases hq; rfl))) (by simp)
          clear h1
          refine hK.out _ _ (HCC.out _ B1.out) (fun hHeld => ?_)
          clear hK K
          refine wpAnyH_ready (rs := [16]) (by kernel_rfl) (by simp) (AllReadyH.cons rfl (fun K hK => ?_) (AllReadyH.nil))
          · refine step_app_ints rfl (.tmp 53) (.tmp 55) rfl w.heap.size v1 ([] ++ zs (fun i => ((ls k)[i]?.getD 0 : Nat)) (ls k).length) (by rfl) H1.out (some ⟨w.heap.size, 0, none⟩) 1 1 (fun _ => (x : Int)) (by rfl) (fun e => by cases e) (Nat.le_refl _) (fun j hj => ⟨w.heap.size, 0, rfl, HX.out.lt, by rw [show j = 0 by omega]; exact HX.out.cell 0⟩) (by omega) (by rw [List.nil_append, zs_length]; omega) B1.out.size ?_
            intro v2 w2 h2; have H2 := Lib.hid h2.1; have B2 := Lib.hid (B1.out.trans h2.2.1); have hv2 := HVV.out w2 B2.out; have hf2 := HFF.out w2 B2.out; obtain ⟨ad2, ln2, cp2, rfl⟩ : ∃ ad ln cp, v2 = .slice ad ln cp := h2.1.ints.elim fun ad q => q.elim fun cp q => ⟨ad, _, cp, q.1⟩; clear h2
            refine hK.out _ _ (HCC.out _ B2.out) (fun hHeld => ?_)
            clear hK K
            refine wpAnyH_take (i := 17) (v := ?_) rfl (by kernel_rfl) (by kernel_rfl) (by kernel_rfl) (fun _ _ _ h => h) (Or.inl ⟨by rfl, fun W hW => by ((try dsimp only at hW); go_simp <;> with_reducible rfl)⟩) hHeld ?_
            go_simp
            refine wpAnyH_ready (rs := [18]) (by kernel_rfl) (by simp) (AllReadyH.cons rfl (fun K hK => ?_) (AllReadyH.nil))
            · go_simp
              refine hK.out _ _ (HCS.out _ _ B2.out) (fun hHeld => ?_)
              clear hK K
              refine wpAnyH_done (by kernel_rfl) ?_ _
              go_wp2_with fail
              go_ret
              have hM2 : Mine w.heap.size (.slice ad2 ln2 cp2) (asInts (ls k ++ [x])) w2 := by
                have h7 := H2.out
                rw [show [] ++ zs (fun i => (((ls k)[i]?.getD 0 : Nat) : Int)) (ls k).length ++ zs (fun _ => (x : Int)) 1 = asInts (ls k ++ [x]) by rw [zs_asInts]; simp [asInts, zs]] at h7
                exact h7
              exact ⟨rfl, HST.out _ w2 hM2 B2.out⟩
end
end Go.Proofs.Ytlgdeadghmbfmaa
