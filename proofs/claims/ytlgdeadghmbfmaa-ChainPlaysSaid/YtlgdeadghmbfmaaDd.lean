/- The document's rows of layer 7: Remove. -/
import Derived.Test.YtlgdeadghmbfmaaDc
namespace Go.Proofs.Ytlgdeadghmbfmaa
open Go.RowKit

theorem asInts_erase (l : List Nat) {c : Nat} (hc : c < l.length) : zs (fun i => ((l[i]?.getD 0 : Nat) : Int)) c ++ zs (fun i => ((l[i + (c + 1)]?.getD 0 : Nat) : Int)) (l.length - (c + 1)) = asInts (l.eraseIdx c) := by
  rw [List.eraseIdx_eq_take_drop_succ]
  have h1 : asInts (l.take c ++ l.drop (c + 1)) = (asInts l).take c ++ (asInts l).drop (c + 1) := by simp [asInts]
  rw [h1, ← zs_asInts, zs_take _ (Nat.le_of_lt hc), zs_drop]
section
variable {N : Nat → Prop} {rb gL n m : Nat} {ls : Nat → List Nat} {w w' : World}
set_option maxRecDepth 100000 in
set_option maxHeartbeats 8000000 in
theorem dremove_ok (x j : Nat) (h : DrV N rb gL n m ls w) (hN : ∀ b, N b → b < w.heap.size) (hx : x < n) (hL : ∀ a, a < m → (ls a).length ≤ 4096) (hj : j < m) (hm : x ∈ ls j) :
    Calls Try.prog 83 #[.pointer (some ⟨rb, 0, none⟩), .int .i64 x] w fun e w' => ∃ a c : Nat, a < m ∧ c < (ls a).length ∧ (((ls a)[c]?.getD 0 : Nat) : Int) = x ∧ e = .returned (.tuple #[.int .i64 a, .int .i64 0]) ∧ DrV N rb gL n m (updL ls a ((ls a).eraseIdx c)) w' ∧ But (fun b => b = gL) w w' := by
  obtain ⟨c0, c1⟩ := h.cells
  have HD := Lib.hid (din_any x h hL)
  have k2 : (0 : Int) ≤ (x : Int) := by omega
  have k3 : (x : Int) < (n : Int) := by omega
  have H := Lib.hid h
  clear h hx
  go_enter Try.func83, Try.ntmps83
  go_wp2_with fail
  refine HD.out.mono ?_
  rintro e w' ⟨i, c, rfl, hF, rfl⟩
  clear HD
  rcases hF with ⟨_, _, hno⟩ | ⟨a, c, rfl, rfl, ha, hc, hxc⟩
  · exact absurd rfl (hno j hj x hm)
  have hl4 := hL a ha
  obtain ⟨v, hv, A, cap, rfl, hc1, hc2, hIn, hc3⟩ := H.out.row ha
  obtain ⟨bb, off, rfl, hbb, _⟩ := hIn c hc
  have HST : Hid (∀ v2 w2, Mine w.heap.size v2 (asInts ((ls a).eraseIdx c)) w2 → Below w.heap.size w w2 → DrV N rb gL n m (updL ls a ((ls a).eraseIdx c)) (w2.setCell ⟨gL, a, none⟩ v2) ∧ But (fun b => b = gL) w (w2.setCell ⟨gL, a, none⟩ v2)) := fun v2 w2 q1 q2 => H.out.stored hN ha q1 q2
  have HIN := Lib.hid hIn
  have OWN := Lib.hid H.out.own
  have HBL : Hid (∃ S, Blk w gL 27 S) := H.out.rows.elim fun _ q => q.elim fun S q => ⟨S, q.2.1⟩
  have HGL : Hid (gL < w.heap.size) := H.out.rows.elim fun _ q => q.elim fun _ q => q.2.1.lt
  have HNE : Hid (rb ≠ gL) := Ne.symm H.out.ne
  have HFIN : Hid (a < m ∧ c < (ls a).length ∧ (((ls a)[c]?.getD 0 : Nat) : Int) = x) := ⟨ha, hc, hxc⟩
  have a0 : (0 : Int) ≤ (a : Int) := by omega
  have a1 : (a : Int) < (m : Int) := by omega
  have i0 : (0 : Int) ≤ (c : Int) := by omega
  have i1 : (c : Int) ≤ (cap : Int) := by omega
  have i2 : (c : Int) + 1 ≤ ((ls a).length : Int) := by omega
  have i3 : ((ls a).length : Int) ≤ (cap : Int) := by omega
  have i4 : (0 : Int) ≤ (c : Int) + 1 := by omega
  have HV : Hid (∀ W, Below w.heap.size w W → W.cell? ⟨gL, a, none⟩ = some (.slice (some ⟨bb, off, none⟩) (ls a).length cap)) := fun W q => (World.cell?_of_block (w := w) (a := ⟨gL, a, none⟩) (q.block gL HGL.out)).trans hv
  have HFF : Hid (∀ W, Below w.heap.size w W → W.frozen? ⟨gL, a, none⟩ = false) := fun W q => HBL.out.elim fun S c => (c.below q HGL.out).free a
  have HCC : Hid (∀ W, Below w.heap.size w W → W.cell? ⟨rb, 1, none⟩ = some (.slice (some ⟨gL, 0, none⟩) m m)) := fun W q => (OWN.out.below q OWN.out.lt).cell 1
  have HCS : Hid (∀ v W, Below w.heap.size w W → (W.setCell ⟨gL, a, none⟩ v).cell? ⟨rb, 1, none⟩ = some (.slice (some ⟨gL, 0, none⟩) m m)) := fun v W q => ((OWN.out.below q OWN.out.lt).far (p := ⟨gL, a, none⟩) HNE.out v).cell 1
  have HM1 : Hid (Mine w.heap.size (.slice (some ⟨w.heap.size, 0, none⟩) 0 0) [] (w.alloc (.cells #[] 3)).drew) := (mine_lit w).drew
  have HB1 : Hid (Below w.heap.size w (w.alloc (.cells #[] 3)).drew) := ((Below.refl _ _).alloc (Nat.le_refl _) _).drew
  have hvZ := HV.out (w.alloc (.cells #[] 3)) ((Below.refl _ _).alloc (Nat.le_refl _) _)
  have i5 : IntKind.i64.wrap ((c : Int) + 1) = (c : Int) + 1 := IntWalk.i64_in _ (by omega)
  have i6 : ((c : Int) + 1).toNat = c + 1 := by omega
  have HE := Lib.hid (asInts_erase (ls a) hc)
  have HCL : Hid (c < (ls a).length ∧ (ls a).length ≤ cap ∧ (ls a).length ≤ 4096) := ⟨hc, hc1, hl4⟩
  clear hN hL hj hm ha hc hxc hc1 hc2 hc3 hIn hbb hl4 H
  by_cases hne : cap = c + 1
  · have HLE : Hid ((ls a).length = c + 1) := by have := HCL.out; show _ = _; omega
    subst hne
    have i7 : (c : Int) ≤ (c : Int) + 1 := by omega
    go_wp2_with fail
    refine wp_region_held_drew (S := fun W => W.cell? ⟨rb, 1, none⟩ = some (.slice (some ⟨gL, 0, none⟩) m m)) (by kernel_rfl) (HCC.out _ (Below.refl w.heap.size w).drew) (fun hHeld => ?_)
    show wpAnyH _ _ _ _ _ _ _ _ _
    try dsimp only at hHeld
    refine wpAnyH_take (i := 0) (v := ?_) rfl (by kernel_rfl) (by kernel_rfl) (by kernel_rfl) (fun _ _ _ h => h) (Or.inl ⟨by rfl, fun W hW => by ((try dsimp only at hW); go_simp <;> with_reducible rfl)⟩) hHeld ?_
    go_simp
    refine wpAnyH_take (i := 1) (v := ?_) rfl (by kernel_rfl) (by kernel_rfl) (by kernel_rfl) (fun _ _ _ h => h) (Or.inl ⟨by rfl, fun W hW => by ((try dsimp only at hW); go_simp <;> with_reducible rfl)⟩) hHeld ?_
    go_simp
    refine wpAnyH_take (i := 2) (v := ?_) rfl (by kernel_rfl) (by kernel_rfl) (by kernel_rfl) (fun _ _ _ h => h) (Or.inl ⟨by rfl, fun W hW => by ((try dsimp only at hW); go_simp <;> with_reducible rfl)⟩) hHeld ?_
    go_simp
    refine wpAnyH_take (i := 3) (v := ?_) rfl (by kernel_rfl) (by kernel_rfl) (by kernel_rfl) (fun _ _ _ h => h) (Or.inl ⟨by rfl, fun W hW => by ((try dsimp only at hW); go_simp <;> with_reducible rfl)⟩) hHeld ?_
    go_simp
    refine wpAnyH_take (i := 4) (v := ?_) rfl (by kernel_rfl) (by kernel_rfl) (by kernel_rfl) (fun _ _ _ h => h) (Or.inl ⟨by rfl, fun W hW => by ((try dsimp only at hW); go_simp <;> with_reducible rfl)⟩) hHeld ?_
    go_simp
    refine wpAnyH_take (i := 6) (v := ?_) rfl (by kernel_rfl) (by kernel_rfl) (by kernel_rfl) (fun _ _ _ h => h) (Or.inl ⟨by rfl, fun W hW => by ((try dsimp only at hW); go_simp <;> with_reducible rfl)⟩) hHeld ?_
    go_simp
    refine wpAnyH_take (i := 7) (v := ?_) rfl (by kernel_rfl) (by kernel_rfl) (by kernel_rfl) (fun _ _ _ h => h) (Or.inl ⟨by rfl, fun W hW => by ((try dsimp only at hW); go_simp <;> with_reducible rfl)⟩) hHeld ?_
    go_simp
    refine wpAnyH_take (i := 8) (v := ?_) rfl (by kernel_rfl) (by kernel_rfl) (by kernel_rfl) (fun _ _ _ h => h) (Or.inl ⟨by rfl, fun W hW => by ((try dsimp only at hW); go_simp <;> with_reducible rfl)⟩) hHeld ?_
    go_simp
    refine wpAnyH_take (i := 9) (v := ?_) rfl (by kernel_rfl) (by kernel_rfl) (by kernel_rfl) (fun _ _ _ h => h) (Or.inl ⟨by rfl, fun W hW => by ((try dsimp only at hW); go_simp <;> with_reducible rfl)⟩) hHeld ?_
    go_simp
    refine wpAnyH_take (i := 10) (v := ?_) rfl (by kernel_rfl) (by kernel_rfl) (by kernel_rfl) (fun _ _ _ h => h) (Or.inl ⟨by rfl, fun W hW => by ((try dsimp only at hW); go_simp <;> with_reducible rfl)⟩) hHeld ?_
    go_simp
    refine wpAnyH_take (i := 11) (v := ?_) rfl (by kernel_rfl) (by kernel_rfl) (by kernel_rfl) (fun _ _ _ h => h) (Or.inl ⟨by rfl, fun W hW => by ((try dsimp only at hW); go_simp <;> with_reducible rfl)⟩) hHeld ?_
    go_simp
    refine wpAnyH_take (i := 13) (v := ?_) rfl (by kernel_rfl) (by kernel_rfl) (by kernel_rfl) (fun _ _ _ h => h) (Or.inl ⟨by rfl, fun W hW => by ((try dsimp only at hW); go_simp <;> with_reducible rfl)⟩) hHeld ?_
    go_simp
    refine wpAnyH_take (i := 16) (v := ?_) rfl (by kernel_rfl) (by kernel_rfl) (by kernel_rfl) (fun _ _ _ h => h) (Or.inl ⟨by rfl, fun W hW => by ((try dsimp only at hW); go_simp <;> with_reducible rfl)⟩) hHeld ?_
    go_simp
    refine wpAnyH_take (i := 17) (v := ?_) rfl (by kernel_rfl) (by kernel_rfl) (by kernel_rfl) (fun _ _ _ h => h) (Or.inl ⟨by rfl, fun W hW => by ((try dsimp only at hW); go_simp <;> with_reducible rfl)⟩) hHeld ?_
    go_simp
    refine wpAnyH_take (i := 18) (v := ?_) rfl (by kernel_rfl) (by kernel_rfl) (by kernel_rfl) (fun _ _ _ h => h) (Or.inl ⟨by rfl, fun W hW => by ((try dsimp only at hW); go_simp <;> with_reducible rfl)⟩) hHeld ?_
    go_simp
    refine wpAnyH_take (i := 19) (v := ?_) rfl (by kernel_rfl) (by kernel_rfl) (by kernel_rfl) (fun _ _ _ h => h) (Or.inl ⟨by rfl, fun W hW => by ((try dsimp only at hW); go_simp <;> with_reducible rfl)⟩) hHeld ?_
    go_simp
    refine wpAnyH_take (i := 20) (v := ?_) rfl (by kernel_rfl) (by kernel_rfl) (by kernel_rfl) (fun _ _ _ h => h) (Or.inl ⟨by rfl, fun W hW => by ((try dsimp only at hW); go_simp <;> with_reducible rfl)⟩) hHeld ?_
    go_simp
    refine wpAnyH_take (i := 21) (v := ?_) rfl (by kernel_rfl) (by kernel_rfl) (by kernel_rfl) (fun _ _ _ h => h) (Or.inl ⟨by rfl, fun W hW => by ((try dsimp only at hW); go_simp <;> with_reducible rfl)⟩) hHeld ?_
    go_simp
    refine wpAnyH_take (i := 23) (v := ?_) rfl (by kernel_rfl) (by kernel_rfl) (by kernel_rfl) (fun _ _ _ h => h) (Or.inl ⟨by rfl, fun W hW => by ((try dsimp only at hW); go_simp <;> with_reducible rfl)⟩) hHeld ?_
    go_simp
    refine wpAnyH_take (i := 24) (v := ?_) rfl (by kernel_rfl) (by kernel_rfl) (by kernel_rfl) (fun _ _ _ h => h) (Or.inl ⟨by rfl, fun W hW => by ((try dsimp only at hW); go_simp <;> with_reducible rfl)⟩) hHeld ?_
    go_simp
    refine wpAnyH_ready (rs := [5, 12, 22]) (by kernel_rfl) (by simp) (AllReadyH.cons rfl (fun K hK => ?_) (AllReadyH.cons rfl (fun K hK => ?_) (AllReadyH.cons rfl (fun K hK => ?_) (AllReadyH.nil))))
    · go_simp
      refine hK.out _ _ (HCC.out _ HB1.out) (fun hHeld => ?_)
      clear hK K
      refine wpAnyH_ready (rs := [12, 22]) (by kernel_rfl) (by simp) (AllReadyH.cons rfl (fun K hK => ?_) (AllReadyH.cons rfl (fun K hK => ?_) (AllReadyH.nil)))
      · go_simp
        refine hK.out _ _ (HCC.out _ HB1.out) (fun hHeld => ?_)
        clear hK K
        refine wpAnyH_take (i := 14) (v := ?_) rfl (by kernel_rfl) (by kernel_rfl) (by kernel_rfl) (fun _ _ _ h => h) (Or.inl ⟨by rfl, fun W hW => by ((try dsimp only at hW); go_simp <;> with_reducible rfl)⟩) hHeld ?_
        go_simp
        refine wpAnyH_ready (rs := [15, 22]) (by kernel_rfl) (by simp) (AllReadyH.cons rfl (fun K hK => ?_) (AllReadyH.cons rfl (fun K hK => ?_) (AllReadyH.nil)))
        · refine step_app_ints rfl (.tmp 31) (.tmp 40) rfl w.heap.size (.slice (some ⟨w.heap.size, 0, none⟩) 0 0) [] (by rfl) HM1.out (some ⟨bb, off, none⟩) c (c + 1) (fun i => ((ls a)[i]?.getD 0 : Nat)) (by rfl) (fun e => by cases e) (by have := HCL.out; omega) ((HIN.out.below HB1.out).less (by have := HCL.out; omega)) (by have := HCL.out; omega) (by simp) HB1.out.size ?_
          intro v1 w1 h1
          have H1 := Lib.hid h1.1
          have B1 := Lib.hid (HB1.out.trans h1.2.1)
          have hv1 := HV.out w1 B1.out
          clear h1
          refine hK.out _ _ (HCC.out _ B1.out) (fun hHeld => ?_)
          clear hK K
          refine wpAnyH_ready (rs := [22]) (by kernel_rfl) (by simp) (AllReadyH.cons rfl (fun K hK => ?_) (AllReadyH.nil))
          · go_simp
            refine hK.out _ _ (HCC.out _ B1.out) (fun hHeld => ?_)
            clear hK K
            refine wpAnyH_take (i := 25) (v := ?_) rfl (by kernel_rfl) (by kernel_rfl) (by kernel_rfl) (fun _ _ _ h => h) (Or.inl ⟨by rfl, fun W hW => by ((try dsimp only at hW); go_simp <;> with_reducible rfl)⟩) hHeld ?_
            go_simp
            refine wpAnyH_ready (rs := [26]) (by kernel_rfl) (by simp) (AllReadyH.cons rfl (fun K hK => ?_) (AllReadyH.nil))
            · refine step_app_ints rfl (.tmp 41) (.tmp 51) rfl w.heap.size v1 ([] ++ zs (fun i => ((ls a)[i]?.getD 0 : Nat)) c) (by rfl) H1.out (some ⟨bb, off, none⟩) ((ls a).length - (c + 1)) 0 (fun i => ((ls a)[i + (c + 1)]?.getD 0 : Nat)) (by rfl) (fun e => by cases e) (by have := HCL.out; omega) (fun j hj => absurd hj (by have := HLE.out; omega)) (by have := HCL.out; omega) (by rw [List.nil_append, zs_length]; have := HCL.out; omega) B1.out.size ?_
              intro v2 w2 h2
              have H2 := Lib.hid h2.1
              have B2 := Lib.hid (B1.out.trans h2.2.1)
              have hv2 := HV.out w2 B2.out
              have hf2 := HFF.out w2 B2.out
              obtain ⟨ad2, ln2, cp2, rfl⟩ : ∃ ad ln cp, v2 = .slice ad ln cp := h2.1.ints.elim fun ad q => q.elim fun cp q => ⟨ad, _, cp, q.1⟩
              clear h2
              refine hK.out _ _ (HCC.out _ B2.out) (fun hHeld => ?_)
              clear hK K
              refine wpAnyH_take (i := 27) (v := ?_) rfl (by kernel_rfl) (by kernel_rfl) (by kernel_rfl) (fun _ _ _ h => h) (Or.inl ⟨by rfl, fun W hW => by ((try dsimp only at hW); go_simp <;> with_reducible rfl)⟩) hHeld ?_
              go_simp
              refine wpAnyH_ready (rs := [28]) (by kernel_rfl) (by simp) (AllReadyH.cons rfl (fun K hK => ?_) (AllReadyH.nil))
              · go_simp
                refine hK.out _ _ (HCS.out _ _ B2.out) (fun hHeld => ?_)
                clear hK K
                refine wpAnyH_done (by kernel_rfl) ?_ _
                go_wp2_with fail
                go_ret2
                have hM2 : Mine w.heap.size (.slice ad2 ln2 cp2) (asInts ((ls a).eraseIdx c)) w2 := by
                  have h7 := H2.out
                  rw [List.nil_append] at h7
                  have h8 := HE.out
                  rw [h8] at h7
                  exact h7
                exact ⟨a, c, HFIN.out.1, HFIN.out.2.1, HFIN.out.2.2, rfl, HST.out _ w2 hM2 B2.out⟩
        · go_simp
          refine hK.out _ _ (HCC.out _ HB1.out) (fun hHeld => ?_)
          clear hK K
          refine wpAnyH_take (i := 25) (v := ?_) rfl (by kernel_rfl) (by kernel_rfl) (by kernel_rfl) (fun _ _ _ h => h) (Or.inl ⟨by rfl, fun W hW => by ((try dsimp only at hW); go_simp <;> with_reducible rfl)⟩) hHeld ?_
          go_simp
          refine wpAnyH_ready (rs := [15]) (by kernel_rfl) (by simp) (AllReadyH.cons rfl (fun K hK => ?_) (AllReadyH.nil))
          · refine step_app_ints rfl (.tmp 31) (.tmp 40) rfl w.heap.size (.slice (some ⟨w.heap.size, 0, none⟩) 0 0) [] (by rfl) HM1.out (some ⟨bb, off, none⟩) c (c + 1) (fun i => ((ls a)[i]?.getD 0 : Nat)) (by rfl) (fun e => by cases e) (by have := HCL.out; omega) ((HIN.out.below HB1.out).less (by have := HCL.out; omega)) (by have := HCL.out; omega) (by simp) HB1.out.size ?_
            intro v1 w1 h1
            have H1 := Lib.hid h1.1
            have B1 := Lib.hid (HB1.out.trans h1.2.1)
            have hv1 := HV.out w1 B1.out
            clear h1
            refine hK.out _ _ (HCC.out _ B1.out) (fun hHeld => ?_)
            clear hK K
            refine wpAnyH_ready (rs := [26]) (by kernel_rfl) (by simp) (AllReadyH.cons rfl (fun K hK => ?_) (AllReadyH.nil))
            · refine step_app_ints rfl (.tmp 41) (.tmp 51) rfl w.heap.size v1 ([] ++ zs (fun i => ((ls a)[i]?.getD 0 : Nat)) c) (by rfl) H1.out (some ⟨bb, off, none⟩) ((ls a).length - (c + 1)) 0 (fun i => ((ls a)[i + (c + 1)]?.getD 0 : Nat)) (by rfl) (fun e => by cases e) (by have := HCL.out; omega) (fun j hj => absurd hj (by have := HLE.out; omega)) (by have := HCL.out; omega) (by rw [List.nil_append, zs_length]; have := HCL.out; omega) B1.out.size ?_
              intro v2 w2 h2
              have H2 := Lib.hid h2.1
              have B2 := Lib.hid (B1.out.trans h2.2.1)
              have hv2 := HV.out w2 B2.out
              have hf2 := HFF.out w2 B2.out
              obtain ⟨ad2, ln2, cp2, rfl⟩ : ∃ ad ln cp, v2 = .slice ad ln cp := h2.1.ints.elim fun ad q => q.elim fun cp q => ⟨ad, _, cp, q.1⟩
              clear h2
              refine hK.out _ _ (HCC.out _ B2.out) (fun hHeld => ?_)
              clear hK K
              refine wpAnyH_take (i := 27) (v := ?_) rfl (by kernel_rfl) (by kernel_rfl) (by kernel_rfl) (fun _ _ _ h => h) (Or.inl ⟨by rfl, fun W hW => by ((try dsimp only at hW); go_simp <;> with_reducible rfl)⟩) hHeld ?_
              go_simp
              refine wpAnyH_ready (rs := [28]) (by kernel_rfl) (by simp) (AllReadyH.cons rfl (fun K hK => ?_) (AllReadyH.nil))
              · go_simp
                refine hK.out _ _ (HCS.out _ _ B2.out) (fun hHeld => ?_)
                clear hK K
                refine wpAnyH_done (by kernel_rfl) ?_ _
                go_wp2_with fail
                go_ret2
                have hM2 : Mine w.heap.size (.slice ad2 ln2 cp2) (asInts ((ls a).eraseIdx c)) w2 := by
                  have h7 := H2.out
                  rw [List.nil_append] at h7
                  have h8 := HE.out
                  rw [h8] at h7
                  exact h7
                exact ⟨a, c, HFIN.out.1, HFIN.out.2.1, HFIN.out.2.2, rfl, HST.out _ w2 hM2 B2.out⟩
      · go_simp
        refine hK.out _ _ (HCC.out _ HB1.out) (fun hHeld => ?_)
        clear hK K
        refine wpAnyH_take (i := 25) (v := ?_) rfl (by kernel_rfl) (by kernel_rfl) (by kernel_rfl) (fun _ _ _ h => h) (Or.inl ⟨by rfl, fun W hW => by ((try dsimp only at hW); go_simp <;> with_reducible rfl)⟩) hHeld ?_
        go_simp
        refine wpAnyH_ready (rs := [12]) (by kernel_rfl) (by simp) (AllReadyH.cons rfl (fun K hK => ?_) (AllReadyH.nil))
        · go_simp
          refine hK.out _ _ (HCC.out _ HB1.out) (fun hHeld => ?_)
          clear hK K
          refine wpAnyH_take (i := 14) (v := ?_) rfl (by kernel_rfl) (by kernel_rfl) (by kernel_rfl) (fun _ _ _ h => h) (Or.inl ⟨by rfl, fun W hW => by ((try dsimp only at hW); go_simp <;> with_reducible rfl)⟩) hHeld ?_
          go_simp
          refine wpAnyH_ready (rs := [15]) (by kernel_rfl) (by simp) (AllReadyH.cons rfl (fun K hK => ?_) (AllReadyH.nil))
          · refine step_app_ints rfl (.tmp 31) (.tmp 40) rfl w.heap.size (.slice (some ⟨w.heap.size, 0, none⟩) 0 0) [] (by rfl) HM1.out (some ⟨bb, off, none⟩) c (c + 1) (fun i => ((ls a)[i]?.getD 0 : Nat)) (by rfl) (fun e => by cases e) (by have := HCL.out; omega) ((HIN.out.below HB1.out).less (by have := HCL.out; omega)) (by have := HCL.out; omega) (by simp) HB1.out.size ?_
            intro v1 w1 h1
            have H1 := Lib.hid h1.1
            have B1 := Lib.hid (HB1.out.trans h1.2.1)
            have hv1 := HV.out w1 B1.out
            clear h1
            refine hK.out _ _ (HCC.out _ B1.out) (fun hHeld => ?_)
            clear hK K
            refine wpAnyH_ready (rs := [26]) (by kernel_rfl) (by simp) (AllReadyH.cons rfl (fun K hK => ?_) (AllReadyH.nil))
            · refine step_app_ints rfl (.tmp 41) (.tmp 51) rfl w.heap.size v1 ([] ++ zs (fun i => ((ls a)[i]?.getD 0 : Nat)) c) (by rfl) H1.out (some ⟨bb, off, none⟩) ((ls a).length - (c + 1)) 0 (fun i => ((ls a)[i + (c + 1)]?.getD 0 : Nat)) (by rfl) (fun e => by cases e) (by have := HCL.out; omega) (fun j hj => absurd hj (by have := HLE.out; omega)) (by have := HCL.out; omega) (by rw [List.nil_append, zs_length]; have := HCL.out; omega) B1.out.size ?_
              intro v2 w2 h2
              have H2 := Lib.hid h2.1
              have B2 := Lib.hid (B1.out.trans h2.2.1)
              have hv2 := HV.out w2 B2.out
              have hf2 := HFF.out w2 B2.out
              obtain ⟨ad2, ln2, cp2, rfl⟩ : ∃ ad ln cp, v2 = .slice ad ln cp := h2.1.ints.elim fun ad q => q.elim fun cp q => ⟨ad, _, cp, q.1⟩
              clear h2
              refine hK.out _ _ (HCC.out _ B2.out) (fun hHeld => ?_)
              clear hK K
              refine wpAnyH_take (i := 27) (v := ?_) rfl (by kernel_rfl) (by kernel_rfl) (by kernel_rfl) (fun _ _ _ h => h) (Or.inl ⟨by rfl, fun W hW => by ((try dsimp only at hW); go_simp <;> with_reducible rfl)⟩) hHeld ?_
              go_simp
              refine wpAnyH_ready (rs := [28]) (by kernel_rfl) (by simp) (AllReadyH.cons rfl (fun K hK => ?_) (AllReadyH.nil))
              · go_simp
                refine hK.out _ _ (HCS.out _ _ B2.out) (fun hHeld => ?_)
                clear hK K
                refine wpAnyH_done (by kernel_rfl) ?_ _
                go_wp2_with fail
                go_ret2
                have hM2 : Mine w.heap.size (.slice ad2 ln2 cp2) (asInts ((ls a).eraseIdx c)) w2 := by
                  have h7 := H2.out
                  rw [List.nil_append] at h7
                  have h8 := HE.out
                  rw [h8] at h7
                  exact h7
                exact ⟨a, c, HFIN.out.1, HFIN.out.2.1, HFIN.out.2.2, rfl, HST.out _ w2 hM2 B2.out⟩
    · go_simp
      refine hK.out _ _ (HCC.out _ (Below.refl w.heap.size w).drew) (fun hHeld => ?_)
      clear hK K
      refine wpAnyH_take (i := 14) (v := ?_) rfl (by kernel_rfl) (by kernel_rfl) (by kernel_rfl) (fun _ _ _ h => h) (Or.inl ⟨by rfl, fun W hW => by ((try dsimp only at hW); go_simp <;> with_reducible rfl)⟩) hHeld ?_
      go_simp
      refine wpAnyH_ready (rs := [5, 22]) (by kernel_rfl) (by simp) (AllReadyH.cons rfl (fun K hK => ?_) (AllReadyH.cons rfl (fun K hK => ?_) (AllReadyH.nil)))
      · go_simp
        refine hK.out _ _ (HCC.out _ HB1.out) (fun hHeld => ?_)
        clear hK K
        refine wpAnyH_ready (rs := [15, 22]) (by kernel_rfl) (by simp) (AllReadyH.cons rfl (fun K hK => ?_) (AllReadyH.cons rfl (fun K hK => ?_) (AllReadyH.nil)))
        · refine step_app_ints rfl (.tmp 31) (.tmp 40) rfl w.heap.size (.slice (some ⟨w.heap.size, 0, none⟩) 0 0) [] (by rfl) HM1.out (some ⟨bb, off, none⟩) c (c + 1) (fun i => ((ls a)[i]?.getD 0 : Nat)) (by rfl) (fun e => by cases e) (by have := HCL.out; omega) ((HIN.out.below HB1.out).less (by have := HCL.out; omega)) (by have := HCL.out; omega) (by simp) HB1.out.size ?_
          intro v1 w1 h1
          have H1 := Lib.hid h1.1
          have B1 := Lib.hid (HB1.out.trans h1.2.1)
          have hv1 := HV.out w1 B1.out
          clear h1
          refine hK.out _ _ (HCC.out _ B1.out) (fun hHeld => ?_)
          clear hK K
          refine wpAnyH_ready (rs := [22]) (by kernel_rfl) (by simp) (AllReadyH.cons rfl (fun K hK => ?_) (AllReadyH.nil))
          · go_simp
            refine hK.out _ _ (HCC.out _ B1.out) (fun hHeld => ?_)
            clear hK K
            refine wpAnyH_take (i := 25) (v := ?_) rfl (by kernel_rfl) (by kernel_rfl) (by kernel_rfl) (fun _ _ _ h => h) (Or.inl ⟨by rfl, fun W hW => by ((try dsimp only at hW); go_simp <;> with_reducible rfl)⟩) hHeld ?_
            go_simp
            refine wpAnyH_ready (rs := [26]) (by kernel_rfl) (by simp) (AllReadyH.cons rfl (fun K hK => ?_) (AllReadyH.nil))
            · refine step_app_ints rfl (.tmp 41) (.tmp 51) rfl w.heap.size v1 ([] ++ zs (fun i => ((ls a)[i]?.getD 0 : Nat)) c) (by rfl) H1.out (some ⟨bb, off, none⟩) ((ls a).length - (c + 1)) 0 (fun i => ((ls a)[i + (c + 1)]?.getD 0 : Nat)) (by rfl) (fun e => by cases e) (by have := HCL.out; omega) (fun j hj => absurd hj (by have := HLE.out; omega)) (by have := HCL.out; omega) (by rw [List.nil_append, zs_length]; have := HCL.out; omega) B1.out.size ?_
              intro v2 w2 h2
              have H2 := Lib.hid h2.1
              have B2 := Lib.hid (B1.out.trans h2.2.1)
              have hv2 := HV.out w2 B2.out
              have hf2 := HFF.out w2 B2.out
              obtain ⟨ad2, ln2, cp2, rfl⟩ : ∃ ad ln cp, v2 = .slice ad ln cp := h2.1.ints.elim fun ad q => q.elim fun cp q => ⟨ad, _, cp, q.1⟩
              clear h2
              refine hK.out _ _ (HCC.out _ B2.out) (fun hHeld => ?_)
              clear hK K
              refine wpAnyH_take (i := 27) (v := ?_) rfl (by kernel_rfl) (by kernel_rfl) (by kernel_rfl) (fun _ _ _ h => h) (Or.inl ⟨by rfl, fun W hW => by ((try dsimp only at hW); go_simp <;> with_reducible rfl)⟩) hHeld ?_
              go_simp
              refine wpAnyH_ready (rs := [28]) (by kernel_rfl) (by simp) (AllReadyH.cons rfl (fun K hK => ?_) (AllReadyH.nil))
              · go_simp
                refine hK.out _ _ (HCS.out _ _ B2.out) (fun hHeld => ?_)
                clear hK K
                refine wpAnyH_done (by kernel_rfl) ?_ _
                go_wp2_with fail
                go_ret2
                have hM2 : Mine w.heap.size (.slice ad2 ln2 cp2) (asInts ((ls a).eraseIdx c)) w2 := by
                  have h7 := H2.out
                  rw [List.nil_append] at h7
                  have h8 := HE.out
                  rw [h8] at h7
                  exact h7
                exact ⟨a, c, HFIN.out.1, HFIN.out.2.1, HFIN.out.2.2, rfl, HST.out _ w2 hM2 B2.out⟩
        · go_simp
          refine hK.out _ _ (HCC.out _ HB1.out) (fun hHeld => ?_)
          clear hK K
          refine wpAnyH_take (i := 25) (v := ?_) rfl (by kernel_rfl) (by kernel_rfl) (by kernel_rfl) (fun _ _ _ h => h) (Or.inl ⟨by rfl, fun W hW => by ((try dsimp only at hW); go_simp <;> with_reducible rfl)⟩) hHeld ?_
          go_simp
          refine wpAnyH_ready (rs := [15]) (by kernel_rfl) (by simp) (AllReadyH.cons rfl (fun K hK => ?_) (AllReadyH.nil))
          · refine step_app_ints rfl (.tmp 31) (.tmp 40) rfl w.heap.size (.slice (some ⟨w.heap.size, 0, none⟩) 0 0) [] (by rfl) HM1.out (some ⟨bb, off, none⟩) c (c + 1) (fun i => ((ls a)[i]?.getD 0 : Nat)) (by rfl) (fun e => by cases e) (by have := HCL.out; omega) ((HIN.out.below HB1.out).less (by have := HCL.out; omega)) (by have := HCL.out; omega) (by simp) HB1.out.size ?_
            intro v1 w1 h1
            have H1 := Lib.hid h1.1
            have B1 := Lib.hid (HB1.out.trans h1.2.1)
            have hv1 := HV.out w1 B1.out
            clear h1
            refine hK.out _ _ (HCC.out _ B1.out) (fun hHeld => ?_)
            clear hK K
            refine wpAnyH_ready (rs := [26]) (by kernel_rfl) (by simp) (AllReadyH.cons rfl (fun K hK => ?_) (AllReadyH.nil))
            · refine step_app_ints rfl (.tmp 41) (.tmp 51) rfl w.heap.size v1 ([] ++ zs (fun i => ((ls a)[i]?.getD 0 : Nat)) c) (by rfl) H1.out (some ⟨bb, off, none⟩) ((ls a).length - (c + 1)) 0 (fun i => ((ls a)[i + (c + 1)]?.getD 0 : Nat)) (by rfl) (fun e => by cases e) (by have := HCL.out; omega) (fun j hj => absurd hj (by have := HLE.out; omega)) (by have := HCL.out; omega) (by rw [List.nil_append, zs_length]; have := HCL.out; omega) B1.out.size ?_
              intro v2 w2 h2
              have H2 := Lib.hid h2.1
              have B2 := Lib.hid (B1.out.trans h2.2.1)
              have hv2 := HV.out w2 B2.out
              have hf2 := HFF.out w2 B2.out
              obtain ⟨ad2, ln2, cp2, rfl⟩ : ∃ ad ln cp, v2 = .slice ad ln cp := h2.1.ints.elim fun ad q => q.elim fun cp q => ⟨ad, _, cp, q.1⟩
              clear h2
              refine hK.out _ _ (HCC.out _ B2.out) (fun hHeld => ?_)
              clear hK K
              refine wpAnyH_take (i := 27) (v := ?_) rfl (by kernel_rfl) (by kernel_rfl) (by kernel_rfl) (fun _ _ _ h => h) (Or.inl ⟨by rfl, fun W hW => by ((try dsimp only at hW); go_simp <;> with_reducible rfl)⟩) hHeld ?_
              go_simp
              refine wpAnyH_ready (rs := [28]) (by kernel_rfl) (by simp) (AllReadyH.cons rfl (fun K hK => ?_) (AllReadyH.nil))
              · go_simp
                refine hK.out _ _ (HCS.out _ _ B2.out) (fun hHeld => ?_)
                clear hK K
                refine wpAnyH_done (by kernel_rfl) ?_ _
                go_wp2_with fail
                go_ret2
                have hM2 : Mine w.heap.size (.slice ad2 ln2 cp2) (asInts ((ls a).eraseIdx c)) w2 := by
                  have h7 := H2.out
                  rw [List.nil_append] at h7
                  have h8 := HE.out
                  rw [h8] at h7
                  exact h7
                exact ⟨a, c, HFIN.out.1, HFIN.out.2.1, HFIN.out.2.2, rfl, HST.out _ w2 hM2 B2.out⟩
      · go_simp
        refine hK.out _ _ (HCC.out _ (Below.refl w.heap.size w).drew) (fun hHeld => ?_)
        clear hK K
        refine wpAnyH_take (i := 25) (v := ?_) rfl (by kernel_rfl) (by kernel_rfl) (by kernel_rfl) (fun _ _ _ h => h) (Or.inl ⟨by rfl, fun W hW => by ((try dsimp only at hW); go_simp <;> with_reducible rfl)⟩) hHeld ?_
        go_simp
        refine wpAnyH_ready (rs := [5]) (by kernel_rfl) (by simp) (AllReadyH.cons rfl (fun K hK => ?_) (AllReadyH.nil))
        · go_simp
          refine hK.out _ _ (HCC.out _ HB1.out) (fun hHeld => ?_)
          clear hK K
          refine wpAnyH_ready (rs := [15]) (by kernel_rfl) (by simp) (AllReadyH.cons rfl (fun K hK => ?_) (AllReadyH.nil))
          · refine step_app_ints rfl (.tmp 31) (.tmp 40) rfl w.heap.size (.slice (some ⟨w.heap.size, 0, none⟩) 0 0) [] (by rfl) HM1.out (some ⟨bb, off, none⟩) c (c + 1) (fun i => ((ls a)[i]?.getD 0 : Nat)) (by rfl) (fun e => by cases e) (by have := HCL.out; omega) ((HIN.out.below HB1.out).less (by have := HCL.out; omega)) (by have := HCL.out; omega) (by simp) HB1.out.size ?_
            intro v1 w1 h1
            have H1 := Lib.hid h1.1
            have B1 := Lib.hid (HB1.out.trans h1.2.1)
            have hv1 := HV.out w1 B1.out
            clear h1
            refine hK.out _ _ (HCC.out _ B1.out) (fun hHeld => ?_)
            clear hK K
            refine wpAnyH_ready (rs := [26]) (by kernel_rfl) (by simp) (AllReadyH.cons rfl (fun K hK => ?_) (AllReadyH.nil))
            · refine step_app_ints rfl (.tmp 41) (.tmp 51) rfl w.heap.size v1 ([] ++ zs (fun i => ((ls a)[i]?.getD 0 : Nat)) c) (by rfl) H1.out (some ⟨bb, off, none⟩) ((ls a).length - (c + 1)) 0 (fun i => ((ls a)[i + (c + 1)]?.getD 0 : Nat)) (by rfl) (fun e => by cases e) (by have := HCL.out; omega) (fun j hj => absurd hj (by have := HLE.out; omega)) (by have := HCL.out; omega) (by rw [List.nil_append, zs_length]; have := HCL.out; omega) B1.out.size ?_
              intro v2 w2 h2
              have H2 := Lib.hid h2.1
              have B2 := Lib.hid (B1.out.trans h2.2.1)
              have hv2 := HV.out w2 B2.out
              have hf2 := HFF.out w2 B2.out
              obtain ⟨ad2, ln2, cp2, rfl⟩ : ∃ ad ln cp, v2 = .slice ad ln cp := h2.1.ints.elim fun ad q => q.elim fun cp q => ⟨ad, _, cp, q.1⟩
              clear h2
              refine hK.out _ _ (HCC.out _ B2.out) (fun hHeld => ?_)
              clear hK K
              refine wpAnyH_take (i := 27) (v := ?_) rfl (by kernel_rfl) (by kernel_rfl) (by kernel_rfl) (fun _ _ _ h => h) (Or.inl ⟨by rfl, fun W hW => by ((try dsimp only at hW); go_simp <;> with_reducible rfl)⟩) hHeld ?_
              go_simp
              refine wpAnyH_ready (rs := [28]) (by kernel_rfl) (by simp) (AllReadyH.cons rfl (fun K hK => ?_) (AllReadyH.nil))
              · go_simp
                refine hK.out _ _ (HCS.out _ _ B2.out) (fun hHeld => ?_)
                clear hK K
                refine wpAnyH_done (by kernel_rfl) ?_ _
                go_wp2_with fail
                go_ret2
                have hM2 : Mine w.heap.size (.slice ad2 ln2 cp2) (asInts ((ls a).eraseIdx c)) w2 := by
                  have h7 := H2.out
                  rw [List.nil_append] at h7
                  have h8 := HE.out
                  rw [h8] at h7
                  exact h7
                exact ⟨a, c, HFIN.out.1, HFIN.out.2.1, HFIN.out.2.2, rfl, HST.out _ w2 hM2 B2.out⟩
    · go_simp
      refine hK.out _ _ (HCC.out _ (Below.refl w.heap.size w).drew) (fun hHeld => ?_)
      clear hK K
      refine wpAnyH_take (i := 25) (v := ?_) rfl (by kernel_rfl) (by kernel_rfl) (by kernel_rfl) (fun _ _ _ h => h) (Or.inl ⟨by rfl, fun W hW => by ((try dsimp only at hW); go_simp <;> with_reducible rfl)⟩) hHeld ?_
      go_simp
      refine wpAnyH_ready (rs := [5, 12]) (by kernel_rfl) (by simp) (AllReadyH.cons rfl (fun K hK => ?_) (AllReadyH.cons rfl (fun K hK => ?_) (AllReadyH.nil)))
      · go_simp
        refine hK.out _ _ (HCC.out _ HB1.out) (fun hHeld => ?_)
        clear hK K
        refine wpAnyH_ready (rs := [12]) (by kernel_rfl) (by simp) (AllReadyH.cons rfl (fun K hK => ?_) (AllReadyH.nil))
        · go_simp
          refine hK.out _ _ (HCC.out _ HB1.out) (fun hHeld => ?_)
          clear hK K
          refine wpAnyH_take (i := 14) (v := ?_) rfl (by kernel_rfl) (by kernel_rfl) (by kernel_rfl) (fun _ _ _ h => h) (Or.inl ⟨by rfl, fun W hW => by ((try dsimp only at hW); go_simp <;> with_reducible rfl)⟩) hHeld ?_
          go_simp
          refine wpAnyH_ready (rs := [15]) (by kernel_rfl) (by simp) (AllReadyH.cons rfl (fun K hK => ?_) (AllReadyH.nil))
          · refine step_app_ints rfl (.tmp 31) (.tmp 40) rfl w.heap.size (.slice (some ⟨w.heap.size, 0, none⟩) 0 0) [] (by rfl) HM1.out (some ⟨bb, off, none⟩) c (c + 1) (fun i => ((ls a)[i]?.getD 0 : Nat)) (by rfl) (fun e => by cases e) (by have := HCL.out; omega) ((HIN.out.below HB1.out).less (by have := HCL.out; omega)) (by have := HCL.out; omega) (by simp) HB1.out.size ?_
            intro v1 w1 h1
            have H1 := Lib.hid h1.1
            have B1 := Lib.hid (HB1.out.trans h1.2.1)
            have hv1 := HV.out w1 B1.out
            clear h1
            refine hK.out _ _ (HCC.out _ B1.out) (fun hHeld => ?_)
            clear hK K
            refine wpAnyH_ready (rs := [26]) (by kernel_rfl) (by simp) (AllReadyH.cons rfl (fun K hK => ?_) (AllReadyH.nil))
            · refine step_app_ints rfl (.tmp 41) (.tmp 51) rfl w.heap.size v1 ([] ++ zs (fun i => ((ls a)[i]?.getD 0 : Nat)) c) (by rfl) H1.out (some ⟨bb, off, none⟩) ((ls a).length - (c + 1)) 0 (fun i => ((ls a)[i + (c + 1)]?.getD 0 : Nat)) (by rfl) (fun e => by cases e) (by have := HCL.out; omega) (fun j hj => absurd hj (by have := HLE.out; omega)) (by have := HCL.out; omega) (by rw [List.nil_append, zs_length]; have := HCL.out; omega) B1.out.size ?_
              intro v2 w2 h2
              have H2 := Lib.hid h2.1
              have B2 := Lib.hid (B1.out.trans h2.2.1)
              have hv2 := HV.out w2 B2.out
              have hf2 := HFF.out w2 B2.out
              obtain ⟨ad2, ln2, cp2, rfl⟩ : ∃ ad ln cp, v2 = .slice ad ln cp := h2.1.ints.elim fun ad q => q.elim fun cp q => ⟨ad, _, cp, q.1⟩
              clear h2
              refine hK.out _ _ (HCC.out _ B2.out) (fun hHeld => ?_)
              clear hK K
              refine wpAnyH_take (i := 27) (v := ?_) rfl (by kernel_rfl) (by kernel_rfl) (by kernel_rfl) (fun _ _ _ h => h) (Or.inl ⟨by rfl, fun W hW => by ((try dsimp only at hW); go_simp <;> with_reducible rfl)⟩) hHeld ?_
              go_simp
              refine wpAnyH_ready (rs := [28]) (by kernel_rfl) (by simp) (AllReadyH.cons rfl (fun K hK => ?_) (AllReadyH.nil))
              · go_simp
                refine hK.out _ _ (HCS.out _ _ B2.out) (fun hHeld => ?_)
                clear hK K
                refine wpAnyH_done (by kernel_rfl) ?_ _
                go_wp2_with fail
                go_ret2
                have hM2 : Mine w.heap.size (.slice ad2 ln2 cp2) (asInts ((ls a).eraseIdx c)) w2 := by
                  have h7 := H2.out
                  rw [List.nil_append] at h7
                  have h8 := HE.out
                  rw [h8] at h7
                  exact h7
                exact ⟨a, c, HFIN.out.1, HFIN.out.2.1, HFIN.out.2.2, rfl, HST.out _ w2 hM2 B2.out⟩
      · go_simp
        refine hK.out _ _ (HCC.out _ (Below.refl w.heap.size w).drew) (fun hHeld => ?_)
        clear hK K
        refine wpAnyH_take (i := 14) (v := ?_) rfl (by kernel_rfl) (by kernel_rfl) (by kernel_rfl) (fun _ _ _ h => h) (Or.inl ⟨by rfl, fun W hW => by ((try dsimp only at hW); go_simp <;> with_reducible rfl)⟩) hHeld ?_
        go_simp
        refine wpAnyH_ready (rs := [5]) (by kernel_rfl) (by simp) (AllReadyH.cons rfl (fun K hK => ?_) (AllReadyH.nil))
        · go_simp
          refine hK.out _ _ (HCC.out _ HB1.out) (fun hHeld => ?_)
          clear hK K
          refine wpAnyH_ready (rs := [15]) (by kernel_rfl) (by simp) (AllReadyH.cons rfl (fun K hK => ?_) (AllReadyH.nil))
          · refine step_app_ints rfl (.tmp 31) (.tmp 40) rfl w.heap.size (.slice (some ⟨w.heap.size, 0, none⟩) 0 0) [] (by rfl) HM1.out (some ⟨bb, off, none⟩) c (c + 1) (fun i => ((ls a)[i]?.getD 0 : Nat)) (by rfl) (fun e => by cases e) (by have := HCL.out; omega) ((HIN.out.below HB1.out).less (by have := HCL.out; omega)) (by have := HCL.out; omega) (by simp) HB1.out.size ?_
            intro v1 w1 h1
            have H1 := Lib.hid h1.1
            have B1 := Lib.hid (HB1.out.trans h1.2.1)
            have hv1 := HV.out w1 B1.out
            clear h1
            refine hK.out _ _ (HCC.out _ B1.out) (fun hHeld => ?_)
            clear hK K
            refine wpAnyH_ready (rs := [26]) (by kernel_rfl) (by simp) (AllReadyH.cons rfl (fun K hK => ?_) (AllReadyH.nil))
            · refine step_app_ints rfl (.tmp 41) (.tmp 51) rfl w.heap.size v1 ([] ++ zs (fun i => ((ls a)[i]?.getD 0 : Nat)) c) (by rfl) H1.out (some ⟨bb, off, none⟩) ((ls a).length - (c + 1)) 0 (fun i => ((ls a)[i + (c + 1)]?.getD 0 : Nat)) (by rfl) (fun e => by cases e) (by have := HCL.out; omega) (fun j hj => absurd hj (by have := HLE.out; omega)) (by have := HCL.out; omega) (by rw [List.nil_append, zs_length]; have := HCL.out; omega) B1.out.size ?_
              intro v2 w2 h2
              have H2 := Lib.hid h2.1
              have B2 := Lib.hid (B1.out.trans h2.2.1)
              have hv2 := HV.out w2 B2.out
              have hf2 := HFF.out w2 B2.out
              obtain ⟨ad2, ln2, cp2, rfl⟩ : ∃ ad ln cp, v2 = .slice ad ln cp := h2.1.ints.elim fun ad q => q.elim fun cp q => ⟨ad, _, cp, q.1⟩
              clear h2
              refine hK.out _ _ (HCC.out _ B2.out) (fun hHeld => ?_)
              clear hK K
              refine wpAnyH_take (i := 27) (v := ?_) rfl (by kernel_rfl) (by kernel_rfl) (by kernel_rfl) (fun _ _ _ h => h) (Or.inl ⟨by rfl, fun W hW => by ((try dsimp only at hW); go_simp <;> with_reducible rfl)⟩) hHeld ?_
              go_simp
              refine wpAnyH_ready (rs := [28]) (by kernel_rfl) (by simp) (AllReadyH.cons rfl (fun K hK => ?_) (AllReadyH.nil))
              · go_simp
                refine hK.out _ _ (HCS.out _ _ B2.out) (fun hHeld => ?_)
                clear hK K
                refine wpAnyH_done (by kernel_rfl) ?_ _
                go_wp2_with fail
                go_ret2
                have hM2 : Mine w.heap.size (.slice ad2 ln2 cp2) (asInts ((ls a).eraseIdx c)) w2 := by
                  have h7 := H2.out
                  rw [List.nil_append] at h7
                  have h8 := HE.out
                  rw [h8] at h7
                  exact h7
                exact ⟨a, c, HFIN.out.1, HFIN.out.2.1, HFIN.out.2.2, rfl, HST.out _ w2 hM2 B2.out⟩
  · have hne2 : ¬ cap - (c + 1) = 0 := by have := HCL.out; omega
    go_wp2_with fail
    refine wp_region_held_drew (S := fun W => W.cell? ⟨rb, 1, none⟩ = some (.slice (some ⟨gL, 0, none⟩) m m)) (by kernel_rfl) (HCC.out _ (Below.refl w.heap.size w).drew) (fun hHeld => ?_)
    show wpAnyH _ _ _ _ _ _ _ _ _
    try dsimp only at hHeld
    refine wpAnyH_take (i := 0) (v := ?_) rfl (by kernel_rfl) (by kernel_rfl) (by kernel_rfl) (fun _ _ _ h => h) (Or.inl ⟨by rfl, fun W hW => by ((try dsimp only at hW); go_simp <;> with_reducible rfl)⟩) hHeld ?_
    go_simp
    refine wpAnyH_take (i := 1) (v := ?_) rfl (by kernel_rfl) (by kernel_rfl) (by kernel_rfl) (fun _ _ _ h => h) (Or.inl ⟨by rfl, fun W hW => by ((try dsimp only at hW); go_simp <;> with_reducible rfl)⟩) hHeld ?_
    go_simp
    refine wpAnyH_take (i := 2) (v := ?_) rfl (by kernel_rfl) (by kernel_rfl) (by kernel_rfl) (fun _ _ _ h => h) (Or.inl ⟨by rfl, fun W hW => by ((try dsimp only at hW); go_simp <;> with_reducible rfl)⟩) hHeld ?_
    go_simp
    refine wpAnyH_take (i := 3) (v := ?_) rfl (by kernel_rfl) (by kernel_rfl) (by kernel_rfl) (fun _ _ _ h => h) (Or.inl ⟨by rfl, fun W hW => by ((try dsimp only at hW); go_simp <;> with_reducible rfl)⟩) hHeld ?_
    go_simp
    refine wpAnyH_take (i := 4) (v := ?_) rfl (by kernel_rfl) (by kernel_rfl) (by kernel_rfl) (fun _ _ _ h => h) (Or.inl ⟨by rfl, fun W hW => by ((try dsimp only at hW); go_simp <;> with_reducible rfl)⟩) hHeld ?_
    go_simp
    refine wpAnyH_take (i := 6) (v := ?_) rfl (by kernel_rfl) (by kernel_rfl) (by kernel_rfl) (fun _ _ _ h => h) (Or.inl ⟨by rfl, fun W hW => by ((try dsimp only at hW); go_simp <;> with_reducible rfl)⟩) hHeld ?_
    go_simp
    refine wpAnyH_take (i := 7) (v := ?_) rfl (by kernel_rfl) (by kernel_rfl) (by kernel_rfl) (fun _ _ _ h => h) (Or.inl ⟨by rfl, fun W hW => by ((try dsimp only at hW); go_simp <;> with_reducible rfl)⟩) hHeld ?_
    go_simp
    refine wpAnyH_take (i := 8) (v := ?_) rfl (by kernel_rfl) (by kernel_rfl) (by kernel_rfl) (fun _ _ _ h => h) (Or.inl ⟨by rfl, fun W hW => by ((try dsimp only at hW); go_simp <;> with_reducible rfl)⟩) hHeld ?_
    go_simp
    refine wpAnyH_take (i := 9) (v := ?_) rfl (by kernel_rfl) (by kernel_rfl) (by kernel_rfl) (fun _ _ _ h => h) (Or.inl ⟨by rfl, fun W hW => by ((try dsimp only at hW); go_simp <;> with_reducible rfl)⟩) hHeld ?_
    go_simp
    refine wpAnyH_take (i := 10) (v := ?_) rfl (by kernel_rfl) (by kernel_rfl) (by kernel_rfl) (fun _ _ _ h => h) (Or.inl ⟨by rfl, fun W hW => by ((try dsimp only at hW); go_simp <;> with_reducible rfl)⟩) hHeld ?_
    go_simp
    refine wpAnyH_take (i := 11) (v := ?_) rfl (by kernel_rfl) (by kernel_rfl) (by kernel_rfl) (fun _ _ _ h => h) (Or.inl ⟨by rfl, fun W hW => by ((try dsimp only at hW); go_simp <;> with_reducible rfl)⟩) hHeld ?_
    go_simp
    refine wpAnyH_take (i := 13) (v := ?_) rfl (by kernel_rfl) (by kernel_rfl) (by kernel_rfl) (fun _ _ _ h => h) (Or.inl ⟨by rfl, fun W hW => by ((try dsimp only at hW); go_simp <;> with_reducible rfl)⟩) hHeld ?_
    go_simp
    refine wpAnyH_take (i := 16) (v := ?_) rfl (by kernel_rfl) (by kernel_rfl) (by kernel_rfl) (fun _ _ _ h => h) (Or.inl ⟨by rfl, fun W hW => by ((try dsimp only at hW); go_simp <;> with_reducible rfl)⟩) hHeld ?_
    go_simp
    refine wpAnyH_take (i := 17) (v := ?_) rfl (by kernel_rfl) (by kernel_rfl) (by kernel_rfl) (fun _ _ _ h => h) (Or.inl ⟨by rfl, fun W hW => by ((try dsimp only at hW); go_simp <;> with_reducible rfl)⟩) hHeld ?_
    go_simp
    refine wpAnyH_take (i := 18) (v := ?_) rfl (by kernel_rfl) (by kernel_rfl) (by kernel_rfl) (fun _ _ _ h => h) (Or.inl ⟨by rfl, fun W hW => by ((try dsimp only at hW); go_simp <;> with_reducible rfl)⟩) hHeld ?_
    go_simp
    refine wpAnyH_take (i := 19) (v := ?_) rfl (by kernel_rfl) (by kernel_rfl) (by kernel_rfl) (fun _ _ _ h => h) (Or.inl ⟨by rfl, fun W hW => by ((try dsimp only at hW); go_simp <;> with_reducible rfl)⟩) hHeld ?_
    go_simp
    refine wpAnyH_take (i := 20) (v := ?_) rfl (by kernel_rfl) (by kernel_rfl) (by kernel_rfl) (fun _ _ _ h => h) (Or.inl ⟨by rfl, fun W hW => by ((try dsimp only at hW); go_simp <;> with_reducible rfl)⟩) hHeld ?_
    go_simp
    refine wpAnyH_take (i := 21) (v := ?_) rfl (by kernel_rfl) (by kernel_rfl) (by kernel_rfl) (fun _ _ _ h => h) (Or.inl ⟨by rfl, fun W hW => by ((try dsimp only at hW); go_simp <;> with_reducible rfl)⟩) hHeld ?_
    go_simp
    refine wpAnyH_take (i := 23) (v := ?_) rfl (by kernel_rfl) (by kernel_rfl) (by kernel_rfl) (fun _ _ _ h => h) (Or.inl ⟨by rfl, fun W hW => by ((try dsimp only at hW); go_simp <;> with_reducible rfl)⟩) hHeld ?_
    go_simp
    refine wpAnyH_take (i := 24) (v := ?_) rfl (by kernel_rfl) (by kernel_rfl) (by kernel_rfl) (fun _ _ _ h => h) (Or.inl ⟨by rfl, fun W hW => by ((try dsimp only at hW); go_simp <;> with_reducible rfl)⟩) hHeld ?_
    go_simp
    refine wpAnyH_ready (rs := [5, 12, 22]) (by kernel_rfl) (by simp) (AllReadyH.cons rfl (fun K hK => ?_) (AllReadyH.cons rfl (fun K hK => ?_) (AllReadyH.cons rfl (fun K hK => ?_) (AllReadyH.nil))))
    · go_simp
      refine hK.out _ _ (HCC.out _ HB1.out) (fun hHeld => ?_)
      clear hK K
      refine wpAnyH_ready (rs := [12, 22]) (by kernel_rfl) (by simp) (AllReadyH.cons rfl (fun K hK => ?_) (AllReadyH.cons rfl (fun K hK => ?_) (AllReadyH.nil)))
      · go_simp
        refine hK.out _ _ (HCC.out _ HB1.out) (fun hHeld => ?_)
        clear hK K
        refine wpAnyH_take (i := 14) (v := ?_) rfl (by kernel_rfl) (by kernel_rfl) (by kernel_rfl) (fun _ _ _ h => h) (Or.inl ⟨by rfl, fun W hW => by ((try dsimp only at hW); go_simp <;> with_reducible rfl)⟩) hHeld ?_
        go_simp
        refine wpAnyH_ready (rs := [15, 22]) (by kernel_rfl) (by simp) (AllReadyH.cons rfl (fun K hK => ?_) (AllReadyH.cons rfl (fun K hK => ?_) (AllReadyH.nil)))
        · refine step_app_ints rfl (.tmp 31) (.tmp 40) rfl w.heap.size (.slice (some ⟨w.heap.size, 0, none⟩) 0 0) [] (by rfl) HM1.out (some ⟨bb, off, none⟩) c cap (fun i => ((ls a)[i]?.getD 0 : Nat)) (by rfl) (fun e => by cases e) (by have := HCL.out; omega) ((HIN.out.below HB1.out).less (by have := HCL.out; omega)) (by have := HCL.out; omega) (by simp) HB1.out.size ?_
          intro v1 w1 h1
          have H1 := Lib.hid h1.1
          have B1 := Lib.hid (HB1.out.trans h1.2.1)
          have hv1 := HV.out w1 B1.out
          clear h1
          refine hK.out _ _ (HCC.out _ B1.out) (fun hHeld => ?_)
          clear hK K
          refine wpAnyH_ready (rs := [22]) (by kernel_rfl) (by simp) (AllReadyH.cons rfl (fun K hK => ?_) (AllReadyH.nil))
          · go_simp
            refine hK.out _ _ (HCC.out _ B1.out) (fun hHeld => ?_)
            clear hK K
            refine wpAnyH_take (i := 25) (v := ?_) rfl (by kernel_rfl) (by kernel_rfl) (by kernel_rfl) (fun _ _ _ h => h) (Or.inl ⟨by rfl, fun W hW => by ((try dsimp only at hW); go_simp <;> with_reducible rfl)⟩) hHeld ?_
            go_simp
            refine wpAnyH_ready (rs := [26]) (by kernel_rfl) (by simp) (AllReadyH.cons rfl (fun K hK => ?_) (AllReadyH.nil))
            · refine step_app_ints rfl (.tmp 41) (.tmp 51) rfl w.heap.size v1 ([] ++ zs (fun i => ((ls a)[i]?.getD 0 : Nat)) c) (by rfl) H1.out (some ⟨bb, off + (c + 1), none⟩) ((ls a).length - (c + 1)) (cap - (c + 1)) (fun i => ((ls a)[i + (c + 1)]?.getD 0 : Nat)) (by rfl) (fun e => by cases e) (by have := HCL.out; omega) ((HIN.out.below B1.out).drop (c + 1)) (by have := HCL.out; omega) (by rw [List.nil_append, zs_length]; have := HCL.out; omega) B1.out.size ?_
              intro v2 w2 h2
              have H2 := Lib.hid h2.1
              have B2 := Lib.hid (B1.out.trans h2.2.1)
              have hv2 := HV.out w2 B2.out
              have hf2 := HFF.out w2 B2.out
              obtain ⟨ad2, ln2, cp2, rfl⟩ : ∃ ad ln cp, v2 = .slice ad ln cp := h2.1.ints.elim fun ad q => q.elim fun cp q => ⟨ad, _, cp, q.1⟩
              clear h2
              refine hK.out _ _ (HCC.out _ B2.out) (fun hHeld => ?_)
              clear hK K
              refine wpAnyH_take (i := 27) (v := ?_) rfl (by kernel_rfl) (by kernel_rfl) (by kernel_rfl) (fun _ _ _ h => h) (Or.inl ⟨by rfl, fun W hW => by ((try dsimp only at hW); go_simp <;> with_reducible rfl)⟩) hHeld ?_
              go_simp
              refine wpAnyH_ready (rs := [28]) (by kernel_rfl) (by simp) (AllReadyH.cons rfl (fun K hK => ?_) (AllReadyH.nil))
              · go_simp
                refine hK.out _ _ (HCS.out _ _ B2.out) (fun hHeld => ?_)
                clear hK K
                refine wpAnyH_done (by kernel_rfl) ?_ _
                go_wp2_with fail
                go_ret2
                have hM2 : Mine w.heap.size (.slice ad2 ln2 cp2) (asInts ((ls a).eraseIdx c)) w2 := by
                  have h7 := H2.out
                  rw [List.nil_append] at h7
                  have h8 := HE.out
                  rw [h8] at h7
                  exact h7
                exact ⟨a, c, HFIN.out.1, HFIN.out.2.1, HFIN.out.2.2, rfl, HST.out _ w2 hM2 B2.out⟩
        · go_simp
          refine hK.out _ _ (HCC.out _ HB1.out) (fun hHeld => ?_)
          clear hK K
          refine wpAnyH_take (i := 25) (v := ?_) rfl (by kernel_rfl) (by kernel_rfl) (by kernel_rfl) (fun _ _ _ h => h) (Or.inl ⟨by rfl, fun W hW => by ((try dsimp only at hW); go_simp <;> with_reducible rfl)⟩) hHeld ?_
          go_simp
          refine wpAnyH_ready (rs := [15]) (by kernel_rfl) (by simp) (AllReadyH.cons rfl (fun K hK => ?_) (AllReadyH.nil))
          · refine step_app_ints rfl (.tmp 31) (.tmp 40) rfl w.heap.size (.slice (some ⟨w.heap.size, 0, none⟩) 0 0) [] (by rfl) HM1.out (some ⟨bb, off, none⟩) c cap (fun i => ((ls a)[i]?.getD 0 : Nat)) (by rfl) (fun e => by cases e) (by have := HCL.out; omega) ((HIN.out.below HB1.out).less (by have := HCL.out; omega)) (by have := HCL.out; omega) (by simp) HB1.out.size ?_
            intro v1 w1 h1
            have H1 := Lib.hid h1.1
            have B1 := Lib.hid (HB1.out.trans h1.2.1)
            have hv1 := HV.out w1 B1.out
            clear h1
            refine hK.out _ _ (HCC.out _ B1.out) (fun hHeld => ?_)
            clear hK K
            refine wpAnyH_ready (rs := [26]) (by kernel_rfl) (by simp) (AllReadyH.cons rfl (fun K hK => ?_) (AllReadyH.nil))
            · refine step_app_ints rfl (.tmp 41) (.tmp 51) rfl w.heap.size v1 ([] ++ zs (fun i => ((ls a)[i]?.getD 0 : Nat)) c) (by rfl) H1.out (some ⟨bb, off + (c + 1), none⟩) ((ls a).length - (c + 1)) (cap - (c + 1)) (fun i => ((ls a)[i + (c + 1)]?.getD 0 : Nat)) (by rfl) (fun e => by cases e) (by have := HCL.out; omega) ((HIN.out.below B1.out).drop (c + 1)) (by have := HCL.out; omega) (by rw [List.nil_append, zs_length]; have := HCL.out; omega) B1.out.size ?_
              intro v2 w2 h2
              have H2 := Lib.hid h2.1
              have B2 := Lib.hid (B1.out.trans h2.2.1)
              have hv2 := HV.out w2 B2.out
              have hf2 := HFF.out w2 B2.out
              obtain ⟨ad2, ln2, cp2, rfl⟩ : ∃ ad ln cp, v2 = .slice ad ln cp := h2.1.ints.elim fun ad q => q.elim fun cp q => ⟨ad, _, cp, q.1⟩
              clear h2
              refine hK.out _ _ (HCC.out _ B2.out) (fun hHeld => ?_)
              clear hK K
              refine wpAnyH_take (i := 27) (v := ?_) rfl (by kernel_rfl) (by kernel_rfl) (by kernel_rfl) (fun _ _ _ h => h) (Or.inl ⟨by rfl, fun W hW => by ((try dsimp only at hW); go_simp <;> with_reducible rfl)⟩) hHeld ?_
              go_simp
              refine wpAnyH_ready (rs := [28]) (by kernel_rfl) (by simp) (AllReadyH.cons rfl (fun K hK => ?_) (AllReadyH.nil))
              · go_simp
                refine hK.out _ _ (HCS.out _ _ B2.out) (fun hHeld => ?_)
                clear hK K
                refine wpAnyH_done (by kernel_rfl) ?_ _
                go_wp2_with fail
                go_ret2
                have hM2 : Mine w.heap.size (.slice ad2 ln2 cp2) (asInts ((ls a).eraseIdx c)) w2 := by
                  have h7 := H2.out
                  rw [List.nil_append] at h7
                  have h8 := HE.out
                  rw [h8] at h7
                  exact h7
                exact ⟨a, c, HFIN.out.1, HFIN.out.2.1, HFIN.out.2.2, rfl, HST.out _ w2 hM2 B2.out⟩
      · go_simp
        refine hK.out _ _ (HCC.out _ HB1.out) (fun hHeld => ?_)
        clear hK K
        refine wpAnyH_take (i := 25) (v := ?_) rfl (by kernel_rfl) (by kernel_rfl) (by kernel_rfl) (fun _ _ _ h => h) (Or.inl ⟨by rfl, fun W hW => by ((try dsimp only at hW); go_simp <;> with_reducible rfl)⟩) hHeld ?_
        go_simp
        refine wpAnyH_ready (rs := [12]) (by kernel_rfl) (by simp) (AllReadyH.cons rfl (fun K hK => ?_) (AllReadyH.nil))
        · go_simp
          refine hK.out _ _ (HCC.out _ HB1.out) (fun hHeld => ?_)
          clear hK K
          refine wpAnyH_take (i := 14) (v := ?_) rfl (by kernel_rfl) (by kernel_rfl) (by kernel_rfl) (fun _ _ _ h => h) (Or.inl ⟨by rfl, fun W hW => by ((try dsimp only at hW); go_simp <;> with_reducible rfl)⟩) hHeld ?_
          go_simp
          refine wpAnyH_ready (rs := [15]) (by kernel_rfl) (by simp) (AllReadyH.cons rfl (fun K hK => ?_) (AllReadyH.nil))
          · refine step_app_ints rfl (.tmp 31) (.tmp 40) rfl w.heap.size (.slice (some ⟨w.heap.size, 0, none⟩) 0 0) [] (by rfl) HM1.out (some ⟨bb, off, none⟩) c cap (fun i => ((ls a)[i]?.getD 0 : Nat)) (by rfl) (fun e => by cases e) (by have := HCL.out; omega) ((HIN.out.below HB1.out).less (by have := HCL.out; omega)) (by have := HCL.out; omega) (by simp) HB1.out.size ?_
            intro v1 w1 h1
            have H1 := Lib.hid h1.1
            have B1 := Lib.hid (HB1.out.trans h1.2.1)
            have hv1 := HV.out w1 B1.out
            clear h1
            refine hK.out _ _ (HCC.out _ B1.out) (fun hHeld => ?_)
            clear hK K
            refine wpAnyH_ready (rs := [26]) (by kernel_rfl) (by simp) (AllReadyH.cons rfl (fun K hK => ?_) (AllReadyH.nil))
            · refine step_app_ints rfl (.tmp 41) (.tmp 51) rfl w.heap.size v1 ([] ++ zs (fun i => ((ls a)[i]?.getD 0 : Nat)) c) (by rfl) H1.out (some ⟨bb, off + (c + 1), none⟩) ((ls a).length - (c + 1)) (cap - (c + 1)) (fun i => ((ls a)[i + (c + 1)]?.getD 0 : Nat)) (by rfl) (fun e => by cases e) (by have := HCL.out; omega) ((HIN.out.below B1.out).drop (c + 1)) (by have := HCL.out; omega) (by rw [List.nil_append, zs_length]; have := HCL.out; omega) B1.out.size ?_
              intro v2 w2 h2
              have H2 := Lib.hid h2.1
              have B2 := Lib.hid (B1.out.trans h2.2.1)
              have hv2 := HV.out w2 B2.out
              have hf2 := HFF.out w2 B2.out
              obtain ⟨ad2, ln2, cp2, rfl⟩ : ∃ ad ln cp, v2 = .slice ad ln cp := h2.1.ints.elim fun ad q => q.elim fun cp q => ⟨ad, _, cp, q.1⟩
              clear h2
              refine hK.out _ _ (HCC.out _ B2.out) (fun hHeld => ?_)
              clear hK K
              refine wpAnyH_take (i := 27) (v := ?_) rfl (by kernel_rfl) (by kernel_rfl) (by kernel_rfl) (fun _ _ _ h => h) (Or.inl ⟨by rfl, fun W hW => by ((try dsimp only at hW); go_simp <;> with_reducible rfl)⟩) hHeld ?_
              go_simp
              refine wpAnyH_ready (rs := [28]) (by kernel_rfl) (by simp) (AllReadyH.cons rfl (fun K hK => ?_) (AllReadyH.nil))
              · go_simp
                refine hK.out _ _ (HCS.out _ _ B2.out) (fun hHeld => ?_)
                clear hK K
                refine wpAnyH_done (by kernel_rfl) ?_ _
                go_wp2_with fail
                go_ret2
                have hM2 : Mine w.heap.size (.slice ad2 ln2 cp2) (asInts ((ls a).eraseIdx c)) w2 := by
                  have h7 := H2.out
                  rw [List.nil_append] at h7
                  have h8 := HE.out
                  rw [h8] at h7
                  exact h7
                exact ⟨a, c, HFIN.out.1, HFIN.out.2.1, HFIN.out.2.2, rfl, HST.out _ w2 hM2 B2.out⟩
    · go_simp
      refine hK.out _ _ (HCC.out _ (Below.refl w.heap.size w).drew) (fun hHeld => ?_)
      clear hK K
      refine wpAnyH_take (i := 14) (v := ?_) rfl (by kernel_rfl) (by kernel_rfl) (by kernel_rfl) (fun _ _ _ h => h) (Or.inl ⟨by rfl, fun W hW => by ((try dsimp only at hW); go_simp <;> with_reducible rfl)⟩) hHeld ?_
      go_simp
      refine wpAnyH_ready (rs := [5, 22]) (by kernel_rfl) (by simp) (AllReadyH.cons rfl (fun K hK => ?_) (AllReadyH.cons rfl (fun K hK => ?_) (AllReadyH.nil)))
      · go_simp
        refine hK.out _ _ (HCC.out _ HB1.out) (fun hHeld => ?_)
        clear hK K
        refine wpAnyH_ready (rs := [15, 22]) (by kernel_rfl) (by simp) (AllReadyH.cons rfl (fun K hK => ?_) (AllReadyH.cons rfl (fun K hK => ?_) (AllReadyH.nil)))
        · refine step_app_ints rfl (.tmp 31) (.tmp 40) rfl w.heap.size (.slice (some ⟨w.heap.size, 0, none⟩) 0 0) [] (by rfl) HM1.out (some ⟨bb, off, none⟩) c cap (fun i => ((ls a)[i]?.getD 0 : Nat)) (by rfl) (fun e => by cases e) (by have := HCL.out; omega) ((HIN.out.below HB1.out).less (by have := HCL.out; omega)) (by have := HCL.out; omega) (by simp) HB1.out.size ?_
          intro v1 w1 h1
          have H1 := Lib.hid h1.1
          have B1 := Lib.hid (HB1.out.trans h1.2.1)
          have hv1 := HV.out w1 B1.out
          clear h1
          refine hK.out _ _ (HCC.out _ B1.out) (fun hHeld => ?_)
          clear hK K
          refine wpAnyH_ready (rs := [22]) (by kernel_rfl) (by simp) (AllReadyH.cons rfl (fun K hK => ?_) (AllReadyH.nil))
          · go_simp
            refine hK.out _ _ (HCC.out _ B1.out) (fun hHeld => ?_)
            clear hK K
            refine wpAnyH_take (i := 25) (v := ?_) rfl (by kernel_rfl) (by kernel_rfl) (by kernel_rfl) (fun _ _ _ h => h) (Or.inl ⟨by rfl, fun W hW => by ((try dsimp only at hW); go_simp <;> with_reducible rfl)⟩) hHeld ?_
            go_simp
            refine wpAnyH_ready (rs := [26]) (by kernel_rfl) (by simp) (AllReadyH.cons rfl (fun K hK => ?_) (AllReadyH.nil))
            · refine step_app_ints rfl (.tmp 41) (.tmp 51) rfl w.heap.size v1 ([] ++ zs (fun i => ((ls a)[i]?.getD 0 : Nat)) c) (by rfl) H1.out (some ⟨bb, off + (c + 1), none⟩) ((ls a).length - (c + 1)) (cap - (c + 1)) (fun i => ((ls a)[i + (c + 1)]?.getD 0 : Nat)) (by rfl) (fun e => by cases e) (by have := HCL.out; omega) ((HIN.out.below B1.out).drop (c + 1)) (by have := HCL.out; omega) (by rw [List.nil_append, zs_length]; have := HCL.out; omega) B1.out.size ?_
              intro v2 w2 h2
              have H2 := Lib.hid h2.1
              have B2 := Lib.hid (B1.out.trans h2.2.1)
              have hv2 := HV.out w2 B2.out
              have hf2 := HFF.out w2 B2.out
              obtain ⟨ad2, ln2, cp2, rfl⟩ : ∃ ad ln cp, v2 = .slice ad ln cp := h2.1.ints.elim fun ad q => q.elim fun cp q => ⟨ad, _, cp, q.1⟩
              clear h2
              refine hK.out _ _ (HCC.out _ B2.out) (fun hHeld => ?_)
              clear hK K
              refine wpAnyH_take (i := 27) (v := ?_) rfl (by kernel_rfl) (by kernel_rfl) (by kernel_rfl) (fun _ _ _ h => h) (Or.inl ⟨by rfl, fun W hW => by ((try dsimp only at hW); go_simp <;> with_reducible rfl)⟩) hHeld ?_
              go_simp
              refine wpAnyH_ready (rs := [28]) (by kernel_rfl) (by simp) (AllReadyH.cons rfl (fun K hK => ?_) (AllReadyH.nil))
              · go_simp
                refine hK.out _ _ (HCS.out _ _ B2.out) (fun hHeld => ?_)
                clear hK K
                refine wpAnyH_done (by kernel_rfl) ?_ _
                go_wp2_with fail
                go_ret2
                have hM2 : Mine w.heap.size (.slice ad2 ln2 cp2) (asInts ((ls a).eraseIdx c)) w2 := by
                  have h7 := H2.out
                  rw [List.nil_append] at h7
                  have h8 := HE.out
                  rw [h8] at h7
                  exact h7
                exact ⟨a, c, HFIN.out.1, HFIN.out.2.1, HFIN.out.2.2, rfl, HST.out _ w2 hM2 B2.out⟩
        · go_simp
          refine hK.out _ _ (HCC.out _ HB1.out) (fun hHeld => ?_)
          clear hK K
          refine wpAnyH_take (i := 25) (v := ?_) rfl (by kernel_rfl) (by kernel_rfl) (by kernel_rfl) (fun _ _ _ h => h) (Or.inl ⟨by rfl, fun W hW => by ((try dsimp only at hW); go_simp <;> with_reducible rfl)⟩) hHeld ?_
          go_simp
          refine wpAnyH_ready (rs := [15]) (by kernel_rfl) (by simp) (AllReadyH.cons rfl (fun K hK => ?_) (AllReadyH.nil))
          · refine step_app_ints rfl (.tmp 31) (.tmp 40) rfl w.heap.size (.slice (some ⟨w.heap.size, 0, none⟩) 0 0) [] (by rfl) HM1.out (some ⟨bb, off, none⟩) c cap (fun i => ((ls a)[i]?.getD 0 : Nat)) (by rfl) (fun e => by cases e) (by have := HCL.out; omega) ((HIN.out.below HB1.out).less (by have := HCL.out; omega)) (by have := HCL.out; omega) (by simp) HB1.out.size ?_
            intro v1 w1 h1
            have H1 := Lib.hid h1.1
            have B1 := Lib.hid (HB1.out.trans h1.2.1)
            have hv1 := HV.out w1 B1.out
            clear h1
            refine hK.out _ _ (HCC.out _ B1.out) (fun hHeld => ?_)
            clear hK K
            refine wpAnyH_ready (rs := [26]) (by kernel_rfl) (by simp) (AllReadyH.cons rfl (fun K hK => ?_) (AllReadyH.nil))
            · refine step_app_ints rfl (.tmp 41) (.tmp 51) rfl w.heap.size v1 ([] ++ zs (fun i => ((ls a)[i]?.getD 0 : Nat)) c) (by rfl) H1.out (some ⟨bb, off + (c + 1), none⟩) ((ls a).length - (c + 1)) (cap - (c + 1)) (fun i => ((ls a)[i + (c + 1)]?.getD 0 : Nat)) (by rfl) (fun e => by cases e) (by have := HCL.out; omega) ((HIN.out.below B1.out).drop (c + 1)) (by have := HCL.out; omega) (by rw [List.nil_append, zs_length]; have := HCL.out; omega) B1.out.size ?_
              intro v2 w2 h2
              have H2 := Lib.hid h2.1
              have B2 := Lib.hid (B1.out.trans h2.2.1)
              have hv2 := HV.out w2 B2.out
              have hf2 := HFF.out w2 B2.out
              obtain ⟨ad2, ln2, cp2, rfl⟩ : ∃ ad ln cp, v2 = .slice ad ln cp := h2.1.ints.elim fun ad q => q.elim fun cp q => ⟨ad, _, cp, q.1⟩
              clear h2
              refine hK.out _ _ (HCC.out _ B2.out) (fun hHeld => ?_)
              clear hK K
              refine wpAnyH_take (i := 27) (v := ?_) rfl (by kernel_rfl) (by kernel_rfl) (by kernel_rfl) (fun _ _ _ h => h) (Or.inl ⟨by rfl, fun W hW => by ((try dsimp only at hW); go_simp <;> with_reducible rfl)⟩) hHeld ?_
              go_simp
              refine wpAnyH_ready (rs := [28]) (by kernel_rfl) (by simp) (AllReadyH.cons rfl (fun K hK => ?_) (AllReadyH.nil))
              · go_simp
                refine hK.out _ _ (HCS.out _ _ B2.out) (fun hHeld => ?_)
                clear hK K
                refine wpAnyH_done (by kernel_rfl) ?_ _
                go_wp2_with fail
                go_ret2
                have hM2 : Mine w.heap.size (.slice ad2 ln2 cp2) (asInts ((ls a).eraseIdx c)) w2 := by
                  have h7 := H2.out
                  rw [List.nil_append] at h7
                  have h8 := HE.out
                  rw [h8] at h7
                  exact h7
                exact ⟨a, c, HFIN.out.1, HFIN.out.2.1, HFIN.out.2.2, rfl, HST.out _ w2 hM2 B2.out⟩
      · go_simp
        refine hK.out _ _ (HCC.out _ (Below.refl w.heap.size w).drew) (fun hHeld => ?_)
        clear hK K
        refine wpAnyH_take (i := 25) (v := ?_) rfl (by kernel_rfl) (by kernel_rfl) (by kernel_rfl) (fun _ _ _ h => h) (Or.inl ⟨by rfl, fun W hW => by ((try dsimp only at hW); go_simp <;> with_reducible rfl)⟩) hHeld ?_
        go_simp
        refine wpAnyH_ready (rs := [5]) (by kernel_rfl) (by simp) (AllReadyH.cons rfl (fun K hK => ?_) (AllReadyH.nil))
        · go_simp
          refine hK.out _ _ (HCC.out _ HB1.out) (fun hHeld => ?_)
          clear hK K
          refine wpAnyH_ready (rs := [15]) (by kernel_rfl) (by simp) (AllReadyH.cons rfl (fun K hK => ?_) (AllReadyH.nil))
          · refine step_app_ints rfl (.tmp 31) (.tmp 40) rfl w.heap.size (.slice (some ⟨w.heap.size, 0, none⟩) 0 0) [] (by rfl) HM1.out (some ⟨bb, off, none⟩) c cap (fun i => ((ls a)[i]?.getD 0 : Nat)) (by rfl) (fun e => by cases e) (by have := HCL.out; omega) ((HIN.out.below HB1.out).less (by have := HCL.out; omega)) (by have := HCL.out; omega) (by simp) HB1.out.size ?_
            intro v1 w1 h1
            have H1 := Lib.hid h1.1
            have B1 := Lib.hid (HB1.out.trans h1.2.1)
            have hv1 := HV.out w1 B1.out
            clear h1
            refine hK.out _ _ (HCC.out _ B1.out) (fun hHeld => ?_)
            clear hK K
            refine wpAnyH_ready (rs := [26]) (by kernel_rfl) (by simp) (AllReadyH.cons rfl (fun K hK => ?_) (AllReadyH.nil))
            · refine step_app_ints rfl (.tmp 41) (.tmp 51) rfl w.heap.size v1 ([] ++ zs (fun i => ((ls a)[i]?.getD 0 : Nat)) c) (by rfl) H1.out (some ⟨bb, off + (c + 1), none⟩) ((ls a).length - (c + 1)) (cap - (c + 1)) (fun i => ((ls a)[i + (c + 1)]?.getD 0 : Nat)) (by rfl) (fun e => by cases e) (by have := HCL.out; omega) ((HIN.out.below B1.out).drop (c + 1)) (by have := HCL.out; omega) (by rw [List.nil_append, zs_length]; have := HCL.out; omega) B1.out.size ?_
              intro v2 w2 h2
              have H2 := Lib.hid h2.1
              have B2 := Lib.hid (B1.out.trans h2.2.1)
              have hv2 := HV.out w2 B2.out
              have hf2 := HFF.out w2 B2.out
              obtain ⟨ad2, ln2, cp2, rfl⟩ : ∃ ad ln cp, v2 = .slice ad ln cp := h2.1.ints.elim fun ad q => q.elim fun cp q => ⟨ad, _, cp, q.1⟩
              clear h2
              refine hK.out _ _ (HCC.out _ B2.out) (fun hHeld => ?_)
              clear hK K
              refine wpAnyH_take (i := 27) (v := ?_) rfl (by kernel_rfl) (by kernel_rfl) (by kernel_rfl) (fun _ _ _ h => h) (Or.inl ⟨by rfl, fun W hW => by ((try dsimp only at hW); go_simp <;> with_reducible rfl)⟩) hHeld ?_
              go_simp
              refine wpAnyH_ready (rs := [28]) (by kernel_rfl) (by simp) (AllReadyH.cons rfl (fun K hK => ?_) (AllReadyH.nil))
              · go_simp
                refine hK.out _ _ (HCS.out _ _ B2.out) (fun hHeld => ?_)
                clear hK K
                refine wpAnyH_done (by kernel_rfl) ?_ _
                go_wp2_with fail
                go_ret2
                have hM2 : Mine w.heap.size (.slice ad2 ln2 cp2) (asInts ((ls a).eraseIdx c)) w2 := by
                  have h7 := H2.out
                  rw [List.nil_append] at h7
                  have h8 := HE.out
                  rw [h8] at h7
                  exact h7
                exact ⟨a, c, HFIN.out.1, HFIN.out.2.1, HFIN.out.2.2, rfl, HST.out _ w2 hM2 B2.out⟩
    · go_simp
      refine hK.out _ _ (HCC.out _ (Below.refl w.heap.size w).drew) (fun hHeld => ?_)
      clear hK K
      refine wpAnyH_take (i := 25) (v := ?_) rfl (by kernel_rfl) (by kernel_rfl) (by kernel_rfl) (fun _ _ _ h => h) (Or.inl ⟨by rfl, fun W hW => by ((try dsimp only at hW); go_simp <;> with_reducible rfl)⟩) hHeld ?_
      go_simp
      refine wpAnyH_ready (rs := [5, 12]) (by kernel_rfl) (by simp) (AllReadyH.cons rfl (fun K hK => ?_) (AllReadyH.cons rfl (fun K hK => ?_) (AllReadyH.nil)))
      · go_simp
        refine hK.out _ _ (HCC.out _ HB1.out) (fun hHeld => ?_)
        clear hK K
        refine wpAnyH_ready (rs := [12]) (by kernel_rfl) (by simp) (AllReadyH.cons rfl (fun K hK => ?_) (AllReadyH.nil))
        · go_simp
          refine hK.out _ _ (HCC.out _ HB1.out) (fun hHeld => ?_)
          clear hK K
          refine wpAnyH_take (i := 14) (v := ?_) rfl (by kernel_rfl) (by kernel_rfl) (by kernel_rfl) (fun _ _ _ h => h) (Or.inl ⟨by rfl, fun W hW => by ((try dsimp only at hW); go_simp <;> with_reducible rfl)⟩) hHeld ?_
          go_simp
          refine wpAnyH_ready (rs := [15]) (by kernel_rfl) (by simp) (AllReadyH.cons rfl (fun K hK => ?_) (AllReadyH.nil))
          · refine step_app_ints rfl (.tmp 31) (.tmp 40) rfl w.heap.size (.slice (some ⟨w.heap.size, 0, none⟩) 0 0) [] (by rfl) HM1.out (some ⟨bb, off, none⟩) c cap (fun i => ((ls a)[i]?.getD 0 : Nat)) (by rfl) (fun e => by cases e) (by have := HCL.out; omega) ((HIN.out.below HB1.out).less (by have := HCL.out; omega)) (by have := HCL.out; omega) (by simp) HB1.out.size ?_
            intro v1 w1 h1
            have H1 := Lib.hid h1.1
            have B1 := Lib.hid (HB1.out.trans h1.2.1)
            have hv1 := HV.out w1 B1.out
            clear h1
            refine hK.out _ _ (HCC.out _ B1.out) (fun hHeld => ?_)
            clear hK K
            refine wpAnyH_ready (rs := [26]) (by kernel_rfl) (by simp) (AllReadyH.cons rfl (fun K hK => ?_) (AllReadyH.nil))
            · refine step_app_ints rfl (.tmp 41) (.tmp 51) rfl w.heap.size v1 ([] ++ zs (fun i => ((ls a)[i]?.getD 0 : Nat)) c) (by rfl) H1.out (some ⟨bb, off + (c + 1), none⟩) ((ls a).length - (c + 1)) (cap - (c + 1)) (fun i => ((ls a)[i + (c + 1)]?.getD 0 : Nat)) (by rfl) (fun e => by cases e) (by have := HCL.out; omega) ((HIN.out.below B1.out).drop (c + 1)) (by have := HCL.out; omega) (by rw [List.nil_append, zs_length]; have := HCL.out; omega) B1.out.size ?_
              intro v2 w2 h2
              have H2 := Lib.hid h2.1
              have B2 := Lib.hid (B1.out.trans h2.2.1)
              have hv2 := HV.out w2 B2.out
              have hf2 := HFF.out w2 B2.out
              obtain ⟨ad2, ln2, cp2, rfl⟩ : ∃ ad ln cp, v2 = .slice ad ln cp := h2.1.ints.elim fun ad q => q.elim fun cp q => ⟨ad, _, cp, q.1⟩
              clear h2
              refine hK.out _ _ (HCC.out _ B2.out) (fun hHeld => ?_)
              clear hK K
              refine wpAnyH_take (i := 27) (v := ?_) rfl (by kernel_rfl) (by kernel_rfl) (by kernel_rfl) (fun _ _ _ h => h) (Or.inl ⟨by rfl, fun W hW => by ((try dsimp only at hW); go_simp <;> with_reducible rfl)⟩) hHeld ?_
              go_simp
              refine wpAnyH_ready (rs := [28]) (by kernel_rfl) (by simp) (AllReadyH.cons rfl (fun K hK => ?_) (AllReadyH.nil))
              · go_simp
                refine hK.out _ _ (HCS.out _ _ B2.out) (fun hHeld => ?_)
                clear hK K
                refine wpAnyH_done (by kernel_rfl) ?_ _
                go_wp2_with fail
                go_ret2
                have hM2 : Mine w.heap.size (.slice ad2 ln2 cp2) (asInts ((ls a).eraseIdx c)) w2 := by
                  have h7 := H2.out
                  rw [List.nil_append] at h7
                  have h8 := HE.out
                  rw [h8] at h7
                  exact h7
                exact ⟨a, c, HFIN.out.1, HFIN.out.2.1, HFIN.out.2.2, rfl, HST.out _ w2 hM2 B2.out⟩
      · go_simp
        refine hK.out _ _ (HCC.out _ (Below.refl w.heap.size w).drew) (fun hHeld => ?_)
        clear hK K
        refine wpAnyH_take (i := 14) (v := ?_) rfl (by kernel_rfl) (by kernel_rfl) (by kernel_rfl) (fun _ _ _ h => h) (Or.inl ⟨by rfl, fun W hW => by ((try dsimp only at hW); go_simp <;> with_reducible rfl)⟩) hHeld ?_
        go_simp
        refine wpAnyH_ready (rs := [5]) (by kernel_rfl) (by simp) (AllReadyH.cons rfl (fun K hK => ?_) (AllReadyH.nil))
        · go_simp
          refine hK.out _ _ (HCC.out _ HB1.out) (fun hHeld => ?_)
          clear hK K
          refine wpAnyH_ready (rs := [15]) (by kernel_rfl) (by simp) (AllReadyH.cons rfl (fun K hK => ?_) (AllReadyH.nil))
          · refine step_app_ints rfl (.tmp 31) (.tmp 40) rfl w.heap.size (.slice (some ⟨w.heap.size, 0, none⟩) 0 0) [] (by rfl) HM1.out (some ⟨bb, off, none⟩) c cap (fun i => ((ls a)[i]?.getD 0 : Nat)) (by rfl) (fun e => by cases e) (by have := HCL.out; omega) ((HIN.out.below HB1.out).less (by have := HCL.out; omega)) (by have := HCL.out; omega) (by simp) HB1.out.size ?_
            intro v1 w1 h1
            have H1 := Lib.hid h1.1
            have B1 := Lib.hid (HB1.out.trans h1.2.1)
            have hv1 := HV.out w1 B1.out
            clear h1
            refine hK.out _ _ (HCC.out _ B1.out) (fun hHeld => ?_)
            clear hK K
            refine wpAnyH_ready (rs := [26]) (by kernel_rfl) (by simp) (AllReadyH.cons rfl (fun K hK => ?_) (AllReadyH.nil))
            · refine step_app_ints rfl (.tmp 41) (.tmp 51) rfl w.heap.size v1 ([] ++ zs (fun i => ((ls a)[i]?.getD 0 : Nat)) c) (by rfl) H1.out (some ⟨bb, off + (c + 1), none⟩) ((ls a).length - (c + 1)) (cap - (c + 1)) (fun i => ((ls a)[i + (c + 1)]?.getD 0 : Nat)) (by rfl) (fun e => by cases e) (by have := HCL.out; omega) ((HIN.out.below B1.out).drop (c + 1)) (by have := HCL.out; omega) (by rw [List.nil_append, zs_length]; have := HCL.out; omega) B1.out.size ?_
              intro v2 w2 h2
              have H2 := Lib.hid h2.1
              have B2 := Lib.hid (B1.out.trans h2.2.1)
              have hv2 := HV.out w2 B2.out
              have hf2 := HFF.out w2 B2.out
              obtain ⟨ad2, ln2, cp2, rfl⟩ : ∃ ad ln cp, v2 = .slice ad ln cp := h2.1.ints.elim fun ad q => q.elim fun cp q => ⟨ad, _, cp, q.1⟩
              clear h2
              refine hK.out _ _ (HCC.out _ B2.out) (fun hHeld => ?_)
              clear hK K
              refine wpAnyH_take (i := 27) (v := ?_) rfl (by kernel_rfl) (by kernel_rfl) (by kernel_rfl) (fun _ _ _ h => h) (Or.inl ⟨by rfl, fun W hW => by ((try dsimp only at hW); go_simp <;> with_reducible rfl)⟩) hHeld ?_
              go_simp
              refine wpAnyH_ready (rs := [28]) (by kernel_rfl) (by simp) (AllReadyH.cons rfl (fun K hK => ?_) (AllReadyH.nil))
              · go_simp
                refine hK.out _ _ (HCS.out _ _ B2.out) (fun hHeld => ?_)
                clear hK K
                refine wpAnyH_done (by kernel_rfl) ?_ _
                go_wp2_with fail
                go_ret2
                have hM2 : Mine w.heap.size (.slice ad2 ln2 cp2) (asInts ((ls a).eraseIdx c)) w2 := by
                  have h7 := H2.out
                  rw [List.nil_append] at h7
                  have h8 := HE.out
                  rw [h8] at h7
                  exact h7
                exact ⟨a, c, HFIN.out.1, HFIN.out.2.1, HFIN.out.2.2, rfl, HST.out _ w2 hM2 B2.out⟩
end
end Go.Proofs.Ytlgdeadghmbfmaa
