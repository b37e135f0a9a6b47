/- The document's table: its Add (layer 12): printed by gen_vd.py. -/
import Derived.Test.YtdlncbndhljhfaaVc
import Derived.Test.YtdlncbndhljhfaaTd
import Derived.BigQuiet
namespace Go.Proofs.Ytdlncbndhljhfaa
open Go.RowKit

section
variable {tb most : Nat} {vL vW : Value} {ts : List (List Value)} {ws : List (Nat × Nat)} {w w' : World}
theorem flat_one : ∀ ts : List (List Value), (∀ x ∈ ts, OkT x) → ∀ u ∈ ts.flatten, u.oneCell' = true
  | [], _, u, hu => by simp at hu
  | x :: r, h, u, hu => by
    rw [List.flatten_cons, List.mem_append] at hu
    rcases hu with hu | hu
    · exact (h x (by simp)).one u hu
    · exact flat_one r (fun y hy => h y (by simp [hy])) u hu
set_option maxRecDepth 100000 in
set_option maxHeartbeats 20000000 in
theorem dadd_ok (cs : List Value) (ho : OkT cs) (hm : mayT cs = true) (h : TabR tb vL vW most ts ws w) (hlt : ts.length < most) (hmo : most ≤ 256) :
    Calls Try.prog 48 #[.pointer (some ⟨tb, 0, none⟩), .agg cs.toArray] w fun e w' => e = .returned (.tuple #[.int .i64 ts.length, .int .i64 0]) ∧ ∃ vL', TabR tb vL' vW most (ts ++ [cs]) ws w' ∧ But (OwnR tb vL vW) w w' ∧ ∀ g, vL'.ownBlock = some g → w.heap.size ≤ g := by
  have hB : Below w.heap.size w (w.alloc (.cells cs.toArray 38)) := (Below.refl _ _).alloc (Nat.le_refl _) _
  have HB := Lib.hid hB
  have hlim := h.lim
  have HI := Lib.hid (infoT.trans (congrArg some ho.len.symm))
  have HRG := Lib.hid ((BT.new w cs).range)
  have HM := Lib.hid (refMay_any cs ho (w.alloc (.cells cs.toArray 38)))
  rw [hm] at HM
  have HT := Lib.hid h; have HX := Lib.hid (BT.new w cs); have HO := Lib.hid ho
  have t : decide ((most : Int) ≤ (ts.length : Int)) = false := by simp; omega
  clear hB ho hm h
  go_enter Try.func48, Try.ntmps48
  go_wp2_with (with_reducible (show wpList _ _ _ _ _ _); refine wpList_load_mid rfl 38 (.tmp 3) rfl w.heap.size 0 rfl cs _ HRG.out Try.underlying38 rfl HI.out ?_)
  refine HM.out.mono ?_
  rintro e w2 ⟨rfl, h2⟩
  dsimp only
  have H2 := Lib.hid (HB.out.trans (h2.mono HB.out.size))
  have HX2 : Hid (BT w2 w.heap.size cs) := HX.out.below h2 (Blk.lt HX.out)
  have HT2 := Lib.hid (HT.out.below H2.out)
  have HXF : Hid (∀ k, OwnR tb vL vW k → k < w.heap.size) := fun k hk => HT.out.lt hk
  clear h2 HB HM HRG HX HT
  obtain ⟨XB, hXB⟩ : ∃ k, w.heap.size = k := ⟨_, rfl⟩
  rw [hXB] at H2 HX2 HXF ⊢
  have HXE := Lib.hid hXB
  clear hXB
  have c0 := HT2.out.cells.1
  have c1 := HT2.out.cells.2.1
  have HFM := Lib.hid (rowForm HT2.out.row)
  have hq : ∃ A cap, vL = .slice A ts.length cap := by
    rcases HFM.out with ⟨e1, e2⟩ | ⟨g, cap, e1⟩
    · exact ⟨none, 0, by rw [e2]; exact e1⟩
    · exact ⟨_, cap, e1⟩
  obtain ⟨A, capL, hAL⟩ := hq
  have HAL := Lib.hid hAL
  have c1' := c1
  rw [hAL] at c1
  clear hAL
  go_upto_region 3 with fail
  go_quiet (fail)
  go_upto_region 5 with fail
  have H3 : Hid (Below XB w (w2.drewN nq)) := Lib.hid (H2.out.trans ⟨rfl, rfl, rfl, Nat.le_refl _, fun _ _ => rfl⟩)
  have HX3 : Hid (BT (w2.drewN nq) XB cs) := Lib.hid HX2.out
  have HT3 := Lib.hid (HT2.out.below (w' := w2.drewN nq) ⟨rfl, rfl, rfl, Nat.le_refl _, fun _ _ => rfl⟩)
  clear c0 c1 c1' HX2 HT2 H2
  generalize w2.drewN nq = w3 at *
  have c1 := HT3.out.cells.2.1
  have HXS : Hid (w3.drew.rangeAt XB 0 cs) := (BT.range HX3.out)
  obtain ⟨i0, hi0, hz0, hz1, hz2⟩ := info_parts infoTask
  have hlen := HO.out.len
  have hfold := fold_all cs #[Value.int IntKind.i64 0, Value.int IntKind.i64 0, Value.int IntKind.i32 0, Value.int IntKind.i32 0, Value.int IntKind.i32 0, Value.int IntKind.i32 0, Value.int IntKind.i64 0, Value.int IntKind.u64 0, Value.int IntKind.u64 0, Value.int IntKind.u64 0, Value.int IntKind.u64 0, Value.int IntKind.u64 0, Value.int IntKind.u64 0, Value.int IntKind.u64 0, Value.int IntKind.u64 0, Value.int IntKind.u64 0, Value.int IntKind.u64 0, Value.int IntKind.u64 0, Value.int IntKind.u64 0, Value.int IntKind.u64 0, Value.int IntKind.u64 0, Value.int IntKind.u64 0, Value.int IntKind.u64 0, Value.int IntKind.i64 0, Value.int IntKind.i64 0, Value.int IntKind.i64 0, Value.int IntKind.i64 0, Value.int IntKind.i64 0, Value.int IntKind.i64 0] (by rw [hlen]; rfl)
  have HFO := Lib.hid (flat_one ts HT3.out.oks)
  have HB0 : Hid (Below w3.heap.size w3 w3.drew) := (Below.refl _ _).drew
  have HBA : Hid (Below w3.heap.size w3 (w3.alloc (.cells #[] 38)).drew) := ((Below.refl _ _).alloc (Nat.le_refl _) _).drew
  have HBB : Hid (Below w3.heap.size w3 (w3.alloc (.cells cs.toArray 38)).drew) := ((Below.refl _ _).alloc (Nat.le_refl _) _).drew
  have HBAB : Hid (Below w3.heap.size w3 ((w3.alloc (.cells #[] 38)).alloc (.cells cs.toArray 38)).drew) := (((Below.refl _ _).alloc (Nat.le_refl _) _).alloc (by simp) _).drew
  have HBBA : Hid (Below w3.heap.size w3 ((w3.alloc (.cells cs.toArray 38)).alloc (.cells #[] 38)).drew) := (((Below.refl _ _).alloc (Nat.le_refl _) _).alloc (by simp) _).drew
  have HALL : Hid (∀ W, Below w3.heap.size w3 W → W.rangeAt XB 0 cs ∧ W.cell? ⟨tb, 1, none⟩ = some vL ∧ W.ownsRow 0 38 29 vL ts.length ts.flatten ∧ W.frozen? ⟨tb, 1, none⟩ = false) := fun W q =>
    ⟨BT.range (Blk.below HX3.out q (Blk.lt HX3.out)), (HT3.out.below q).cells.2.1, (HT3.out.below q).row, (HT3.out.below q).own.free 1⟩
  have cA : (w3.alloc (.cells #[] 38)).cell? ⟨tb, 1, none⟩ = some vL := (HALL.out _ HBA.out).2.1
  have cB : (w3.alloc (.cells cs.toArray 38)).cell? ⟨tb, 1, none⟩ = some vL := (HALL.out _ HBB.out).2.1
  have cAB : ((w3.alloc (.cells #[] 38)).alloc (.cells cs.toArray 38)).cell? ⟨tb, 1, none⟩ = some vL := (HALL.out _ HBAB.out).2.1
  have cBA : ((w3.alloc (.cells cs.toArray 38)).alloc (.cells #[] 38)).cell? ⟨tb, 1, none⟩ = some vL := (HALL.out _ HBBA.out).2.1
  have HOA : Hid ((w3.alloc (.cells #[] 38)).drew.ownsRow w3.heap.size 38 29 (.slice (some ⟨w3.heap.size, 0, none⟩) 0 0) 0 []) := World.ownsRow_lit w3 #[] 0 (Nat.le_refl _) (Nat.zero_le _) rfl
  have HOAB : Hid (((w3.alloc (.cells #[] 38)).alloc (.cells cs.toArray 38)).drew.ownsRow w3.heap.size 38 29 (.slice (some ⟨w3.heap.size, 0, none⟩) 0 0) 0 []) := HOA.out.alloc _
  have HOBA : Hid (((w3.alloc (.cells cs.toArray 38)).alloc (.cells #[] 38)).drew.ownsRow w3.heap.size 38 29 (.slice (some ⟨w3.heap.size + 1, 0, none⟩) 0 0) 0 []) := by
    have := World.ownsRow_lit (base := w3.heap.size) (e := 38) (size := 29) (w3.alloc (.cells cs.toArray 38)) #[] 0 (by simp) (Nat.zero_le _) rfl
    simp at this
    exact this
  have HXAB : Hid (BT ((w3.alloc (.cells #[] 38)).alloc (.cells cs.toArray 38)).drew (w3.heap.size + 1) cs) := by
    have := BT.new (w3.alloc (.cells #[] 38)) cs
    simp at this
    exact this
  have HXBA : Hid (BT ((w3.alloc (.cells cs.toArray 38)).alloc (.cells #[] 38)).drew w3.heap.size cs) := (BT.new w3 cs).alloc _
  have HXB : Hid (XB ≠ tb) := fun e => by have := HXF.out tb (.inl rfl); omega
  have HST : Hid (∀ (w5 : World), w5.rangeAt XB 0 cs → ∀ u, (w5.setCell ⟨tb, 1, none⟩ u).rangeAt XB 0 cs) := fun w5 h5 u j x hj => by
    rw [World.cell?_setCell_other _ _ _ _ (by intro e; exact HXB.out (congrArg Addr.block e).symm)]; exact h5 j x hj
  have HFIN : Hid (∀ g cap w6, w6.ownsRow w3.heap.size 38 29 (.slice (some ⟨g, 0, none⟩) (ts.length + 1) cap) (ts.length + 1) (ts.flatten ++ cs) → Below w3.heap.size w3 w6 → w3.heap.size ≤ g →
      TabR tb (.slice (some ⟨g, 0, none⟩) (ts.length + 1) cap) vW most (ts ++ [cs]) ws (w6.setCell ⟨tb, 1, none⟩ (.slice (some ⟨g, 0, none⟩) (ts.length + 1) cap)) ∧ But (OwnR tb vL vW) w (w6.setCell ⟨tb, 1, none⟩ (.slice (some ⟨g, 0, none⟩) (ts.length + 1) cap)) ∧ ∀ g', Value.ownBlock (.slice (some ⟨g, 0, none⟩) (ts.length + 1) cap) = some g' → w.heap.size ≤ g') := fun g cap w6 own6 B6 hg6 => by
    have hsz := H3.out.size
    have he := HXE.out
    have hb' := HT3.out.own.lt
    have hst : But (fun k => k = tb) w6 (w6.setCell ⟨tb, 1, none⟩ (.slice (some ⟨g, 0, none⟩) (ts.length + 1) cap)) := (But.refl _ _).set _ _ (.inl rfl)
    have h6 := HT3.out.below B6
    refine ⟨⟨h6.own.set_ 1 _, ?_, ?_, row_but h6.wts hst fun g' hg' q => h6.nW hg' q, by simp; omega⟩, ((But.of_below (HXE.out ▸ H3.out)).trans (((But.of_below B6).trans (hst.mono fun k _ q => .inl q)))), fun g' hg' => ?_⟩
    · have := row_but (show w6.ownsRow 0 38 29 _ _ _ from ⟨own6.1, own6.2.imp id fun ⟨g, cap, cur, a, _, r⟩ => ⟨g, cap, cur, a, Nat.zero_le _, r⟩⟩) hst fun g' hg' q => by
        have q' : g' = tb := q
        simp [Value.ownBlock] at hg'; omega
      simpa using this
    · intro x hx
      rcases List.mem_append.1 hx with q | q
      · exact HT3.out.oks x q
      · simp at q; subst q; exact HO.out
    · simp [Value.ownBlock] at hg'; omega
  refine wp_region_held_drew (S := fun W => W.rangeAt XB 0 cs) (by kernel_rfl) HXS.out (fun hHeld => ?_)
  show wpAnyH _ _ _ _ _ _ _ _ _
  try dsimp only at hHeld
  refine wpAnyH_take (i := 0) (v := ?_) rfl (by kernel_rfl) (by kernel_rfl) (by kernel_rfl) (fun _ _ _ h => h) (Or.inl ⟨by rfl, fun W hW => by (go_simp <;> with_reducible rfl)⟩) hHeld ?_
  go_simp
  refine wpAnyH_take (i := 2) (v := ?_) rfl (by kernel_rfl) (by kernel_rfl) (by kernel_rfl) (fun _ _ _ h => h) (Or.inl ⟨by rfl, fun W hW => by (go_simp <;> with_reducible rfl)⟩) hHeld ?_
  go_simp
  refine wpAnyH_take (i := 3) (v := ?_) rfl (by kernel_rfl) (by kernel_rfl) (by kernel_rfl) (fun _ _ _ h => h) (Or.inl ⟨by rfl, fun W hW => by (go_simp <;> with_reducible rfl)⟩) hHeld ?_
  go_simp
  refine wpAnyH_take (i := 4) (v := ?_) rfl (by kernel_rfl) (by kernel_rfl) (by kernel_rfl) (fun _ _ _ h => h) (Or.inl ⟨by rfl, fun W hW => by (go_simp <;> with_reducible rfl)⟩) hHeld ?_
  go_simp
  refine wpAnyH_take (i := 7) (v := .agg cs.toArray) rfl (by kernel_rfl) (by kernel_rfl) (by kernel_rfl) (fun _ _ _ h => h) (yieldsIf_load_mid (by rfl) 38 (.tmp 3) rfl XB 0 rfl cs _ (fun W h => h) Try.underlying38 rfl HI.out) hHeld ?_
  go_simp
  refine wpAnyH_ready (rs := [1, 5, 8]) (by kernel_rfl) (by simp) (AllReadyH.cons rfl (fun K hK => ?_) (AllReadyH.cons rfl (fun K hK => ?_) (AllReadyH.cons rfl (fun K hK => ?_) (AllReadyH.nil))))
  · go_simp
    refine hK.out _ _ (HALL.out _ HBA.out).1 (fun hHeld => ?_)
    clear hK K
    refine wpAnyH_ready (rs := [5, 8]) (by kernel_rfl) (by simp) (AllReadyH.cons rfl (fun K hK => ?_) (AllReadyH.cons rfl (fun K hK => ?_) (AllReadyH.nil)))
    · go_simp
      refine hK.out _ _ (HALL.out _ HBA.out).1 (fun hHeld => ?_)
      clear hK K
      refine wpAnyH_ready (rs := [6, 8]) (by kernel_rfl) (by simp) (AllReadyH.cons rfl (fun K hK => ?_) (AllReadyH.cons rfl (fun K hK => ?_) (AllReadyH.nil)))
      · refine step_append_row _ rfl (.tmp 20) (.tmp 24) 27 rfl w3.heap.size 0 38 i0 _ 29 216 Try.underlying27 hi0 hz0 hz1 hz2 rfl (by decide) (.slice (some ⟨w3.heap.size, 0, none⟩) 0 0) 0 [] rfl HOA.out vL ts.length ts.flatten rfl (HALL.out _ HBA.out).2.2.1 HFO.out (by unfold maxLen; omega) (by omega) (HBA.out.size) ?_
        intro v5 w5 own5 gr5 hv5
        rw [Nat.zero_add, List.nil_append] at own5
        have B5 : Hid (Below w3.heap.size w3 w5) := Lib.hid (HBA.out.grown gr5 HBA.out.size (fun k hk => by simp [Value.ownBlock] at hk; omega))
        have HV5 : Hid (∀ k, v5.ownBlock = some k → w3.heap.size ≤ k) := Lib.hid fun k hk => (own5.lt k hk).1
        clear gr5 hv5
        refine hK.out _ _ (HALL.out w5 B5.out).1 (fun hHeld => ?_)
        clear hK K
        refine wpAnyH_ready (rs := [8]) (by kernel_rfl) (by simp) (AllReadyH.cons rfl (fun K hK => ?_) (AllReadyH.nil))
        · go_simp
          have HX5 : Hid (BT (w5.alloc (.cells cs.toArray 38)) w5.heap.size cs) := Lib.hid (BT.new w5 cs)
          have B7 : Hid (Below w3.heap.size w3 (w5.alloc (.cells cs.toArray 38))) := Lib.hid (B5.out.alloc B5.out.size _)
          refine hK.out _ _ (HALL.out _ B7.out).1 (fun hHeld => ?_)
          clear hK K
          refine wpAnyH_ready (rs := [9]) (by kernel_rfl) (by simp) (AllReadyH.cons rfl (fun K hK => ?_) AllReadyH.nil)
          refine step_append_lies _ rfl (.tmp 25) (.tmp 27) 27 rfl w3.heap.size 38 i0 _ 29 216 Try.underlying27 hi0 hz0 hz1 hz2 rfl (by decide) v5 ts.length ts.flatten rfl (own5.alloc _) ⟨w5.heap.size, 0, none⟩ 1 1 cs rfl (by rw [HO.out.len]) (fun j u hu => by rw [Addr.add_mid]; exact BT.range HX5.out j u hu) HO.out.one (by decide) (by unfold maxLen; omega) (by omega) (B7.out.size) _ rfl ?_
          intro g cap w6 own6 gr6 hg6 hl6
          have B6 : Hid (Below w3.heap.size w3 w6) := Lib.hid (B7.out.grown gr6 B7.out.size HV5.out)
          have f6 := HALL.out w6 B6.out
          have f61 := f6.1; have f62 := f6.2.1; have f63 := f6.2.2.2
          have hg7 : w3.heap.size ≤ g := (own6.lt g rfl).1
          clear f6
          refine hK.out _ _ f61 (fun hHeld => ?_)
          clear hK K
          refine wpAnyH_take (i := 10) (v := ?_) rfl (by kernel_rfl) (by kernel_rfl) (by kernel_rfl) (fun _ _ _ h => h) (Or.inl ⟨by rfl, fun W hW => by (go_simp <;> with_reducible rfl)⟩) hHeld ?_
          go_simp
          refine wpAnyH_take (i := 11) (v := ?_) rfl (by kernel_rfl) (by kernel_rfl) (by kernel_rfl) (fun _ _ _ h => h) (Or.inl ⟨by rfl, fun W hW => by (go_simp <;> with_reducible rfl)⟩) hHeld ?_
          go_simp
          refine wpAnyH_ready (rs := [12]) (by kernel_rfl) (by simp) (AllReadyH.cons rfl (fun K hK => ?_) AllReadyH.nil)
          go_simp
          refine hK.out _ _ (HST.out w6 f61 _) (fun hHeld => ?_)
          clear hK K
          refine wpAnyH_done (by kernel_rfl) ?_ _
          go_wp2_with fail
          go_ret2
          exact ⟨rfl, _, HFIN.out g cap w6 own6 B6.out hg7⟩
      · go_simp
        refine hK.out _ _ (HALL.out _ HBAB.out).1 (fun hHeld => ?_)
        clear hK K
        refine wpAnyH_ready (rs := [6]) (by kernel_rfl) (by simp) (AllReadyH.cons rfl (fun K hK => ?_) (AllReadyH.nil))
        · refine step_append_row _ rfl (.tmp 20) (.tmp 24) 27 rfl w3.heap.size 0 38 i0 _ 29 216 Try.underlying27 hi0 hz0 hz1 hz2 rfl (by decide) (.slice (some ⟨w3.heap.size, 0, none⟩) 0 0) 0 [] rfl HOAB.out vL ts.length ts.flatten rfl (HALL.out _ HBAB.out).2.2.1 HFO.out (by unfold maxLen; omega) (by omega) (HBAB.out.size) ?_
          intro v5 w5 own5 gr5 hv5
          rw [Nat.zero_add, List.nil_append] at own5
          have B5 : Hid (Below w3.heap.size w3 w5) := Lib.hid (HBAB.out.grown gr5 HBAB.out.size (fun k hk => by simp [Value.ownBlock] at hk; omega))
          have HV5 : Hid (∀ k, v5.ownBlock = some k → w3.heap.size ≤ k) := Lib.hid fun k hk => (own5.lt k hk).1
          have HX5 : Hid (BT w5 (w3.heap.size + 1) cs) := Lib.hid (Blk.grown_ HXAB.out gr5 (by simp [Value.ownBlock]))
          clear gr5 hv5
          refine hK.out _ _ (HALL.out w5 B5.out).1 (fun hHeld => ?_)
          clear hK K
          refine wpAnyH_ready (rs := [9]) (by kernel_rfl) (by simp) (AllReadyH.cons rfl (fun K hK => ?_) AllReadyH.nil)
          refine step_append_lies _ rfl (.tmp 25) (.tmp 27) 27 rfl w3.heap.size 38 i0 _ 29 216 Try.underlying27 hi0 hz0 hz1 hz2 rfl (by decide) v5 ts.length ts.flatten rfl (own5) ⟨(w3.heap.size + 1), 0, none⟩ 1 1 cs rfl (by rw [HO.out.len]) (fun j u hu => by rw [Addr.add_mid]; exact BT.range HX5.out j u hu) HO.out.one (by decide) (by unfold maxLen; omega) (by omega) (B5.out.size) _ rfl ?_
          intro g cap w6 own6 gr6 hg6 hl6
          have B6 : Hid (Below w3.heap.size w3 w6) := Lib.hid (B5.out.grown gr6 B5.out.size HV5.out)
          have f6 := HALL.out w6 B6.out
          have f61 := f6.1; have f62 := f6.2.1; have f63 := f6.2.2.2
          have hg7 : w3.heap.size ≤ g := (own6.lt g rfl).1
          clear f6
          refine hK.out _ _ f61 (fun hHeld => ?_)
          clear hK K
          refine wpAnyH_take (i := 10) (v := ?_) rfl (by kernel_rfl) (by kernel_rfl) (by kernel_rfl) (fun _ _ _ h => h) (Or.inl ⟨by rfl, fun W hW => by (go_simp <;> with_reducible rfl)⟩) hHeld ?_
          go_simp
          refine wpAnyH_take (i := 11) (v := ?_) rfl (by kernel_rfl) (by kernel_rfl) (by kernel_rfl) (fun _ _ _ h => h) (Or.inl ⟨by rfl, fun W hW => by (go_simp <;> with_reducible rfl)⟩) hHeld ?_
          go_simp
          refine wpAnyH_ready (rs := [12]) (by kernel_rfl) (by simp) (AllReadyH.cons rfl (fun K hK => ?_) AllReadyH.nil)
          go_simp
          refine hK.out _ _ (HST.out w6 f61 _) (fun hHeld => ?_)
          clear hK K
          refine wpAnyH_done (by kernel_rfl) ?_ _
          go_wp2_with fail
          go_ret2
          exact ⟨rfl, _, HFIN.out g cap w6 own6 B6.out hg7⟩
    · go_simp
      refine hK.out _ _ (HALL.out _ HBAB.out).1 (fun hHeld => ?_)
      clear hK K
      refine wpAnyH_ready (rs := [5]) (by kernel_rfl) (by simp) (AllReadyH.cons rfl (fun K hK => ?_) (AllReadyH.nil))
      · go_simp
        refine hK.out _ _ (HALL.out _ HBAB.out).1 (fun hHeld => ?_)
        clear hK K
        refine wpAnyH_ready (rs := [6]) (by kernel_rfl) (by simp) (AllReadyH.cons rfl (fun K hK => ?_) (AllReadyH.nil))
        · refine step_append_row _ rfl (.tmp 20) (.tmp 24) 27 rfl w3.heap.size 0 38 i0 _ 29 216 Try.underlying27 hi0 hz0 hz1 hz2 rfl (by decide) (.slice (some ⟨w3.heap.size, 0, none⟩) 0 0) 0 [] rfl HOAB.out vL ts.length ts.flatten rfl (HALL.out _ HBAB.out).2.2.1 HFO.out (by unfold maxLen; omega) (by omega) (HBAB.out.size) ?_
          intro v5 w5 own5 gr5 hv5
          rw [Nat.zero_add, List.nil_append] at own5
          have B5 : Hid (Below w3.heap.size w3 w5) := Lib.hid (HBAB.out.grown gr5 HBAB.out.size (fun k hk => by simp [Value.ownBlock] at hk; omega))
          have HV5 : Hid (∀ k, v5.ownBlock = some k → w3.heap.size ≤ k) := Lib.hid fun k hk => (own5.lt k hk).1
          have HX5 : Hid (BT w5 (w3.heap.size + 1) cs) := Lib.hid (Blk.grown_ HXAB.out gr5 (by simp [Value.ownBlock]))
          clear gr5 hv5
          refine hK.out _ _ (HALL.out w5 B5.out).1 (fun hHeld => ?_)
          clear hK K
          refine wpAnyH_ready (rs := [9]) (by kernel_rfl) (by simp) (AllReadyH.cons rfl (fun K hK => ?_) AllReadyH.nil)
          refine step_append_lies _ rfl (.tmp 25) (.tmp 27) 27 rfl w3.heap.size 38 i0 _ 29 216 Try.underlying27 hi0 hz0 hz1 hz2 rfl (by decide) v5 ts.length ts.flatten rfl (own5) ⟨(w3.heap.size + 1), 0, none⟩ 1 1 cs rfl (by rw [HO.out.len]) (fun j u hu => by rw [Addr.add_mid]; exact BT.range HX5.out j u hu) HO.out.one (by decide) (by unfold maxLen; omega) (by omega) (B5.out.size) _ rfl ?_
          intro g cap w6 own6 gr6 hg6 hl6
          have B6 : Hid (Below w3.heap.size w3 w6) := Lib.hid (B5.out.grown gr6 B5.out.size HV5.out)
          have f6 := HALL.out w6 B6.out
          have f61 := f6.1; have f62 := f6.2.1; have f63 := f6.2.2.2
          have hg7 : w3.heap.size ≤ g := (own6.lt g rfl).1
          clear f6
          refine hK.out _ _ f61 (fun hHeld => ?_)
          clear hK K
          refine wpAnyH_take (i := 10) (v := ?_) rfl (by kernel_rfl) (by kernel_rfl) (by kernel_rfl) (fun _ _ _ h => h) (Or.inl ⟨by rfl, fun W hW => by (go_simp <;> with_reducible rfl)⟩) hHeld ?_
          go_simp
          refine wpAnyH_take (i := 11) (v := ?_) rfl (by kernel_rfl) (by kernel_rfl) (by kernel_rfl) (fun _ _ _ h => h) (Or.inl ⟨by rfl, fun W hW => by (go_simp <;> with_reducible rfl)⟩) hHeld ?_
          go_simp
          refine wpAnyH_ready (rs := [12]) (by kernel_rfl) (by simp) (AllReadyH.cons rfl (fun K hK => ?_) AllReadyH.nil)
          go_simp
          refine hK.out _ _ (HST.out w6 f61 _) (fun hHeld => ?_)
          clear hK K
          refine wpAnyH_done (by kernel_rfl) ?_ _
          go_wp2_with fail
          go_ret2
          exact ⟨rfl, _, HFIN.out g cap w6 own6 B6.out hg7⟩
  · go_simp
    refine hK.out _ _ (HALL.out _ HB0.out).1 (fun hHeld => ?_)
    clear hK K
    refine wpAnyH_ready (rs := [1, 8]) (by kernel_rfl) (by simp) (AllReadyH.cons rfl (fun K hK => ?_) (AllReadyH.cons rfl (fun K hK => ?_) (AllReadyH.nil)))
    · go_simp
      refine hK.out _ _ (HALL.out _ HBA.out).1 (fun hHeld => ?_)
      clear hK K
      refine wpAnyH_ready (rs := [6, 8]) (by kernel_rfl) (by simp) (AllReadyH.cons rfl (fun K hK => ?_) (AllReadyH.cons rfl (fun K hK => ?_) (AllReadyH.nil)))
      · refine step_append_row _ rfl (.tmp 20) (.tmp 24) 27 rfl w3.heap.size 0 38 i0 _ 29 216 Try.underlying27 hi0 hz0 hz1 hz2 rfl (by decide) (.slice (some ⟨w3.heap.size, 0, none⟩) 0 0) 0 [] rfl HOA.out vL ts.length ts.flatten rfl (HALL.out _ HBA.out).2.2.1 HFO.out (by unfold maxLen; omega) (by omega) (HBA.out.size) ?_
        intro v5 w5 own5 gr5 hv5
        rw [Nat.zero_add, List.nil_append] at own5
        have B5 : Hid (Below w3.heap.size w3 w5) := Lib.hid (HBA.out.grown gr5 HBA.out.size (fun k hk => by simp [Value.ownBlock] at hk; omega))
        have HV5 : Hid (∀ k, v5.ownBlock = some k → w3.heap.size ≤ k) := Lib.hid fun k hk => (own5.lt k hk).1
        clear gr5 hv5
        refine hK.out _ _ (HALL.out w5 B5.out).1 (fun hHeld => ?_)
        clear hK K
        refine wpAnyH_ready (rs := [8]) (by kernel_rfl) (by simp) (AllReadyH.cons rfl (fun K hK => ?_) (AllReadyH.nil))
        · go_simp
          have HX5 : Hid (BT (w5.alloc (.cells cs.toArray 38)) w5.heap.size cs) := Lib.hid (BT.new w5 cs)
          have B7 : Hid (Below w3.heap.size w3 (w5.alloc (.cells cs.toArray 38))) := Lib.hid (B5.out.alloc B5.out.size _)
          refine hK.out _ _ (HALL.out _ B7.out).1 (fun hHeld => ?_)
          clear hK K
          refine wpAnyH_ready (rs := [9]) (by kernel_rfl) (by simp) (AllReadyH.cons rfl (fun K hK => ?_) AllReadyH.nil)
          refine step_append_lies _ rfl (.tmp 25) (.tmp 27) 27 rfl w3.heap.size 38 i0 _ 29 216 Try.underlying27 hi0 hz0 hz1 hz2 rfl (by decide) v5 ts.length ts.flatten rfl (own5.alloc _) ⟨w5.heap.size, 0, none⟩ 1 1 cs rfl (by rw [HO.out.len]) (fun j u hu => by rw [Addr.add_mid]; exact BT.range HX5.out j u hu) HO.out.one (by decide) (by unfold maxLen; omega) (by omega) (B7.out.size) _ rfl ?_
          intro g cap w6 own6 gr6 hg6 hl6
          have B6 : Hid (Below w3.heap.size w3 w6) := Lib.hid (B7.out.grown gr6 B7.out.size HV5.out)
          have f6 := HALL.out w6 B6.out
          have f61 := f6.1; have f62 := f6.2.1; have f63 := f6.2.2.2
          have hg7 : w3.heap.size ≤ g := (own6.lt g rfl).1
          clear f6
          refine hK.out _ _ f61 (fun hHeld => ?_)
          clear hK K
          refine wpAnyH_take (i := 10) (v := ?_) rfl (by kernel_rfl) (by kernel_rfl) (by kernel_rfl) (fun _ _ _ h => h) (Or.inl ⟨by rfl, fun W hW => by (go_simp <;> with_reducible rfl)⟩) hHeld ?_
          go_simp
          refine wpAnyH_take (i := 11) (v := ?_) rfl (by kernel_rfl) (by kernel_rfl) (by kernel_rfl) (fun _ _ _ h => h) (Or.inl ⟨by rfl, fun W hW => by (go_simp <;> with_reducible rfl)⟩) hHeld ?_
          go_simp
          refine wpAnyH_ready (rs := [12]) (by kernel_rfl) (by simp) (AllReadyH.cons rfl (fun K hK => ?_) AllReadyH.nil)
          go_simp
          refine hK.out _ _ (HST.out w6 f61 _) (fun hHeld => ?_)
          clear hK K
          refine wpAnyH_done (by kernel_rfl) ?_ _
          go_wp2_with fail
          go_ret2
          exact ⟨rfl, _, HFIN.out g cap w6 own6 B6.out hg7⟩
      · go_simp
        refine hK.out _ _ (HALL.out _ HBAB.out).1 (fun hHeld => ?_)
        clear hK K
        refine wpAnyH_ready (rs := [6]) (by kernel_rfl) (by simp) (AllReadyH.cons rfl (fun K hK => ?_) (AllReadyH.nil))
        · refine step_append_row _ rfl (.tmp 20) (.tmp 24) 27 rfl w3.heap.size 0 38 i0 _ 29 216 Try.underlying27 hi0 hz0 hz1 hz2 rfl (by decide) (.slice (some ⟨w3.heap.size, 0, none⟩) 0 0) 0 [] rfl HOAB.out vL ts.length ts.flatten rfl (HALL.out _ HBAB.out).2.2.1 HFO.out (by unfold maxLen; omega) (by omega) (HBAB.out.size) ?_
          intro v5 w5 own5 gr5 hv5
          rw [Nat.zero_add, List.nil_append] at own5
          have B5 : Hid (Below w3.heap.size w3 w5) := Lib.hid (HBAB.out.grown gr5 HBAB.out.size (fun k hk => by simp [Value.ownBlock] at hk; omega))
          have HV5 : Hid (∀ k, v5.ownBlock = some k → w3.heap.size ≤ k) := Lib.hid fun k hk => (own5.lt k hk).1
          have HX5 : Hid (BT w5 (w3.heap.size + 1) cs) := Lib.hid (Blk.grown_ HXAB.out gr5 (by simp [Value.ownBlock]))
          clear gr5 hv5
          refine hK.out _ _ (HALL.out w5 B5.out).1 (fun hHeld => ?_)
          clear hK K
          refine wpAnyH_ready (rs := [9]) (by kernel_rfl) (by simp) (AllReadyH.cons rfl (fun K hK => ?_) AllReadyH.nil)
          refine step_append_lies _ rfl (.tmp 25) (.tmp 27) 27 rfl w3.heap.size 38 i0 _ 29 216 Try.underlying27 hi0 hz0 hz1 hz2 rfl (by decide) v5 ts.length ts.flatten rfl (own5) ⟨(w3.heap.size + 1), 0, none⟩ 1 1 cs rfl (by rw [HO.out.len]) (fun j u hu => by rw [Addr.add_mid]; exact BT.range HX5.out j u hu) HO.out.one (by decide) (by unfold maxLen; omega) (by omega) (B5.out.size) _ rfl ?_
          intro g cap w6 own6 gr6 hg6 hl6
          have B6 : Hid (Below w3.heap.size w3 w6) := Lib.hid (B5.out.grown gr6 B5.out.size HV5.out)
          have f6 := HALL.out w6 B6.out
          have f61 := f6.1; have f62 := f6.2.1; have f63 := f6.2.2.2
          have hg7 : w3.heap.size ≤ g := (own6.lt g rfl).1
          clear f6
          refine hK.out _ _ f61 (fun hHeld => ?_)
          clear hK K
          refine wpAnyH_take (i := 10) (v := ?_) rfl (by kernel_rfl) (by kernel_rfl) (by kernel_rfl) (fun _ _ _ h => h) (Or.inl ⟨by rfl, fun W hW => by (go_simp <;> with_reducible rfl)⟩) hHeld ?_
          go_simp
          refine wpAnyH_take (i := 11) (v := ?_) rfl (by kernel_rfl) (by kernel_rfl) (by kernel_rfl) (fun _ _ _ h => h) (Or.inl ⟨by rfl, fun W hW => by (go_simp <;> with_reducible rfl)⟩) hHeld ?_
          go_simp
          refine wpAnyH_ready (rs := [12]) (by kernel_rfl) (by simp) (AllReadyH.cons rfl (fun K hK => ?_) AllReadyH.nil)
          go_simp
          refine hK.out _ _ (HST.out w6 f61 _) (fun hHeld => ?_)
          clear hK K
          refine wpAnyH_done (by kernel_rfl) ?_ _
          go_wp2_with fail
          go_ret2
          exact ⟨rfl, _, HFIN.out g cap w6 own6 B6.out hg7⟩
    · go_simp
      refine hK.out _ _ (HALL.out _ HBB.out).1 (fun hHeld => ?_)
      clear hK K
      refine wpAnyH_ready (rs := [1]) (by kernel_rfl) (by simp) (AllReadyH.cons rfl (fun K hK => ?_) (AllReadyH.nil))
      · go_simp
        refine hK.out _ _ (HALL.out _ HBBA.out).1 (fun hHeld => ?_)
        clear hK K
        refine wpAnyH_ready (rs := [6]) (by kernel_rfl) (by simp) (AllReadyH.cons rfl (fun K hK => ?_) (AllReadyH.nil))
        · refine step_append_row _ rfl (.tmp 20) (.tmp 24) 27 rfl w3.heap.size 0 38 i0 _ 29 216 Try.underlying27 hi0 hz0 hz1 hz2 rfl (by decide) (.slice (some ⟨w3.heap.size + 1, 0, none⟩) 0 0) 0 [] rfl HOBA.out vL ts.length ts.flatten rfl (HALL.out _ HBBA.out).2.2.1 HFO.out (by unfold maxLen; omega) (by omega) (HBBA.out.size) ?_
          intro v5 w5 own5 gr5 hv5
          rw [Nat.zero_add, List.nil_append] at own5
          have B5 : Hid (Below w3.heap.size w3 w5) := Lib.hid (HBBA.out.grown gr5 HBBA.out.size (fun k hk => by simp [Value.ownBlock] at hk; omega))
          have HV5 : Hid (∀ k, v5.ownBlock = some k → w3.heap.size ≤ k) := Lib.hid fun k hk => (own5.lt k hk).1
          have HX5 : Hid (BT w5 w3.heap.size cs) := Lib.hid (Blk.grown_ HXBA.out gr5 (by simp [Value.ownBlock]))
          clear gr5 hv5
          refine hK.out _ _ (HALL.out w5 B5.out).1 (fun hHeld => ?_)
          clear hK K
          refine wpAnyH_ready (rs := [9]) (by kernel_rfl) (by simp) (AllReadyH.cons rfl (fun K hK => ?_) AllReadyH.nil)
          refine step_append_lies _ rfl (.tmp 25) (.tmp 27) 27 rfl w3.heap.size 38 i0 _ 29 216 Try.underlying27 hi0 hz0 hz1 hz2 rfl (by decide) v5 ts.length ts.flatten rfl (own5) ⟨w3.heap.size, 0, none⟩ 1 1 cs rfl (by rw [HO.out.len]) (fun j u hu => by rw [Addr.add_mid]; exact BT.range HX5.out j u hu) HO.out.one (by decide) (by unfold maxLen; omega) (by omega) (B5.out.size) _ rfl ?_
          intro g cap w6 own6 gr6 hg6 hl6
          have B6 : Hid (Below w3.heap.size w3 w6) := Lib.hid (B5.out.grown gr6 B5.out.size HV5.out)
          have f6 := HALL.out w6 B6.out
          have f61 := f6.1; have f62 := f6.2.1; have f63 := f6.2.2.2
          have hg7 : w3.heap.size ≤ g := (own6.lt g rfl).1
          clear f6
          refine hK.out _ _ f61 (fun hHeld => ?_)
          clear hK K
          refine wpAnyH_take (i := 10) (v := ?_) rfl (by kernel_rfl) (by kernel_rfl) (by kernel_rfl) (fun _ _ _ h => h) (Or.inl ⟨by rfl, fun W hW => by (go_simp <;> with_reducible rfl)⟩) hHeld ?_
          go_simp
          refine wpAnyH_take (i := 11) (v := ?_) rfl (by kernel_rfl) (by kernel_rfl) (by kernel_rfl) (fun _ _ _ h => h) (Or.inl ⟨by rfl, fun W hW => by (go_simp <;> with_reducible rfl)⟩) hHeld ?_
          go_simp
          refine wpAnyH_ready (rs := [12]) (by kernel_rfl) (by simp) (AllReadyH.cons rfl (fun K hK => ?_) AllReadyH.nil)
          go_simp
          refine hK.out _ _ (HST.out w6 f61 _) (fun hHeld => ?_)
          clear hK K
          refine wpAnyH_done (by kernel_rfl) ?_ _
          go_wp2_with fail
          go_ret2
          exact ⟨rfl, _, HFIN.out g cap w6 own6 B6.out hg7⟩
  · go_simp
    refine hK.out _ _ (HALL.out _ HBB.out).1 (fun hHeld => ?_)
    clear hK K
    refine wpAnyH_ready (rs := [1, 5]) (by kernel_rfl) (by simp) (AllReadyH.cons rfl (fun K hK => ?_) (AllReadyH.cons rfl (fun K hK => ?_) (AllReadyH.nil)))
    · go_simp
      refine hK.out _ _ (HALL.out _ HBBA.out).1 (fun hHeld => ?_)
      clear hK K
      refine wpAnyH_ready (rs := [5]) (by kernel_rfl) (by simp) (AllReadyH.cons rfl (fun K hK => ?_) (AllReadyH.nil))
      · go_simp
        refine hK.out _ _ (HALL.out _ HBBA.out).1 (fun hHeld => ?_)
        clear hK K
        refine wpAnyH_ready (rs := [6]) (by kernel_rfl) (by simp) (AllReadyH.cons rfl (fun K hK => ?_) (AllReadyH.nil))
        · refine step_append_row _ rfl (.tmp 20) (.tmp 24) 27 rfl w3.heap.size 0 38 i0 _ 29 216 Try.underlying27 hi0 hz0 hz1 hz2 rfl (by decide) (.slice (some ⟨w3.heap.size + 1, 0, none⟩) 0 0) 0 [] rfl HOBA.out vL ts.length ts.flatten rfl (HALL.out _ HBBA.out).2.2.1 HFO.out (by unfold maxLen; omega) (by omega) (HBBA.out.size) ?_
          intro v5 w5 own5 gr5 hv5
          rw [Nat.zero_add, List.nil_append] at own5
          have B5 : Hid (Below w3.heap.size w3 w5) := Lib.hid (HBBA.out.grown gr5 HBBA.out.size (fun k hk => by simp [Value.ownBlock] at hk; omega))
          have HV5 : Hid (∀ k, v5.ownBlock = some k → w3.heap.size ≤ k) := Lib.hid fun k hk => (own5.lt k hk).1
          have HX5 : Hid (BT w5 w3.heap.size cs) := Lib.hid (Blk.grown_ HXBA.out gr5 (by simp [Value.ownBlock]))
          clear gr5 hv5
          refine hK.out _ _ (HALL.out w5 B5.out).1 (fun hHeld => ?_)
          clear hK K
          refine wpAnyH_ready (rs := [9]) (by kernel_rfl) (by simp) (AllReadyH.cons rfl (fun K hK => ?_) AllReadyH.nil)
          refine step_append_lies _ rfl (.tmp 25) (.tmp 27) 27 rfl w3.heap.size 38 i0 _ 29 216 Try.underlying27 hi0 hz0 hz1 hz2 rfl (by decide) v5 ts.length ts.flatten rfl (own5) ⟨w3.heap.size, 0, none⟩ 1 1 cs rfl (by rw [HO.out.len]) (fun j u hu => by rw [Addr.add_mid]; exact BT.range HX5.out j u hu) HO.out.one (by decide) (by unfold maxLen; omega) (by omega) (B5.out.size) _ rfl ?_
          intro g cap w6 own6 gr6 hg6 hl6
          have B6 : Hid (Below w3.heap.size w3 w6) := Lib.hid (B5.out.grown gr6 B5.out.size HV5.out)
          have f6 := HALL.out w6 B6.out
          have f61 := f6.1; have f62 := f6.2.1; have f63 := f6.2.2.2
          have hg7 : w3.heap.size ≤ g := (own6.lt g rfl).1
          clear f6
          refine hK.out _ _ f61 (fun hHeld => ?_)
          clear hK K
          refine wpAnyH_take (i := 10) (v := ?_) rfl (by kernel_rfl) (by kernel_rfl) (by kernel_rfl) (fun _ _ _ h => h) (Or.inl ⟨by rfl, fun W hW => by (go_simp <;> with_reducible rfl)⟩) hHeld ?_
          go_simp
          refine wpAnyH_take (i := 11) (v := ?_) rfl (by kernel_rfl) (by kernel_rfl) (by kernel_rfl) (fun _ _ _ h => h) (Or.inl ⟨by rfl, fun W hW => by (go_simp <;> with_reducible rfl)⟩) hHeld ?_
          go_simp
          refine wpAnyH_ready (rs := [12]) (by kernel_rfl) (by simp) (AllReadyH.cons rfl (fun K hK => ?_) AllReadyH.nil)
          go_simp
          refine hK.out _ _ (HST.out w6 f61 _) (fun hHeld => ?_)
          clear hK K
          refine wpAnyH_done (by kernel_rfl) ?_ _
          go_wp2_with fail
          go_ret2
          exact ⟨rfl, _, HFIN.out g cap w6 own6 B6.out hg7⟩
    · go_simp
      refine hK.out _ _ (HALL.out _ HBB.out).1 (fun hHeld => ?_)
      clear hK K
      refine wpAnyH_ready (rs := [1]) (by kernel_rfl) (by simp) (AllReadyH.cons rfl (fun K hK => ?_) (AllReadyH.nil))
      · go_simp
        refine hK.out _ _ (HALL.out _ HBBA.out).1 (fun hHeld => ?_)
        clear hK K
        refine wpAnyH_ready (rs := [6]) (by kernel_rfl) (by simp) (AllReadyH.cons rfl (fun K hK => ?_) (AllReadyH.nil))
        · refine step_append_row _ rfl (.tmp 20) (.tmp 24) 27 rfl w3.heap.size 0 38 i0 _ 29 216 Try.underlying27 hi0 hz0 hz1 hz2 rfl (by decide) (.slice (some ⟨w3.heap.size + 1, 0, none⟩) 0 0) 0 [] rfl HOBA.out vL ts.length ts.flatten rfl (HALL.out _ HBBA.out).2.2.1 HFO.out (by unfold maxLen; omega) (by omega) (HBBA.out.size) ?_
          intro v5 w5 own5 gr5 hv5
          rw [Nat.zero_add, List.nil_append] at own5
          have B5 : Hid (Below w3.heap.size w3 w5) := Lib.hid (HBBA.out.grown gr5 HBBA.out.size (fun k hk => by simp [Value.ownBlock] at hk; omega))
          have HV5 : Hid (∀ k, v5.ownBlock = some k → w3.heap.size ≤ k) := Lib.hid fun k hk => (own5.lt k hk).1
          have HX5 : Hid (BT w5 w3.heap.size cs) := Lib.hid (Blk.grown_ HXBA.out gr5 (by simp [Value.ownBlock]))
          clear gr5 hv5
          refine hK.out _ _ (HALL.out w5 B5.out).1 (fun hHeld => ?_)
          clear hK K
          refine wpAnyH_ready (rs := [9]) (by kernel_rfl) (by simp) (AllReadyH.cons rfl (fun K hK => ?_) AllReadyH.nil)
          refine step_append_lies _ rfl (.tmp 25) (.tmp 27) 27 rfl w3.heap.size 38 i0 _ 29 216 Try.underlying27 hi0 hz0 hz1 hz2 rfl (by decide) v5 ts.length ts.flatten rfl (own5) ⟨w3.heap.size, 0, none⟩ 1 1 cs rfl (by rw [HO.out.len]) (fun j u hu => by rw [Addr.add_mid]; exact BT.range HX5.out j u hu) HO.out.one (by decide) (by unfold maxLen; omega) (by omega) (B5.out.size) _ rfl ?_
          intro g cap w6 own6 gr6 hg6 hl6
          have B6 : Hid (Below w3.heap.size w3 w6) := Lib.hid (B5.out.grown gr6 B5.out.size HV5.out)
          have f6 := HALL.out w6 B6.out
          have f61 := f6.1; have f62 := f6.2.1; have f63 := f6.2.2.2
          have hg7 : w3.heap.size ≤ g := (own6.lt g rfl).1
          clear f6
          refine hK.out _ _ f61 (fun hHeld => ?_)
          clear hK K
          refine wpAnyH_take (i := 10) (v := ?_) rfl (by kernel_rfl) (by kernel_rfl) (by kernel_rfl) (fun _ _ _ h => h) (Or.inl ⟨by rfl, fun W hW => by (go_simp <;> with_reducible rfl)⟩) hHeld ?_
          go_simp
          refine wpAnyH_take (i := 11) (v := ?_) rfl (by kernel_rfl) (by kernel_rfl) (by kernel_rfl) (fun _ _ _ h => h) (Or.inl ⟨by rfl, fun W hW => by (go_simp <;> with_reducible rfl)⟩) hHeld ?_
          go_simp
          refine wpAnyH_ready (rs := [12]) (by kernel_rfl) (by simp) (AllReadyH.cons rfl (fun K hK => ?_) AllReadyH.nil)
          go_simp
          refine hK.out _ _ (HST.out w6 f61 _) (fun hHeld => ?_)
          clear hK K
          refine wpAnyH_done (by kernel_rfl) ?_ _
          go_wp2_with fail
          go_ret2
          exact ⟨rfl, _, HFIN.out g cap w6 own6 B6.out hg7⟩
end
end Go.Proofs.Ytdlncbndhljhfaa
