/- The document's Make, where it makes (layer 13): printed by gen_yd10.py. -/
import Derived.Test.YtekahmfchpgmfaaYa
import Derived.Deep.AppendLies
import Derived.BigQuiet
namespace Go.Proofs.Ytekahmfchpgmfaa
open Go.RowKit
set_option maxRecDepth 100000

section
variable {d : Value} {bs : List Bub} {w w' : World}
theorem bubC_ones : ∀ bs : List Bub, ∀ u ∈ bubC bs, u.oneCell' = true
  | [], u, hu => by simp [bubC] at hu
  | x :: r, u, hu => by
    rw [bubC_cons, List.mem_append] at hu
    rcases hu with hu | hu
    · exact bubL_one x u hu
    · exact bubC_ones r u hu
set_option maxHeartbeats 20000000 in
theorem rmake_top_ok (up : Int) (m : Nat → Bool) (h : DocL d bs w) (hu : up = -1) (hm : emptyP m = false) (hl : bs.length < 32) :
    Calls Try.prog 49 #[d, .int .i64 up, .agg (cellsOf m)] w (RMakeP d bs up m w) := by
  have hal : Below w.heap.size w (w.alloc (.cells (cellsOf m) 28)) := (Below.refl _ _).alloc (Nat.le_refl _) _
  have hF1 := h.below hal
  have HG1 : Hid ((w.alloc (.cells (cellsOf m) 28)).heap[w.heap.size]? = some (.cells (cellsOf m) 28 (0, 0))) := Lib.hid (heap_alloc_new _ _)
  have he : makeE bs up m = ((bs.length : Int), 0) := by unfold makeE; rw [if_neg (fun q => q.1 hu), if_neg (by rw [hm]; simp), if_neg (fun q => q.1 hu), if_neg (by omega)]
  have het : makeT bs up m = bs ++ [⟨up, m, 1, 0⟩] := by unfold makeT; rw [he]; rfl
  have hinv := inv_make (m := m) h.inv (.inl hu) hl
  unfold RMakeP
  rw [he, het]
  obtain ⟨DA, dcap, hdv⟩ := h.form
  obtain ⟨n, hn⟩ : ∃ n, bs.length = n := ⟨_, rfl⟩
  have HLN := Lib.hid hn
  have hbn : (bs ++ [(⟨up, m, 1, 0⟩ : Bub)]).length = n + 1 := by simp [hn]
  have hone : ∀ u ∈ bubC bs, u.oneCell' = true := bubC_ones bs
  rw [hn] at hdv hl ⊢
  subst hdv
  have tu : (up != -1) = false := by simp [hu]
  have hrun : ∀ W, (Op.equalIn 10000 28 (.agg (cellsOf m)) (.agg (cellsOf fun _ => false))).run Try.prog W = .ok false W := fun W => by rw [run_equal_set]; exact congrArg (fun b => Result.ok b W) hm
  have hz := cellsOf_zero.symm
  have HLT := Lib.hid hl
  have tl : decide ((32 : Int) ≤ (n : Int)) = false := by simp; omega
  have hbc := bubC_app bs [⟨up, m, 1, 0⟩]
  rw [bubC_one] at hbc
  have HBD := Lib.hid (build_bub up m); have HBS := Lib.hid (build_slice_bub ⟨up, m, 1, 0⟩)
  have HBL := Lib.hid (bubL_len ⟨up, m, 1, 0⟩)
  have HB1x := Lib.hid (bubL_one ⟨up, m, 1, 0⟩)
  have HZ19 : Hid ((Value.agg (bubL zB).toArray).cells.size = 19) := by show _ = _; rfl
  have HDF := Lib.hid hF1
  clear hm hu h hal hF1 hn he het
  go_enter Try.func49, Try.ntmps49
  go_upto_region 9 with (first
    | (go_at_call 71; (with_reducible refine HH.out.mono ?_); rintro e wq ⟨rfl, rfl⟩)
    | (with_reducible (show wpList _ _ _ _ _ _); refine ld_set rfl (.tmp 5) rfl w.heap.size rfl m HG1.out ?_))
  have HBW : Hid (Below w.heap.size w (w.alloc (.cells (cellsOf m) 28))) := Lib.hid ((Below.refl _ _).alloc (Nat.le_refl _) _)
  have HXB2 : Hid ((w.alloc (.cells (cellsOf m) 28)).heap[w.heap.size]? = some (.cells (cellsOf m) 28 (0, 0))) := Lib.hid HG1.out
  have HD2 : Hid (DocL (.slice DA n dcap) bs (w.alloc (.cells (cellsOf m) 28))) := HDF
  have HBO := HB1x
  have HBC := Lib.hid hbc; have HBN := Lib.hid hbn; have HINV := Lib.hid hinv; have HONE := Lib.hid hone
  clear hbc hbn hinv HDF HB1x tl HG1 hone hrun hz tu 
  generalize w.alloc (.cells (cellsOf m) 28) = w2 at *
  generalize bubL ⟨up, m, 1, 0⟩ = B at *
  generalize hXE : w.heap.size = XB at *
  have HXE := Lib.hid hXE
  clear hXE
  have HROW : Hid (∀ W, Below w2.heap.size w2 W → W.ownsRow 0 30 19 (.slice DA n dcap) n (bubC bs)) := fun W q => by have := (HD2.out.below q).row; rw [HLN.out] at this; exact this
  have HSET : Hid (∀ W, Below w2.heap.size w2 W → W.heap[XB]? = some (.cells (cellsOf m) 28 (0, 0))) := fun W q => (q.block XB (Array.getElem?_eq_some_iff.1 HXB2.out).1).trans HXB2.out
  have HB0 : Hid (Below w2.heap.size w2 w2.drew) := (Below.refl _ _).drew
  have HBA : Hid (Below w2.heap.size w2 (w2.alloc (.cells #[] 30)).drew) := ((Below.refl _ _).alloc (Nat.le_refl _) _).drew
  have HBB : Hid (Below w2.heap.size w2 (w2.alloc (.cells B.toArray 30)).drew) := ((Below.refl _ _).alloc (Nat.le_refl _) _).drew
  have HBAB : Hid (Below w2.heap.size w2 ((w2.alloc (.cells #[] 30)).alloc (.cells B.toArray 30)).drew) := (((Below.refl _ _).alloc (Nat.le_refl _) _).alloc (by simp) _).drew
  have HBBA : Hid (Below w2.heap.size w2 ((w2.alloc (.cells B.toArray 30)).alloc (.cells #[] 30)).drew) := (((Below.refl _ _).alloc (Nat.le_refl _) _).alloc (by simp) _).drew
  have HOA : Hid ((w2.alloc (.cells #[] 30)).drew.ownsRow w2.heap.size 30 19 (.slice (some ⟨w2.heap.size, 0, none⟩) 0 0) 0 []) := World.ownsRow_lit w2 #[] 0 (Nat.le_refl _) (Nat.zero_le _) rfl
  have HOAB : Hid (((w2.alloc (.cells #[] 30)).alloc (.cells B.toArray 30)).drew.ownsRow w2.heap.size 30 19 (.slice (some ⟨w2.heap.size, 0, none⟩) 0 0) 0 []) := HOA.out.alloc _
  have HOBA : Hid (((w2.alloc (.cells B.toArray 30)).alloc (.cells #[] 30)).drew.ownsRow w2.heap.size 30 19 (.slice (some ⟨w2.heap.size + 1, 0, none⟩) 0 0) 0 []) := by
    have := World.ownsRow_lit (base := w2.heap.size) (e := 30) (size := 19) (w2.alloc (.cells B.toArray 30)) #[] 0 (by simp) (Nat.zero_le _) rfl
    simp at this
    exact this
  have HXAB : Hid (Blk ((w2.alloc (.cells #[] 30)).alloc (.cells B.toArray 30)).drew (w2.heap.size + 1) 30 B.toArray) := by
    have := Blk.new (w2.alloc (.cells #[] 30)) 30 B.toArray
    simp at this
    exact this
  have HXBA : Hid (Blk ((w2.alloc (.cells B.toArray 30)).alloc (.cells #[] 30)).drew w2.heap.size 30 B.toArray) := (Blk.new w2 30 B.toArray).alloc _
  have HFIN : Hid (∀ g cap w6, w6.ownsRow w2.heap.size 30 19 (.slice (some ⟨g, 0, none⟩) (n + 1) cap) (n + 1) (bubC bs ++ B) → Below w2.heap.size w2 w6 → w2.heap.size ≤ g →
      ∃ d', Ending.returned (.tuple #[.slice (some ⟨g, 0, none⟩) (n + 1) cap, .int .i64 n, .int .i64 0]) = .returned (.tuple #[d', .int .i64 n, .int .i64 0]) ∧ DocL d' (bs ++ [⟨up, m, 1, 0⟩]) w6 ∧ Below w.heap.size w w6 ∧ (d' = (.slice DA n dcap) ∨ ∀ g, d'.ownBlock = some g → w.heap.size ≤ g)) := fun g cap w6 own6 b6 hg => by
    have hsz := HBW.out.size
    have he := HXE.out
    refine ⟨_, rfl, ⟨?_, HINV.out⟩, ?_, .inr fun g' hg' => ?_⟩
    · rw [HBC.out, HBN.out]
      exact ⟨own6.1, own6.2.imp id fun ⟨g, cap, cur, a, _, r⟩ => ⟨g, cap, cur, a, Nat.zero_le _, r⟩⟩
    · have hw := HBW.out; rw [← he] at hw; exact hw.trans (b6.mono hsz)
    · simp [Value.ownBlock] at hg'; omega
  obtain ⟨i0, hi0, hz0, hz1, hz2⟩ := info_parts infoBub
  have hb32 := HLT.out
  refine wp_region_held_drew (S := fun W => W.heap[XB]? = some (.cells (cellsOf m) 28 (0, 0))) (by kernel_rfl) (HSET.out _ HB0.out) (fun hHeld => ?_)
  show wpAnyH _ _ _ _ _ _ _ _ _
  try dsimp only at hHeld
  refine wpAnyH_take (i := 1) (v := ?_) rfl (by kernel_rfl) (by kernel_rfl) (by kernel_rfl) (fun _ _ _ h => h) (Or.inl ⟨by rfl, fun W hW => by (go_simp <;> with_reducible rfl)⟩) hHeld ?_
  go_simp
  refine wpAnyH_take (i := 3) (v := ?_) rfl (by kernel_rfl) (by kernel_rfl) (by kernel_rfl) (fun _ _ _ h => h) (Or.inl ⟨by rfl, fun W hW => by (go_simp <;> with_reducible rfl)⟩) hHeld ?_
  go_simp
  refine wpAnyH_take (i := 4) (v := .agg (cellsOf m)) rfl (by kernel_rfl) (by kernel_rfl) (by kernel_rfl) (fun _ _ _ h => h) (yieldsIf_load_set (by rfl) (.tmp 5) rfl XB m rfl (fun W h => h)) hHeld ?_
  go_simp
  refine wpAnyH_take (i := 5) (v := .agg B.toArray) rfl (by kernel_rfl) (by kernel_rfl) (by kernel_rfl) (fun _ _ _ h => h) (yieldsIf_build (by rfl) 30 _ rfl #[(0, .int .i64 up), (1, .agg (cellsOf m)), (2, .int .i64 1)] (by kernel_rfl) _ (fun W => HBD.out W)) hHeld ?_
  go_simp
  refine wpAnyH_take (i := 8) (v := ?_) rfl (by kernel_rfl) (by kernel_rfl) (by kernel_rfl) (fun _ _ _ h => h) (Or.inl ⟨by rfl, fun W hW => by (go_simp <;> with_reducible rfl)⟩) hHeld ?_
  go_simp
  refine wpAnyH_take (i := 9) (v := ?_) rfl (by kernel_rfl) (by kernel_rfl) (by kernel_rfl) (fun _ _ _ h => h) (Or.inl ⟨by rfl, fun W hW => by (go_simp <;> with_reducible rfl)⟩) hHeld ?_
  go_simp
  refine wpAnyH_ready (rs := [0, 6]) (by kernel_rfl) (by simp) (AllReadyH.cons rfl (fun K hK => ?_) (AllReadyH.cons rfl (fun K hK => ?_) (AllReadyH.nil)))
  · go_simp
    refine hK.out _ _ (HSET.out _ HBA.out) (fun hHeld => ?_)
    clear hK K
    refine wpAnyH_ready (rs := [2, 6]) (by kernel_rfl) (by simp) (AllReadyH.cons rfl (fun K hK => ?_) (AllReadyH.cons rfl (fun K hK => ?_) (AllReadyH.nil)))
    · refine step_append_row _ rfl (.tmp 37) (.tmp 38) 66 rfl w2.heap.size 0 30 i0 _ 19 152 Try.underlying66 hi0 hz0 hz1 hz2 HZ19.out (by decide) (.slice (some ⟨w2.heap.size, 0, none⟩) 0 0) 0 [] rfl HOA.out (.slice DA n dcap) n (bubC bs) rfl (HROW.out _ HBA.out) HONE.out (by unfold maxLen; omega) (by omega) (HBA.out.size) ?_
      intro v5 w5 own5 gr5 hv5
      rw [Nat.zero_add, List.nil_append] at own5
      have B5 : Hid (Below w2.heap.size w2 w5) := Lib.hid (HBA.out.grown gr5 HBA.out.size (fun k hk => by simp [Value.ownBlock] at hk; omega))
      have HV5 : Hid (∀ k, v5.ownBlock = some k → w2.heap.size ≤ k) := Lib.hid fun k hk => (own5.lt k hk).1
      refine hK.out _ _ (HSET.out w5 B5.out) (fun hHeld => ?_)
      clear hK K
      refine wpAnyH_ready (rs := [6]) (by kernel_rfl) (by simp) (AllReadyH.cons rfl (fun K hK => ?_) (AllReadyH.nil))
      refine step_build_slice rfl 66 1 _ rfl #[(0, .agg B.toArray)] (by kernel_rfl) _ _ (HBS.out _) ?_
      have B7 : Hid (Below w2.heap.size w2 (w5.alloc (.cells B.toArray 30))) := Lib.hid (B5.out.alloc B5.out.size _)
      have HX7 : Hid (Blk (w5.alloc (.cells B.toArray 30)) w5.heap.size 30 B.toArray) := Lib.hid (Blk.new w5 30 B.toArray)
      have own7 := own5.alloc (.cells B.toArray 30)
      refine hK.out _ _ (HSET.out _ B7.out) (fun hHeld => ?_)
      clear hK K
      refine wpAnyH_ready (rs := [7]) (by kernel_rfl) (by simp) (AllReadyH.cons rfl (fun K hK => ?_) (AllReadyH.nil))
      refine step_append_lies _ rfl (.tmp 39) (.tmp 43) 66 rfl w2.heap.size 30 i0 _ 19 152 Try.underlying66 hi0 hz0 hz1 hz2 HZ19.out (by decide) v5 n (bubC bs) rfl (own7) ⟨w5.heap.size, 0, none⟩ 1 1 B rfl (by rw [HBL.out]) (fun j u hu => by rw [Addr.add_mid]; exact blk_rangeB HX7.out j u hu) HBO.out (by decide) (by unfold maxLen; omega) (by omega) (B7.out.size) _ rfl ?_
      intro g cap w6 own6 gr6 hg6 hl6
      have B6 : Hid (Below w2.heap.size w2 w6) := Lib.hid (B7.out.grown gr6 B7.out.size HV5.out)
      have f6 := HSET.out w6 B6.out
      have hg7 : w2.heap.size ≤ g := (own6.lt g rfl).1
      refine hK.out _ _ (f6) (fun hHeld => ?_)
      clear hK K
      refine wpAnyH_take (i := 10) (v := ?_) rfl (by kernel_rfl) (by kernel_rfl) (by kernel_rfl) (fun _ _ _ h => h) (Or.inl ⟨by rfl, fun W hW => by (go_simp <;> with_reducible rfl)⟩) hHeld ?_
      go_simp
      refine wpAnyH_take (i := 11) (v := ?_) rfl (by kernel_rfl) (by kernel_rfl) (by kernel_rfl) (fun _ _ _ h => h) (Or.inl ⟨by rfl, fun W hW => by (go_simp <;> with_reducible rfl)⟩) hHeld ?_
      go_simp
      refine wpAnyH_take (i := 12) (v := ?_) rfl (by kernel_rfl) (by kernel_rfl) (by kernel_rfl) (fun _ _ _ h => h) (Or.inl ⟨by rfl, fun W hW => by (go_simp <;> with_reducible rfl)⟩) hHeld ?_
      go_simp
      refine wpAnyH_done (by kernel_rfl) ?_ _
      go_wp2_with fail
      refine bodyPost_ret (v := .tuple #[.slice (some ⟨g, 0, none⟩) (n + 1) cap, .int .i64 n, .int .i64 0]) (by simp [results, Try.results49]) rfl ?_
      exact HFIN.out g cap w6 own6 B6.out hg7
    · refine step_build_slice rfl 66 1 _ rfl #[(0, .agg B.toArray)] (by kernel_rfl) _ _ (HBS.out _) ?_
      refine hK.out _ _ (HSET.out _ HBAB.out) (fun hHeld => ?_)
      clear hK K
      refine wpAnyH_ready (rs := [2]) (by kernel_rfl) (by simp) (AllReadyH.cons rfl (fun K hK => ?_) (AllReadyH.nil))
      refine step_append_row _ rfl (.tmp 37) (.tmp 38) 66 rfl w2.heap.size 0 30 i0 _ 19 152 Try.underlying66 hi0 hz0 hz1 hz2 HZ19.out (by decide) (.slice (some ⟨w2.heap.size, 0, none⟩) 0 0) 0 [] rfl HOAB.out (.slice DA n dcap) n (bubC bs) rfl (HROW.out _ HBAB.out) HONE.out (by unfold maxLen; omega) (by omega) (HBAB.out.size) ?_
      intro v5 w5 own5 gr5 hv5
      rw [Nat.zero_add, List.nil_append] at own5
      have B5 : Hid (Below w2.heap.size w2 w5) := Lib.hid (HBAB.out.grown gr5 HBAB.out.size (fun k hk => by simp [Value.ownBlock] at hk; omega))
      have HV5 : Hid (∀ k, v5.ownBlock = some k → w2.heap.size ≤ k) := Lib.hid fun k hk => (own5.lt k hk).1
      have HX5 : Hid (Blk w5 (w2.alloc (.cells #[] 30)).heap.size 30 B.toArray) := by
        rw [show (w2.alloc (.cells #[] 30)).heap.size = w2.heap.size + 1 by simp]
        exact Lib.hid (Blk.grown_ HXAB.out gr5 (by simp [Value.ownBlock]))
      refine hK.out _ _ (HSET.out w5 B5.out) (fun hHeld => ?_)
      clear hK K
      refine wpAnyH_ready (rs := [7]) (by kernel_rfl) (by simp) (AllReadyH.cons rfl (fun K hK => ?_) (AllReadyH.nil))
      refine step_append_lies _ rfl (.tmp 39) (.tmp 43) 66 rfl w2.heap.size 30 i0 _ 19 152 Try.underlying66 hi0 hz0 hz1 hz2 HZ19.out (by decide) v5 n (bubC bs) rfl (own5) ⟨(w2.alloc (.cells #[] 30)).heap.size, 0, none⟩ 1 1 B rfl (by rw [HBL.out]) (fun j u hu => by rw [Addr.add_mid]; exact blk_rangeB HX5.out j u hu) HBO.out (by decide) (by unfold maxLen; omega) (by omega) (B5.out.size) _ rfl ?_
      intro g cap w6 own6 gr6 hg6 hl6
      have B6 : Hid (Below w2.heap.size w2 w6) := Lib.hid (B5.out.grown gr6 B5.out.size HV5.out)
      have f6 := HSET.out w6 B6.out
      have hg7 : w2.heap.size ≤ g := (own6.lt g rfl).1
      refine hK.out _ _ (f6) (fun hHeld => ?_)
      clear hK K
      refine wpAnyH_take (i := 10) (v := ?_) rfl (by kernel_rfl) (by kernel_rfl) (by kernel_rfl) (fun _ _ _ h => h) (Or.inl ⟨by rfl, fun W hW => by (go_simp <;> with_reducible rfl)⟩) hHeld ?_
      go_simp
      refine wpAnyH_take (i := 11) (v := ?_) rfl (by kernel_rfl) (by kernel_rfl) (by kernel_rfl) (fun _ _ _ h => h) (Or.inl ⟨by rfl, fun W hW => by (go_simp <;> with_reducible rfl)⟩) hHeld ?_
      go_simp
      refine wpAnyH_take (i := 12) (v := ?_) rfl (by kernel_rfl) (by kernel_rfl) (by kernel_rfl) (fun _ _ _ h => h) (Or.inl ⟨by rfl, fun W hW => by (go_simp <;> with_reducible rfl)⟩) hHeld ?_
      go_simp
      refine wpAnyH_done (by kernel_rfl) ?_ _
      go_wp2_with fail
      refine bodyPost_ret (v := .tuple #[.slice (some ⟨g, 0, none⟩) (n + 1) cap, .int .i64 n, .int .i64 0]) (by simp [results, Try.results49]) rfl ?_
      exact HFIN.out g cap w6 own6 B6.out hg7
  · refine step_build_slice rfl 66 1 _ rfl #[(0, .agg B.toArray)] (by kernel_rfl) _ _ (HBS.out _) ?_
    refine hK.out _ _ (HSET.out _ HBB.out) (fun hHeld => ?_)
    clear hK K
    refine wpAnyH_ready (rs := [0]) (by kernel_rfl) (by simp) (AllReadyH.cons rfl (fun K hK => ?_) (AllReadyH.nil))
    go_simp
    refine hK.out _ _ (HSET.out _ HBBA.out) (fun hHeld => ?_)
    clear hK K
    refine wpAnyH_ready (rs := [2]) (by kernel_rfl) (by simp) (AllReadyH.cons rfl (fun K hK => ?_) (AllReadyH.nil))
    refine step_append_row _ rfl (.tmp 37) (.tmp 38) 66 rfl w2.heap.size 0 30 i0 _ 19 152 Try.underlying66 hi0 hz0 hz1 hz2 HZ19.out (by decide) (.slice (some ⟨w2.heap.size + 1, 0, none⟩) 0 0) 0 [] rfl HOBA.out (.slice DA n dcap) n (bubC bs) rfl (HROW.out _ HBBA.out) HONE.out (by unfold maxLen; omega) (by omega) (HBBA.out.size) ?_
    intro v5 w5 own5 gr5 hv5
    rw [Nat.zero_add, List.nil_append] at own5
    have B5 : Hid (Below w2.heap.size w2 w5) := Lib.hid (HBBA.out.grown gr5 HBBA.out.size (fun k hk => by simp [Value.ownBlock] at hk; omega))
    have HV5 : Hid (∀ k, v5.ownBlock = some k → w2.heap.size ≤ k) := Lib.hid fun k hk => (own5.lt k hk).1
    have HX5 : Hid (Blk w5 w2.heap.size 30 B.toArray) := Lib.hid (Blk.grown_ HXBA.out gr5 (by simp [Value.ownBlock]))
    refine hK.out _ _ (HSET.out w5 B5.out) (fun hHeld => ?_)
    clear hK K
    refine wpAnyH_ready (rs := [7]) (by kernel_rfl) (by simp) (AllReadyH.cons rfl (fun K hK => ?_) (AllReadyH.nil))
    refine step_append_lies _ rfl (.tmp 39) (.tmp 43) 66 rfl w2.heap.size 30 i0 _ 19 152 Try.underlying66 hi0 hz0 hz1 hz2 HZ19.out (by decide) v5 n (bubC bs) rfl (own5) ⟨w2.heap.size, 0, none⟩ 1 1 B rfl (by rw [HBL.out]) (fun j u hu => by rw [Addr.add_mid]; exact blk_rangeB HX5.out j u hu) HBO.out (by decide) (by unfold maxLen; omega) (by omega) (B5.out.size) _ rfl ?_
    intro g cap w6 own6 gr6 hg6 hl6
    have B6 : Hid (Below w2.heap.size w2 w6) := Lib.hid (B5.out.grown gr6 B5.out.size HV5.out)
    have f6 := HSET.out w6 B6.out
    have hg7 : w2.heap.size ≤ g := (own6.lt g rfl).1
    refine hK.out _ _ (f6) (fun hHeld => ?_)
    clear hK K
    refine wpAnyH_take (i := 10) (v := ?_) rfl (by kernel_rfl) (by kernel_rfl) (by kernel_rfl) (fun _ _ _ h => h) (Or.inl ⟨by rfl, fun W hW => by (go_simp <;> with_reducible rfl)⟩) hHeld ?_
    go_simp
    refine wpAnyH_take (i := 11) (v := ?_) rfl (by kernel_rfl) (by kernel_rfl) (by kernel_rfl) (fun _ _ _ h => h) (Or.inl ⟨by rfl, fun W hW => by (go_simp <;> with_reducible rfl)⟩) hHeld ?_
    go_simp
    refine wpAnyH_take (i := 12) (v := ?_) rfl (by kernel_rfl) (by kernel_rfl) (by kernel_rfl) (fun _ _ _ h => h) (Or.inl ⟨by rfl, fun W hW => by (go_simp <;> with_reducible rfl)⟩) hHeld ?_
    go_simp
    refine wpAnyH_done (by kernel_rfl) ?_ _
    go_wp2_with fail
    refine bodyPost_ret (v := .tuple #[.slice (some ⟨g, 0, none⟩) (n + 1) cap, .int .i64 n, .int .i64 0]) (by simp [results, Try.results49]) rfl ?_
    exact HFIN.out g cap w6 own6 B6.out hg7
set_option maxHeartbeats 20000000 in
theorem rmake_in_ok {x : Bub} (up : Int) (m : Nat → Bool) (h : DocL d bs w) (hx : bs[up.toNat]? = some x) (hup : up = (up.toNat : Int)) (hu : up ≠ -1) (hm : emptyP m = false) (hs : x.state = 1) (hl : bs.length < 32) :
    Calls Try.prog 49 #[d, .int .i64 up, .agg (cellsOf m)] w (RMakeP d bs up m w) := by
  have hal : Below w.heap.size w (w.alloc (.cells (cellsOf m) 28)) := (Below.refl _ _).alloc (Nat.le_refl _) _
  have hF1 := h.below hal
  have HG1 : Hid ((w.alloc (.cells (cellsOf m) 28)).heap[w.heap.size]? = some (.cells (cellsOf m) 28 (0, 0))) := Lib.hid (heap_alloc_new _ _)
  have hin : inB bs up = true := by rw [hup]; exact inB_of hx
  have hat : atB bs up = x := by rw [hup]; exact atB_of hx
  have he : makeE bs up m = ((bs.length : Int), 0) := by unfold makeE; rw [if_neg (fun q => by rw [hin] at q; exact absurd q.2 (by simp)), if_neg (by rw [hm]; simp), if_neg (fun q => q.2 (by rw [hat]; exact hs)), if_neg (by omega)]
  have het : makeT bs up m = bs ++ [⟨up, m, 1, 0⟩] := by unfold makeT; rw [he]; rfl
  have hinv := inv_make (m := m) h.inv (.inr hin) hl
  unfold RMakeP
  rw [he, het]
  obtain ⟨DA, dcap, hdv⟩ := h.form
  obtain ⟨n, hn⟩ : ∃ n, bs.length = n := ⟨_, rfl⟩
  have HLN := Lib.hid hn
  have hbn : (bs ++ [(⟨up, m, 1, 0⟩ : Bub)]).length = n + 1 := by simp [hn]
  have hone : ∀ u ∈ bubC bs, u.oneCell' = true := bubC_ones bs
  rw [hn] at hdv hl ⊢
  subst hdv
  have tu : (up != -1) = true := by simpa using hu
  have hrun : ∀ W, (Op.equalIn 10000 28 (.agg (cellsOf m)) (.agg (cellsOf fun _ => false))).run Try.prog W = .ok false W := fun W => by rw [run_equal_set]; exact congrArg (fun b => Result.ok b W) hm
  have hz := cellsOf_zero.symm
  have HLT := Lib.hid hl
  have tl : decide ((32 : Int) ≤ (n : Int)) = false := by simp; omega
  have hbc := bubC_app bs [⟨up, m, 1, 0⟩]
  rw [bubC_one] at hbc
  have HBD := Lib.hid (build_bub up m); have HBS := Lib.hid (build_slice_bub ⟨up, m, 1, 0⟩)
  have HBL := Lib.hid (bubL_len ⟨up, m, 1, 0⟩)
  have HB1x := Lib.hid (bubL_one ⟨up, m, 1, 0⟩)
  have HZ19 : Hid ((Value.agg (bubL zB).toArray).cells.size = 19) := by show _ = _; rfl
  have HH := Lib.hid (ris_any up hF1)
  rw [hin] at HH
  obtain ⟨g0, cp, hv, hr, -⟩ := row_at hF1.row hx
  rw [HLN.out] at hv
  simp only [Value.slice.injEq] at hv
  obtain ⟨rfl, -, rfl⟩ := hv
  have y17 := hr 17 _ (bubL_17 x)
  have i0 : (0 : Int) ≤ up := by omega
  have i1 : up < (n : Int) := by have := inB_iff.1 hin; have := HLN.out; omega
  have i2 : up.toNat < n := by omega
  rw [hs] at y17
  have HDF := Lib.hid hF1
  clear hr hs hx hup hin hat hm hu h hal hF1 hn he het
  go_enter Try.func49, Try.ntmps49
  go_upto_region 9 with (first
    | (go_at_call 71; (with_reducible refine HH.out.mono ?_); rintro e wq ⟨rfl, rfl⟩)
    | (with_reducible (show wpList _ _ _ _ _ _); refine ld_set rfl (.tmp 5) rfl w.heap.size rfl m HG1.out ?_))
  have HBW : Hid (Below w.heap.size w (w.alloc (.cells (cellsOf m) 28))) := Lib.hid ((Below.refl _ _).alloc (Nat.le_refl _) _)
  have HXB2 : Hid ((w.alloc (.cells (cellsOf m) 28)).heap[w.heap.size]? = some (.cells (cellsOf m) 28 (0, 0))) := Lib.hid HG1.out
  have HD2 : Hid (DocL (.slice (some ⟨g0, 0, none⟩) n dcap) bs (w.alloc (.cells (cellsOf m) 28))) := HDF
  have HBO := HB1x
  have HBC := Lib.hid hbc; have HBN := Lib.hid hbn; have HINV := Lib.hid hinv; have HONE := Lib.hid hone
  clear hbc hbn hinv HDF HB1x tl HG1 hone hrun hz tu y17 HH
  generalize w.alloc (.cells (cellsOf m) 28) = w2 at *
  generalize bubL ⟨up, m, 1, 0⟩ = B at *
  generalize hXE : w.heap.size = XB at *
  have HXE := Lib.hid hXE
  clear hXE
  have HROW : Hid (∀ W, Below w2.heap.size w2 W → W.ownsRow 0 30 19 (.slice (some ⟨g0, 0, none⟩) n dcap) n (bubC bs)) := fun W q => by have := (HD2.out.below q).row; rw [HLN.out] at this; exact this
  have HSET : Hid (∀ W, Below w2.heap.size w2 W → W.heap[XB]? = some (.cells (cellsOf m) 28 (0, 0))) := fun W q => (q.block XB (Array.getElem?_eq_some_iff.1 HXB2.out).1).trans HXB2.out
  have HB0 : Hid (Below w2.heap.size w2 w2.drew) := (Below.refl _ _).drew
  have HBA : Hid (Below w2.heap.size w2 (w2.alloc (.cells #[] 30)).drew) := ((Below.refl _ _).alloc (Nat.le_refl _) _).drew
  have HBB : Hid (Below w2.heap.size w2 (w2.alloc (.cells B.toArray 30)).drew) := ((Below.refl _ _).alloc (Nat.le_refl _) _).drew
  have HBAB : Hid (Below w2.heap.size w2 ((w2.alloc (.cells #[] 30)).alloc (.cells B.toArray 30)).drew) := (((Below.refl _ _).alloc (Nat.le_refl _) _).alloc (by simp) _).drew
  have HBBA : Hid (Below w2.heap.size w2 ((w2.alloc (.cells B.toArray 30)).alloc (.cells #[] 30)).drew) := (((Below.refl _ _).alloc (Nat.le_refl _) _).alloc (by simp) _).drew
  have HOA : Hid ((w2.alloc (.cells #[] 30)).drew.ownsRow w2.heap.size 30 19 (.slice (some ⟨w2.heap.size, 0, none⟩) 0 0) 0 []) := World.ownsRow_lit w2 #[] 0 (Nat.le_refl _) (Nat.zero_le _) rfl
  have HOAB : Hid (((w2.alloc (.cells #[] 30)).alloc (.cells B.toArray 30)).drew.ownsRow w2.heap.size 30 19 (.slice (some ⟨w2.heap.size, 0, none⟩) 0 0) 0 []) := HOA.out.alloc _
  have HOBA : Hid (((w2.alloc (.cells B.toArray 30)).alloc (.cells #[] 30)).drew.ownsRow w2.heap.size 30 19 (.slice (some ⟨w2.heap.size + 1, 0, none⟩) 0 0) 0 []) := by
    have := World.ownsRow_lit (base := w2.heap.size) (e := 30) (size := 19) (w2.alloc (.cells B.toArray 30)) #[] 0 (by simp) (Nat.zero_le _) rfl
    simp at this
    exact this
  have HXAB : Hid (Blk ((w2.alloc (.cells #[] 30)).alloc (.cells B.toArray 30)).drew (w2.heap.size + 1) 30 B.toArray) := by
    have := Blk.new (w2.alloc (.cells #[] 30)) 30 B.toArray
    simp at this
    exact this
  have HXBA : Hid (Blk ((w2.alloc (.cells B.toArray 30)).alloc (.cells #[] 30)).drew w2.heap.size 30 B.toArray) := (Blk.new w2 30 B.toArray).alloc _
  have HFIN : Hid (∀ g cap w6, w6.ownsRow w2.heap.size 30 19 (.slice (some ⟨g, 0, none⟩) (n + 1) cap) (n + 1) (bubC bs ++ B) → Below w2.heap.size w2 w6 → w2.heap.size ≤ g →
      ∃ d', Ending.returned (.tuple #[.slice (some ⟨g, 0, none⟩) (n + 1) cap, .int .i64 n, .int .i64 0]) = .returned (.tuple #[d', .int .i64 n, .int .i64 0]) ∧ DocL d' (bs ++ [⟨up, m, 1, 0⟩]) w6 ∧ Below w.heap.size w w6 ∧ (d' = (.slice (some ⟨g0, 0, none⟩) n dcap) ∨ ∀ g, d'.ownBlock = some g → w.heap.size ≤ g)) := fun g cap w6 own6 b6 hg => by
    have hsz := HBW.out.size
    have he := HXE.out
    refine ⟨_, rfl, ⟨?_, HINV.out⟩, ?_, .inr fun g' hg' => ?_⟩
    · rw [HBC.out, HBN.out]
      exact ⟨own6.1, own6.2.imp id fun ⟨g, cap, cur, a, _, r⟩ => ⟨g, cap, cur, a, Nat.zero_le _, r⟩⟩
    · have hw := HBW.out; rw [← he] at hw; exact hw.trans (b6.mono hsz)
    · simp [Value.ownBlock] at hg'; omega
  obtain ⟨i0, hi0, hz0, hz1, hz2⟩ := info_parts infoBub
  have hb32 := HLT.out
  refine wp_region_held_drew (S := fun W => W.heap[XB]? = some (.cells (cellsOf m) 28 (0, 0))) (by kernel_rfl) (HSET.out _ HB0.out) (fun hHeld => ?_)
  show wpAnyH _ _ _ _ _ _ _ _ _
  try dsimp only at hHeld
  refine wpAnyH_take (i := 1) (v := ?_) rfl (by kernel_rfl) (by kernel_rfl) (by kernel_rfl) (fun _ _ _ h => h) (Or.inl ⟨by rfl, fun W hW => by (go_simp <;> with_reducible rfl)⟩) hHeld ?_
  go_simp
  refine wpAnyH_take (i := 3) (v := ?_) rfl (by kernel_rfl) (by kernel_rfl) (by kernel_rfl) (fun _ _ _ h => h) (Or.inl ⟨by rfl, fun W hW => by (go_simp <;> with_reducible rfl)⟩) hHeld ?_
  go_simp
  refine wpAnyH_take (i := 4) (v := .agg (cellsOf m)) rfl (by kernel_rfl) (by kernel_rfl) (by kernel_rfl) (fun _ _ _ h => h) (yieldsIf_load_set (by rfl) (.tmp 5) rfl XB m rfl (fun W h => h)) hHeld ?_
  go_simp
  refine wpAnyH_take (i := 5) (v := .agg B.toArray) rfl (by kernel_rfl) (by kernel_rfl) (by kernel_rfl) (fun _ _ _ h => h) (yieldsIf_build (by rfl) 30 _ rfl #[(0, .int .i64 up), (1, .agg (cellsOf m)), (2, .int .i64 1)] (by kernel_rfl) _ (fun W => HBD.out W)) hHeld ?_
  go_simp
  refine wpAnyH_take (i := 8) (v := ?_) rfl (by kernel_rfl) (by kernel_rfl) (by kernel_rfl) (fun _ _ _ h => h) (Or.inl ⟨by rfl, fun W hW => by (go_simp <;> with_reducible rfl)⟩) hHeld ?_
  go_simp
  refine wpAnyH_take (i := 9) (v := ?_) rfl (by kernel_rfl) (by kernel_rfl) (by kernel_rfl) (fun _ _ _ h => h) (Or.inl ⟨by rfl, fun W hW => by (go_simp <;> with_reducible rfl)⟩) hHeld ?_
  go_simp
  refine wpAnyH_ready (rs := [0, 6]) (by kernel_rfl) (by simp) (AllReadyH.cons rfl (fun K hK => ?_) (AllReadyH.cons rfl (fun K hK => ?_) (AllReadyH.nil)))
  · go_simp
    refine hK.out _ _ (HSET.out _ HBA.out) (fun hHeld => ?_)
    clear hK K
    refine wpAnyH_ready (rs := [2, 6]) (by kernel_rfl) (by simp) (AllReadyH.cons rfl (fun K hK => ?_) (AllReadyH.cons rfl (fun K hK => ?_) (AllReadyH.nil)))
    · refine step_append_row _ rfl (.tmp 37) (.tmp 38) 66 rfl w2.heap.size 0 30 i0 _ 19 152 Try.underlying66 hi0 hz0 hz1 hz2 HZ19.out (by decide) (.slice (some ⟨w2.heap.size, 0, none⟩) 0 0) 0 [] rfl HOA.out (.slice (some ⟨g0, 0, none⟩) n dcap) n (bubC bs) rfl (HROW.out _ HBA.out) HONE.out (by unfold maxLen; omega) (by omega) (HBA.out.size) ?_
      intro v5 w5 own5 gr5 hv5
      rw [Nat.zero_add, List.nil_append] at own5
      have B5 : Hid (Below w2.heap.size w2 w5) := Lib.hid (HBA.out.grown gr5 HBA.out.size (fun k hk => by simp [Value.ownBlock] at hk; omega))
      have HV5 : Hid (∀ k, v5.ownBlock = some k → w2.heap.size ≤ k) := Lib.hid fun k hk => (own5.lt k hk).1
      refine hK.out _ _ (HSET.out w5 B5.out) (fun hHeld => ?_)
      clear hK K
      refine wpAnyH_ready (rs := [6]) (by kernel_rfl) (by simp) (AllReadyH.cons rfl (fun K hK => ?_) (AllReadyH.nil))
      refine step_build_slice rfl 66 1 _ rfl #[(0, .agg B.toArray)] (by kernel_rfl) _ _ (HBS.out _) ?_
      have B7 : Hid (Below w2.heap.size w2 (w5.alloc (.cells B.toArray 30))) := Lib.hid (B5.out.alloc B5.out.size _)
      have HX7 : Hid (Blk (w5.alloc (.cells B.toArray 30)) w5.heap.size 30 B.toArray) := Lib.hid (Blk.new w5 30 B.toArray)
      have own7 := own5.alloc (.cells B.toArray 30)
      refine hK.out _ _ (HSET.out _ B7.out) (fun hHeld => ?_)
      clear hK K
      refine wpAnyH_ready (rs := [7]) (by kernel_rfl) (by simp) (AllReadyH.cons rfl (fun K hK => ?_) (AllReadyH.nil))
      refine step_append_lies _ rfl (.tmp 39) (.tmp 43) 66 rfl w2.heap.size 30 i0 _ 19 152 Try.underlying66 hi0 hz0 hz1 hz2 HZ19.out (by decide) v5 n (bubC bs) rfl (own7) ⟨w5.heap.size, 0, none⟩ 1 1 B rfl (by rw [HBL.out]) (fun j u hu => by rw [Addr.add_mid]; exact blk_rangeB HX7.out j u hu) HBO.out (by decide) (by unfold maxLen; omega) (by omega) (B7.out.size) _ rfl ?_
      intro g cap w6 own6 gr6 hg6 hl6
      have B6 : Hid (Below w2.heap.size w2 w6) := Lib.hid (B7.out.grown gr6 B7.out.size HV5.out)
      have f6 := HSET.out w6 B6.out
      have hg7 : w2.heap.size ≤ g := (own6.lt g rfl).1
      refine hK.out _ _ (f6) (fun hHeld => ?_)
      clear hK K
      refine wpAnyH_take (i := 10) (v := ?_) rfl (by kernel_rfl) (by kernel_rfl) (by kernel_rfl) (fun _ _ _ h => h) (Or.inl ⟨by rfl, fun W hW => by (go_simp <;> with_reducible rfl)⟩) hHeld ?_
      go_simp
      refine wpAnyH_take (i := 11) (v := ?_) rfl (by kernel_rfl) (by kernel_rfl) (by kernel_rfl) (fun _ _ _ h => h) (Or.inl ⟨by rfl, fun W hW => by (go_simp <;> with_reducible rfl)⟩) hHeld ?_
      go_simp
      refine wpAnyH_take (i := 12) (v := ?_) rfl (by kernel_rfl) (by kernel_rfl) (by kernel_rfl) (fun _ _ _ h => h) (Or.inl ⟨by rfl, fun W hW => by (go_simp <;> with_reducible rfl)⟩) hHeld ?_
      go_simp
      refine wpAnyH_done (by kernel_rfl) ?_ _
      go_wp2_with fail
      refine bodyPost_ret (v := .tuple #[.slice (some ⟨g, 0, none⟩) (n + 1) cap, .int .i64 n, .int .i64 0]) (by simp [results, Try.results49]) rfl ?_
      exact HFIN.out g cap w6 own6 B6.out hg7
    · refine step_build_slice rfl 66 1 _ rfl #[(0, .agg B.toArray)] (by kernel_rfl) _ _ (HBS.out _) ?_
      refine hK.out _ _ (HSET.out _ HBAB.out) (fun hHeld => ?_)
      clear hK K
      refine wpAnyH_ready (rs := [2]) (by kernel_rfl) (by simp) (AllReadyH.cons rfl (fun K hK => ?_) (AllReadyH.nil))
      refine step_append_row _ rfl (.tmp 37) (.tmp 38) 66 rfl w2.heap.size 0 30 i0 _ 19 152 Try.underlying66 hi0 hz0 hz1 hz2 HZ19.out (by decide) (.slice (some ⟨w2.heap.size, 0, none⟩) 0 0) 0 [] rfl HOAB.out (.slice (some ⟨g0, 0, none⟩) n dcap) n (bubC bs) rfl (HROW.out _ HBAB.out) HONE.out (by unfold maxLen; omega) (by omega) (HBAB.out.size) ?_
      intro v5 w5 own5 gr5 hv5
      rw [Nat.zero_add, List.nil_append] at own5
      have B5 : Hid (Below w2.heap.size w2 w5) := Lib.hid (HBAB.out.grown gr5 HBAB.out.size (fun k hk => by simp [Value.ownBlock] at hk; omega))
      have HV5 : Hid (∀ k, v5.ownBlock = some k → w2.heap.size ≤ k) := Lib.hid fun k hk => (own5.lt k hk).1
      have HX5 : Hid (Blk w5 (w2.alloc (.cells #[] 30)).heap.size 30 B.toArray) := by
        rw [show (w2.alloc (.cells #[] 30)).heap.size = w2.heap.size + 1 by simp]
        exact Lib.hid (Blk.grown_ HXAB.out gr5 (by simp [Value.ownBlock]))
      refine hK.out _ _ (HSET.out w5 B5.out) (fun hHeld => ?_)
      clear hK K
      refine wpAnyH_ready (rs := [7]) (by kernel_rfl) (by simp) (AllReadyH.cons rfl (fun K hK => ?_) (AllReadyH.nil))
      refine step_append_lies _ rfl (.tmp 39) (.tmp 43) 66 rfl w2.heap.size 30 i0 _ 19 152 Try.underlying66 hi0 hz0 hz1 hz2 HZ19.out (by decide) v5 n (bubC bs) rfl (own5) ⟨(w2.alloc (.cells #[] 30)).heap.size, 0, none⟩ 1 1 B rfl (by rw [HBL.out]) (fun j u hu => by rw [Addr.add_mid]; exact blk_rangeB HX5.out j u hu) HBO.out (by decide) (by unfold maxLen; omega) (by omega) (B5.out.size) _ rfl ?_
      intro g cap w6 own6 gr6 hg6 hl6
      have B6 : Hid (Below w2.heap.size w2 w6) := Lib.hid (B5.out.grown gr6 B5.out.size HV5.out)
      have f6 := HSET.out w6 B6.out
      have hg7 : w2.heap.size ≤ g := (own6.lt g rfl).1
      refine hK.out _ _ (f6) (fun hHeld => ?_)
      clear hK K
      refine wpAnyH_take (i := 10) (v := ?_) rfl (by kernel_rfl) (by kernel_rfl) (by kernel_rfl) (fun _ _ _ h => h) (Or.inl ⟨by rfl, fun W hW => by (go_simp <;> with_reducible rfl)⟩) hHeld ?_
      go_simp
      refine wpAnyH_take (i := 11) (v := ?_) rfl (by kernel_rfl) (by kernel_rfl) (by kernel_rfl) (fun _ _ _ h => h) (Or.inl ⟨by rfl, fun W hW => by (go_simp <;> with_reducible rfl)⟩) hHeld ?_
      go_simp
      refine wpAnyH_take (i := 12) (v := ?_) rfl (by kernel_rfl) (by kernel_rfl) (by kernel_rfl) (fun _ _ _ h => h) (Or.inl ⟨by rfl, fun W hW => by (go_simp <;> with_reducible rfl)⟩) hHeld ?_
      go_simp
      refine wpAnyH_done (by kernel_rfl) ?_ _
      go_wp2_with fail
      refine bodyPost_ret (v := .tuple #[.slice (some ⟨g, 0, none⟩) (n + 1) cap, .int .i64 n, .int .i64 0]) (by simp [results, Try.results49]) rfl ?_
      exact HFIN.out g cap w6 own6 B6.out hg7
  · refine step_build_slice rfl 66 1 _ rfl #[(0, .agg B.toArray)] (by kernel_rfl) _ _ (HBS.out _) ?_
    refine hK.out _ _ (HSET.out _ HBB.out) (fun hHeld => ?_)
    clear hK K
    refine wpAnyH_ready (rs := [0]) (by kernel_rfl) (by simp) (AllReadyH.cons rfl (fun K hK => ?_) (AllReadyH.nil))
    go_simp
    refine hK.out _ _ (HSET.out _ HBBA.out) (fun hHeld => ?_)
    clear hK K
    refine wpAnyH_ready (rs := [2]) (by kernel_rfl) (by simp) (AllReadyH.cons rfl (fun K hK => ?_) (AllReadyH.nil))
    refine step_append_row _ rfl (.tmp 37) (.tmp 38) 66 rfl w2.heap.size 0 30 i0 _ 19 152 Try.underlying66 hi0 hz0 hz1 hz2 HZ19.out (by decide) (.slice (some ⟨w2.heap.size + 1, 0, none⟩) 0 0) 0 [] rfl HOBA.out (.slice (some ⟨g0, 0, none⟩) n dcap) n (bubC bs) rfl (HROW.out _ HBBA.out) HONE.out (by unfold maxLen; omega) (by omega) (HBBA.out.size) ?_
    intro v5 w5 own5 gr5 hv5
    rw [Nat.zero_add, List.nil_append] at own5
    have B5 : Hid (Below w2.heap.size w2 w5) := Lib.hid (HBBA.out.grown gr5 HBBA.out.size (fun k hk => by simp [Value.ownBlock] at hk; omega))
    have HV5 : Hid (∀ k, v5.ownBlock = some k → w2.heap.size ≤ k) := Lib.hid fun k hk => (own5.lt k hk).1
    have HX5 : Hid (Blk w5 w2.heap.size 30 B.toArray) := Lib.hid (Blk.grown_ HXBA.out gr5 (by simp [Value.ownBlock]))
    refine hK.out _ _ (HSET.out w5 B5.out) (fun hHeld => ?_)
    clear hK K
    refine wpAnyH_ready (rs := [7]) (by kernel_rfl) (by simp) (AllReadyH.cons rfl (fun K hK => ?_) (AllReadyH.nil))
    refine step_append_lies _ rfl (.tmp 39) (.tmp 43) 66 rfl w2.heap.size 30 i0 _ 19 152 Try.underlying66 hi0 hz0 hz1 hz2 HZ19.out (by decide) v5 n (bubC bs) rfl (own5) ⟨w2.heap.size, 0, none⟩ 1 1 B rfl (by rw [HBL.out]) (fun j u hu => by rw [Addr.add_mid]; exact blk_rangeB HX5.out j u hu) HBO.out (by decide) (by unfold maxLen; omega) (by omega) (B5.out.size) _ rfl ?_
    intro g cap w6 own6 gr6 hg6 hl6
    have B6 : Hid (Below w2.heap.size w2 w6) := Lib.hid (B5.out.grown gr6 B5.out.size HV5.out)
    have f6 := HSET.out w6 B6.out
    have hg7 : w2.heap.size ≤ g := (own6.lt g rfl).1
    refine hK.out _ _ (f6) (fun hHeld => ?_)
    clear hK K
    refine wpAnyH_take (i := 10) (v := ?_) rfl (by kernel_rfl) (by kernel_rfl) (by kernel_rfl) (fun _ _ _ h => h) (Or.inl ⟨by rfl, fun W hW => by (go_simp <;> with_reducible rfl)⟩) hHeld ?_
    go_simp
    refine wpAnyH_take (i := 11) (v := ?_) rfl (by kernel_rfl) (by kernel_rfl) (by kernel_rfl) (fun _ _ _ h => h) (Or.inl ⟨by rfl, fun W hW => by (go_simp <;> with_reducible rfl)⟩) hHeld ?_
    go_simp
    refine wpAnyH_take (i := 12) (v := ?_) rfl (by kernel_rfl) (by kernel_rfl) (by kernel_rfl) (fun _ _ _ h => h) (Or.inl ⟨by rfl, fun W hW => by (go_simp <;> with_reducible rfl)⟩) hHeld ?_
    go_simp
    refine wpAnyH_done (by kernel_rfl) ?_ _
    go_wp2_with fail
    refine bodyPost_ret (v := .tuple #[.slice (some ⟨g, 0, none⟩) (n + 1) cap, .int .i64 n, .int .i64 0]) (by simp [results, Try.results49]) rfl ?_
    exact HFIN.out g cap w6 own6 B6.out hg7
theorem rmake_any (up : Int) (m : Nat → Bool) (h : DocL d bs w) : Calls Try.prog 49 #[d, .int .i64 up, .agg (cellsOf m)] w (RMakeP d bs up m w) := by
  by_cases hu : up = -1
  · cases hm : emptyP m with
    | true => exact rmake_top_mask up m h hu hm
    | false =>
      by_cases hl : bs.length < 32
      · exact rmake_top_ok up m h hu hm hl
      · exact rmake_top_full up m h hu hm (by omega)
  · cases hi : inB bs up with
    | false => exact rmake_arg up m h hu hi
    | true =>
      obtain ⟨k, x, hk, hx⟩ := inB_nat hi
      have hup : up = (up.toNat : Int) := by omega
      have hx' : bs[up.toNat]? = some x := by rw [show up.toNat = k by omega]; exact hx
      cases hm : emptyP m with
      | true => exact rmake_in_mask up m h hx' hup hu hm
      | false =>
        by_cases hs : x.state = 1
        · by_cases hl : bs.length < 32
          · exact rmake_in_ok up m h hx' hup hu hm hs hl
          · exact rmake_in_full up m h hx' hup hu hm hs (by omega)
        · exact rmake_in_state up m h hx' hup hu hm hs
end
end Go.Proofs.Ytekahmfchpgmfaa
