/- A table's Add (layer 12). -/
import Derived.Test.YtdlncbndhljhfaaTc
namespace Go.Proofs.Ytdlncbndhljhfaa
open Go.RowKit

section
variable {b c gl gn room : Nat} {v : Value} {ts : List (List Value)} {ls : Nat → List Nat} {w : World}
set_option maxHeartbeats 2000000 in
theorem add_bad {p : Option Addr} (cs : List Value) (ho : OkT cs) (hm : mayT cs = false) (w : World) :
    Calls Try.prog 19 #[.pointer p, .agg cs.toArray] w (GotB w.heap.size (.tuple #[.int .i64 0, .int .i64 1]) w) := by
  have hB : Below w.heap.size w (w.alloc (.cells cs.toArray 38)) := (Below.refl _ _).alloc (Nat.le_refl _) _
  have HB := Lib.hid hB
  have hl := (BT.new w cs).range
  have HI := Lib.hid (infoT.trans (congrArg some ho.len.symm))
  have HRG := Lib.hid hl
  clear hl
  have HM := Lib.hid (may_any cs ho (w.alloc (.cells cs.toArray 38)))
  rw [hm] at HM
  clear hB ho hm
  go_enter Try.func19, Try.ntmps19
  go_wp2_with (first
    | (with_reducible (show wpList _ _ _ _ _ _); refine wpList_load_mid rfl 38 (.tmp 3) rfl w.heap.size 0 rfl cs _ HRG.out Try.underlying38 rfl HI.out ?_)
    | (go_at_call 13; (with_reducible refine HM.out.mono ?_); rintro e w2 ⟨rfl, h2⟩; have H2 := Lib.hid h2; clear h2))
  go_ret2
  exact ⟨rfl, HB.out.trans (H2.out.mono HB.out.size)⟩
set_option maxHeartbeats 2000000 in
theorem add_full {p : Option Addr} (cs : List Value) (ho : OkT cs) (hm : mayT cs = true) (n r : Nat) (hn : r ≤ n) (w : World)
    (hL : ∀ W, Below w.heap.size w W → Calls Try.prog 23 #[.pointer p] W fun e w' => e = .returned (.int .i64 n) ∧ W = w')
    (hR : ∀ W, Below w.heap.size w W → Calls Try.prog 12 #[.pointer p] W fun e w' => e = .returned (.int .i64 r) ∧ W = w') :
    Calls Try.prog 19 #[.pointer p, .agg cs.toArray] w (GotB w.heap.size (.tuple #[.int .i64 0, .int .i64 4]) w) := by
  have hB : Below w.heap.size w (w.alloc (.cells cs.toArray 38)) := (Below.refl _ _).alloc (Nat.le_refl _) _
  have HB := Lib.hid hB
  have hl := (BT.new w cs).range
  have HI := Lib.hid (infoT.trans (congrArg some ho.len.symm))
  have HRG := Lib.hid hl
  clear hl
  have HM := Lib.hid (may_any cs ho (w.alloc (.cells cs.toArray 38)))
  rw [hm] at HM
  have HL := Lib.hid hL; have HR := Lib.hid hR
  have t : decide ((r : Int) ≤ (n : Int)) = true := by simp; omega
  clear hB ho hm hL hR
  go_enter Try.func19, Try.ntmps19
  go_wp2_with (with_reducible (show wpList _ _ _ _ _ _); refine wpList_load_mid rfl 38 (.tmp 3) rfl w.heap.size 0 rfl cs _ HRG.out Try.underlying38 rfl HI.out ?_)
  refine HM.out.mono ?_
  rintro e w2 ⟨rfl, h2⟩
  dsimp only
  have H2 := Lib.hid (HB.out.trans (h2.mono HB.out.size))
  have HL2 := Lib.hid (HL.out w2 H2.out); have HR2 := Lib.hid (HR.out w2 H2.out)
  clear h2 HL HR HB HM HRG
  go_wp2_with (first
    | (go_at_call 23; (with_reducible refine HL2.out.mono ?_); rintro e wq ⟨rfl, rfl⟩)
    | (go_at_call 12; (with_reducible refine HR2.out.mono ?_); rintro e wq ⟨rfl, rfl⟩))
  go_ret2
  exact ⟨rfl, H2.out⟩
theorem fold_put : ∀ (cs : List Value) (A : Array Value) (k j : Nat), (List.foldl (fun (a : Array Value) (x : Value × Nat) => a.setIfInBounds x.2 x.1) A (cs.zipIdx k))[j]? = if k ≤ j ∧ j < k + cs.length ∧ j < A.size then cs[j - k]? else A[j]?
  | [], A, k, j => by simp; omega
  | x :: t, A, k, j => by
    rw [List.zipIdx_cons, List.foldl_cons, fold_put t _ (k + 1) j]
    simp only [Array.size_setIfInBounds, List.length_cons]
    by_cases h : k + 1 ≤ j ∧ j < k + 1 + t.length ∧ j < A.size
    · rw [if_pos h, if_pos (by omega), show j - k = (j - (k + 1)) + 1 by omega, List.getElem?_cons_succ]
    · rw [if_neg h]
      by_cases e : j = k
      · subst e
        by_cases hs : j < A.size
        · rw [if_pos (by omega), Nat.sub_self]; simp [hs]
        · rw [if_neg (by omega)]; simp [hs]
      · rw [Array.getElem?_setIfInBounds_ne (Ne.symm e), if_neg (by omega)]
theorem fold_all (cs : List Value) (A : Array Value) (h : A.size = cs.length) : List.foldl (fun (a : Array Value) (x : Value × Nat) => a.setIfInBounds x.2 x.1) A cs.zipIdx = cs.toArray := by
  apply Array.ext_getElem?
  intro j
  rw [fold_put]
  by_cases hj : j < cs.length
  · rw [if_pos (by omega)]; simp
  · rw [if_neg (by omega)]; simp [hj, h]
/-- No task. -/
def zT : List Value := [.int .i64 0, .int .i64 0, .int .i32 0, .int .i32 0, .int .i32 0, .int .i32 0, .int .i64 0, .int .u64 0, .int .u64 0, .int .u64 0, .int .u64 0, .int .u64 0, .int .u64 0, .int .u64 0, .int .u64 0, .int .u64 0, .int .u64 0, .int .u64 0, .int .u64 0, .int .u64 0, .int .u64 0, .int .u64 0, .int .u64 0, .int .i64 0, .int .i64 0, .int .i64 0, .int .i64 0, .int .i64 0, .int .i64 0]
theorem zT_ok : OkT zT := ⟨rfl, fun j hj => by
  have : j = 0 ∨ j = 1 ∨ j = 2 ∨ j = 3 ∨ j = 4 ∨ j = 5 ∨ j = 6 ∨ j = 7 ∨ j = 8 ∨ j = 9 ∨ j = 10 ∨ j = 11 ∨ j = 12 ∨ j = 13 ∨ j = 14 ∨ j = 15 ∨ j = 16 ∨ j = 17 ∨ j = 18 ∨ j = 19 ∨ j = 20 ∨ j = 21 ∨ j = 22 ∨ j = 23 ∨ j = 24 ∨ j = 25 ∨ j = 26 ∨ j = 27 ∨ j = 28 := by omega
  rcases this with rfl | rfl | rfl | rfl | rfl | rfl | rfl | rfl | rfl | rfl | rfl | rfl | rfl | rfl | rfl | rfl | rfl | rfl | rfl | rfl | rfl | rfl | rfl | rfl | rfl | rfl | rfl | rfl | rfl <;> exact ⟨0, rfl⟩⟩
theorem infoTask : (Try.prog.info? 38).map (fun i => (i.zero, i.size, i.bytes)) = some (some (.agg zT.toArray), 29, 216) := by kernel_rfl
set_option maxRecDepth 100000 in
set_option maxHeartbeats 8000000 in
theorem add_ok (cs : List Value) (ho : OkT cs) (hm : mayT cs = true) (h : TabC b c gl gn v room ts ls w) (hlt : ts.length < room) :
    Calls Try.prog 19 #[.pointer (some ⟨b, 0, none⟩), .agg cs.toArray] w fun e w' => ∃ v', e = .returned (.tuple #[.int .i64 ts.length, .int .i64 0]) ∧ TabC b c gl gn v' room (ts ++ [cs]) ls w' ∧ But (OwnT b c gl gn v) w w' ∧ ∀ g, v'.ownBlock = some g → v.ownBlock = some g ∨ w.heap.size ≤ g := by
  have hB : Below w.heap.size w (w.alloc (.cells cs.toArray 38)) := (Below.refl _ _).alloc (Nat.le_refl _) _
  have HB := Lib.hid hB
  have hlim := h.lim
  have hl := (BT.new w cs).range
  have HI := Lib.hid (infoT.trans (congrArg some ho.len.symm))
  have HRG := Lib.hid hl
  clear hl
  have HM := Lib.hid (may_any cs ho (w.alloc (.cells cs.toArray 38)))
  rw [hm] at HM
  have HT := Lib.hid h; have HX := Lib.hid (BT.new w cs); have HO := Lib.hid ho
  have t : decide ((room : Int) ≤ (ts.length : Int)) = false := by simp; omega
  clear hB ho hm h
  go_enter Try.func19, Try.ntmps19
  go_wp2_with (with_reducible (show wpList _ _ _ _ _ _); refine wpList_load_mid rfl 38 (.tmp 3) rfl w.heap.size 0 rfl cs _ HRG.out Try.underlying38 rfl HI.out ?_)
  refine HM.out.mono ?_
  rintro e w2 ⟨rfl, h2⟩
  dsimp only
  have H2 := Lib.hid (HB.out.trans (h2.mono HB.out.size))
  have HX2 : Hid (BT w2 w.heap.size cs) := HX.out.below h2 (Blk.lt HX.out)
  have HT2 := Lib.hid (HT.out.below H2.out)
  have HL2 := Lib.hid (tlen_any HT2.out); have HR2 := Lib.hid (troom_any HT2.out)
  have HXF : Hid (∀ k, OwnT b c gl gn v k → k < w.heap.size) := fun k hk => HT.out.lt hk
  clear h2 HB HM HRG HX HT
  obtain ⟨XB, hXB⟩ : ∃ k, w.heap.size = k := ⟨_, rfl⟩
  rw [hXB] at H2 HX2 HXF ⊢
  have HXE := Lib.hid hXB
  clear hXB
  go_upto_region 6 with (first
    | (go_at_call 23; (with_reducible refine HL2.out.mono ?_); rintro e wq ⟨rfl, rfl⟩)
    | (go_at_call 12; (with_reducible refine HR2.out.mono ?_); rintro e wq ⟨rfl, rfl⟩))
  have c1 := HT2.out.cells.2.1
  have HXS : Hid (w2.drew.rangeAt XB 0 cs) := (BT.range HX2.out)
  obtain ⟨i0, hi0, hz0, hz1, hz2⟩ := info_parts infoTask
  have hlen := HO.out.len
  have hfold := fold_all cs #[Value.int IntKind.i64 0, Value.int IntKind.i64 0, Value.int IntKind.i32 0, Value.int IntKind.i32 0, Value.int IntKind.i32 0, Value.int IntKind.i32 0, Value.int IntKind.i64 0, Value.int IntKind.u64 0, Value.int IntKind.u64 0, Value.int IntKind.u64 0, Value.int IntKind.u64 0, Value.int IntKind.u64 0, Value.int IntKind.u64 0, Value.int IntKind.u64 0, Value.int IntKind.u64 0, Value.int IntKind.u64 0, Value.int IntKind.u64 0, Value.int IntKind.u64 0, Value.int IntKind.u64 0, Value.int IntKind.u64 0, Value.int IntKind.u64 0, Value.int IntKind.u64 0, Value.int IntKind.u64 0, Value.int IntKind.i64 0, Value.int IntKind.i64 0, Value.int IntKind.i64 0, Value.int IntKind.i64 0, Value.int IntKind.i64 0, Value.int IntKind.i64 0] (by rw [hlen]; rfl)
  have HW3 : Hid (BT (w2.alloc (.cells cs.toArray 38)).drew w2.heap.size cs) := BT.new w2 cs
  have HXS2 : Hid ((w2.alloc (.cells cs.toArray 38)).drew.rangeAt XB 0 cs) := BT.range (Blk.alloc HX2.out _)
  have HROW : Hid ((w2.alloc (.cells cs.toArray 38)).drew.ownsRow 0 38 29 v ts.length ts.flatten) := HT2.out.row.alloc _
  have HNEW : Hid (∀ j u, cs[j]? = some u → (w2.alloc (.cells cs.toArray 38)).drew.cell? ((⟨w2.heap.size, 0, none⟩ : Addr).add j) = some u) := fun j u hu => by
    rw [Addr.add_mid]; exact BT.range HW3.out j u hu
  have c1B : (w2.alloc (.cells cs.toArray 38)).cell? ⟨b, 1, none⟩ = some v := (HT2.out.own.alloc _).cell 1
  have HNV : Hid (∀ g, v.ownBlock = some g → g ≠ b ∧ g ≠ XB) := fun g hg => ⟨(HT2.out.nev g hg).1, fun e => by have := HXF.out g (.inr (.inr hg)); omega⟩
  have HS5 : Hid (∀ w5, (w2.alloc (.cells cs.toArray 38)).drew.grownBy w5 v.ownBlock → w5.rangeAt XB 0 cs) := fun w5 gr => BT.range (Blk.grown_ (Blk.drew_ (Blk.alloc HX2.out (.cells cs.toArray 38))) gr (fun e => (HNV.out XB e.symm).2 rfl))
  have HB5 : Hid (∀ w5, (w2.alloc (.cells cs.toArray 38)).drew.grownBy w5 v.ownBlock → Blk w5 b 88 #[.pointer (some ⟨c, 0, none⟩), v, .int .i64 room]) := fun w5 gr => Blk.grown_ (Blk.drew_ (HT2.out.own.alloc (.cells cs.toArray 38))) gr (fun e => (HNV.out b e.symm).1 rfl)
  have HV5 : Hid (∀ w5, (w2.alloc (.cells cs.toArray 38)).drew.grownBy w5 v.ownBlock → w5.cell? ⟨b, 1, none⟩ = some v) := fun w5 gr => (HB5.out w5 gr).cell 1
  have HFZ : Hid (∀ w5, (w2.alloc (.cells cs.toArray 38)).drew.grownBy w5 v.ownBlock → w5.frozen? ⟨b, 1, none⟩ = false) := fun w5 gr => (HB5.out w5 gr).free 1
  have HXB : Hid (XB ≠ b) := fun e => by have := HXF.out b (.inl rfl); omega
  have HST : Hid (∀ (w5 : World), w5.rangeAt XB 0 cs → ∀ u, (w5.setCell ⟨b, 1, none⟩ u).rangeAt XB 0 cs) := fun w5 h5 u j x hj => by
    rw [World.cell?_setCell_other _ _ _ _ (by intro e; exact HXB.out (congrArg Addr.block e).symm)]; exact h5 j x hj
  have HFIN : Hid (∀ g cap w5, w5.ownsRow 0 38 29 (.slice (some ⟨g, 0, none⟩) (ts.length + 1) cap) (ts.length + 1) (ts.flatten ++ cs) → (w2.alloc (.cells cs.toArray 38)).drew.grownBy w5 v.ownBlock → (v.ownBlock = some g ∨ g = w2.heap.size + 1) → g < w5.heap.size →
      TabC b c gl gn (.slice (some ⟨g, 0, none⟩) (ts.length + 1) cap) room (ts ++ [cs]) ls (w5.setCell ⟨b, 1, none⟩ (.slice (some ⟨g, 0, none⟩) (ts.length + 1) cap)) ∧ But (OwnT b c gl gn v) w (w5.setCell ⟨b, 1, none⟩ (.slice (some ⟨g, 0, none⟩) (ts.length + 1) cap)) ∧ ∀ g', Value.ownBlock (.slice (some ⟨g, 0, none⟩) (ts.length + 1) cap) = some g' → v.ownBlock = some g' ∨ w.heap.size ≤ g') := fun g cap w5 own5 gr5 hg5 hl5 => by
    have hsz := H2.out.size
    have he := HXE.out
    have hb' := HT2.out.own.lt
    have hgb : g ≠ b ∧ ¬ Own3 c gl gn g := by
      rcases hg5 with q | q
      · exact HT2.out.nev g q
      · exact ⟨by omega, fun z => by have := HXF.out g (.inr (.inl z)); omega⟩
    have hst : But (fun k => k = b) w5 (w5.setCell ⟨b, 1, none⟩ (.slice (some ⟨g, 0, none⟩) (ts.length + 1) cap)) := (But.refl _ _).set _ _ (.inl rfl)
    have hgr : But (fun k => v.ownBlock = some k) w2 w5 := ((But.refl (fun k => v.ownBlock = some k) w2).alloc _).drew.grown gr5 (fun k hk => .inl hk)
    have hch : Ch c gl gn room room ls w5 := HT2.out.ch.but hgr fun k hk q => (HT2.out.nev k q).2 hk
    refine ⟨⟨((HB5.out w5 gr5).set_ 1 _), ?_, ?_, hch.but hst fun k hk q => HT2.out.ne (q ▸ hk), by simp; omega, hlim, HT2.out.ne, fun g' hg' => ?_⟩, ?_, fun g' hg' => ?_⟩
    · have := row_but own5 hst fun g' hg' q => by simp [Value.ownBlock] at hg'; subst hg'; exact hgb.1 q
      simpa using this
    · intro x hx
      rcases List.mem_append.1 hx with q | q
      · exact HT2.out.oks x q
      · simp at q; subst q; exact HO.out
    · simp [Value.ownBlock] at hg'; subst hg'; exact hgb
    · refine (But.of_below (HXE.out ▸ H2.out)).trans (hgr.mono (fun k _ q => .inr (.inr q)) |>.trans (hst.mono fun k _ q => .inl q))
    · simp [Value.ownBlock] at hg'; subst hg'
      rcases hg5 with q | q
      · exact .inl q
      · right; omega
  refine wp_region_held_drew (S := fun W => W.rangeAt XB 0 cs) (by kernel_rfl) HXS.out (fun hHeld => ?_)
  show wpAnyH _ _ _ _ _ _ _ _ _
  try dsimp only at hHeld
  refine wpAnyH_take (i := 0) (v := ?_) rfl (by kernel_rfl) (by kernel_rfl) (by kernel_rfl) (fun _ _ _ h => h) (Or.inl ⟨by rfl, fun W hW => by (go_simp <;> with_reducible rfl)⟩) hHeld ?_
  go_simp
  refine wpAnyH_take (i := 1) (v := ?_) rfl (by kernel_rfl) (by kernel_rfl) (by kernel_rfl) (fun _ _ _ h => h) (Or.inl ⟨by rfl, fun W hW => by (go_simp <;> with_reducible rfl)⟩) hHeld ?_
  go_simp
  refine wpAnyH_take (i := 2) (v := ?_) rfl (by kernel_rfl) (by kernel_rfl) (by kernel_rfl) (fun _ _ _ h => h) (Or.inl ⟨by rfl, fun W hW => by (go_simp <;> with_reducible rfl)⟩) hHeld ?_
  go_simp
  refine wpAnyH_take (i := 3) (v := ?_) rfl (by kernel_rfl) (by kernel_rfl) (by kernel_rfl) (fun _ _ _ h => h) (Or.inl ⟨by rfl, fun W hW => by (go_simp <;> with_reducible rfl)⟩) hHeld ?_
  go_simp
  refine wpAnyH_take (i := 5) (v := .agg cs.toArray) rfl (by kernel_rfl) (by kernel_rfl) (by kernel_rfl) (fun _ _ _ h => h) (yieldsIf_load_mid (by rfl) 38 (.tmp 3) rfl XB 0 rfl cs _ (fun W h => h) Try.underlying38 rfl HI.out) hHeld ?_
  go_simp
  refine wpAnyH_ready (rs := [4, 6]) (by kernel_rfl) (by simp) (AllReadyH.cons rfl (fun K hK => ?_) (AllReadyH.cons rfl (fun K hK => ?_) (AllReadyH.nil)))
  · go_simp
    refine hK.out _ _ (HXS.out) (fun hHeld => ?_)
    clear hK K
    refine wpAnyH_ready (rs := [6]) (by kernel_rfl) (by simp) (AllReadyH.cons rfl (fun K hK => ?_) (AllReadyH.nil))
    · go_simp
      refine hK.out _ _ (HXS2.out) (fun hHeld => ?_)
      clear hK K
      refine wpAnyH_ready (rs := [7]) (by kernel_rfl) (by simp) (AllReadyH.cons rfl (fun K hK => ?_) (AllReadyH.nil))
      · refine step_append_lies _ rfl (.tmp 20) (.tmp 22) 27 rfl 0 38 i0 _ 29 216 Try.underlying27 hi0 hz0 hz1 hz2 rfl (by decide) v ts.length ts.flatten rfl HROW.out ⟨w2.heap.size, 0, none⟩ 1 1 cs rfl (by rw [HO.out.len]) HNEW.out HO.out.one (by decide) (by unfold maxLen; omega) (by omega) (Nat.zero_le _) (w2.heap.size + 1) (by simp) ?_
        intro g cap w5 own5 gr5 hg5 hl5
        have cf := HFZ.out w5 gr5
        have cs5 := HS5.out w5 gr5
        have cv5 := HV5.out w5 gr5
        refine hK.out _ _ (cs5) (fun hHeld => ?_)
        clear hK K
        refine wpAnyH_take (i := 8) (v := ?_) rfl (by kernel_rfl) (by kernel_rfl) (by kernel_rfl) (fun _ _ _ h => h) (Or.inl ⟨by rfl, fun W hW => by (go_simp <;> with_reducible rfl)⟩) hHeld ?_
        go_simp
        refine wpAnyH_take (i := 9) (v := ?_) rfl (by kernel_rfl) (by kernel_rfl) (by kernel_rfl) (fun _ _ _ h => h) (Or.inl ⟨by rfl, fun W hW => by (go_simp <;> with_reducible rfl)⟩) hHeld ?_
        go_simp
        refine wpAnyH_ready (rs := [10]) (by kernel_rfl) (by simp) (AllReadyH.cons rfl (fun K hK => ?_) (AllReadyH.nil))
        · go_simp
          refine hK.out _ _ (HST.out w5 cs5 _) (fun hHeld => ?_)
          clear hK K
          refine wpAnyH_done (by kernel_rfl) ?_ _
          go_wp2_with fail
          go_ret2
          exact ⟨_, rfl, HFIN.out g cap w5 own5 gr5 hg5 hl5⟩
  · go_simp
    refine hK.out _ _ (HXS2.out) (fun hHeld => ?_)
    clear hK K
    refine wpAnyH_ready (rs := [4]) (by kernel_rfl) (by simp) (AllReadyH.cons rfl (fun K hK => ?_) (AllReadyH.nil))
    · go_simp
      refine hK.out _ _ (HXS2.out) (fun hHeld => ?_)
      clear hK K
      refine wpAnyH_ready (rs := [7]) (by kernel_rfl) (by simp) (AllReadyH.cons rfl (fun K hK => ?_) (AllReadyH.nil))
      · refine step_append_lies _ rfl (.tmp 20) (.tmp 22) 27 rfl 0 38 i0 _ 29 216 Try.underlying27 hi0 hz0 hz1 hz2 rfl (by decide) v ts.length ts.flatten rfl HROW.out ⟨w2.heap.size, 0, none⟩ 1 1 cs rfl (by rw [HO.out.len]) HNEW.out HO.out.one (by decide) (by unfold maxLen; omega) (by omega) (Nat.zero_le _) (w2.heap.size + 1) (by simp) ?_
        intro g cap w5 own5 gr5 hg5 hl5
        have cf := HFZ.out w5 gr5
        have cs5 := HS5.out w5 gr5
        have cv5 := HV5.out w5 gr5
        refine hK.out _ _ (cs5) (fun hHeld => ?_)
        clear hK K
        refine wpAnyH_take (i := 8) (v := ?_) rfl (by kernel_rfl) (by kernel_rfl) (by kernel_rfl) (fun _ _ _ h => h) (Or.inl ⟨by rfl, fun W hW => by (go_simp <;> with_reducible rfl)⟩) hHeld ?_
        go_simp
        refine wpAnyH_take (i := 9) (v := ?_) rfl (by kernel_rfl) (by kernel_rfl) (by kernel_rfl) (fun _ _ _ h => h) (Or.inl ⟨by rfl, fun W hW => by (go_simp <;> with_reducible rfl)⟩) hHeld ?_
        go_simp
        refine wpAnyH_ready (rs := [10]) (by kernel_rfl) (by simp) (AllReadyH.cons rfl (fun K hK => ?_) (AllReadyH.nil))
        · go_simp
          refine hK.out _ _ (HST.out w5 cs5 _) (fun hHeld => ?_)
          clear hK K
          refine wpAnyH_done (by kernel_rfl) ?_ _
          go_wp2_with fail
          go_ret2
          exact ⟨_, rfl, HFIN.out g cap w5 own5 gr5 hg5 hl5⟩
end
end Go.Proofs.Ytdlncbndhljhfaa
