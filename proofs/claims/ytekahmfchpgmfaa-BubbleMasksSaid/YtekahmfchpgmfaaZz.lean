/- The document's Make, where it refuses (layer 13). -/
import Derived.Test.YtekahmfchpgmfaaZv
import Derived.Test.YtekahmfchpgmfaaZf
namespace Go.Proofs.Ytekahmfchpgmfaa
open Go.RowKit
set_option maxRecDepth 100000

section
variable {d : Value} {bs : List Bub} {w w' : World}
abbrev RMakeP (d : Value) (bs : List Bub) (up : Int) (m : Nat → Bool) (w : World) : Ending → World → Prop := fun e w' => ∃ d', e = .returned (.tuple #[d', .int .i64 (makeE bs up m).1, .int .i64 (makeE bs up m).2]) ∧ DocL d' (makeT bs up m) w' ∧ Below w.heap.size w w' ∧ (d' = d ∨ ∀ g, d'.ownBlock = some g → w.heap.size ≤ g)
theorem RMakeP.no {up : Int} {m : Nat → Bool} {a b : Int} (hF : DocL d bs w) (hb : Below w.heap.size w w') (he : makeE bs up m = (a, b)) (hn : b ≠ 0) {e : Ending} (hr : e = .returned (.tuple #[d, .int .i64 a, .int .i64 b])) : RMakeP d bs up m w e w' := by
  refine ⟨d, by rw [he]; exact hr, ?_, hb, .inl rfl⟩
  unfold makeT; rw [he, if_neg hn]; exact hF.below hb
set_option maxHeartbeats 8000000 in
theorem rmake_arg (up : Int) (m : Nat → Bool) (h : DocL d bs w) (hu : up ≠ -1) (hi : inB bs up = false) :
    Calls Try.prog 49 #[d, .int .i64 up, .agg (cellsOf m)] w (RMakeP d bs up m w) := by
  have hal : Below w.heap.size w (w.alloc (.cells (cellsOf m) 28)) := (Below.refl _ _).alloc (Nat.le_refl _) _
  have hF1 := h.below hal
  have HF := Lib.hid h
  have HG1 : Hid ((w.alloc (.cells (cellsOf m) 28)).heap[w.heap.size]? = some (.cells (cellsOf m) 28 (0, 0))) := Lib.hid (heap_alloc_new _ _)
  have HAL := Lib.hid hal
  obtain ⟨DA, dcap, hdv⟩ := h.form
  obtain ⟨n, hn⟩ : ∃ n, bs.length = n := ⟨_, rfl⟩
  have HLN := Lib.hid hn
  rw [hn] at hdv
  subst hdv
  have HH := Lib.hid (ris_any up hF1)
  rw [hi] at HH
  have HE : Hid (makeE bs up m = (0, 1)) := Lib.hid (by unfold makeE; rw [if_pos ⟨hu, hi⟩])
  have tu : (up != -1) = true := by simpa using hu
  clear h hal hF1 hu hi hn
  go_enter Try.func49, Try.ntmps49
  go_wp2_with (go_at_call 71; (with_reducible refine HH.out.mono ?_); rintro e wq ⟨rfl, rfl⟩)
  refine bodyPost_ret (v := .tuple #[.slice DA n dcap, .int .i64 0, .int .i64 1]) (by simp [results, Try.results49]) rfl ?_
  exact RMakeP.no HF.out HAL.out HE.out (by decide) rfl
set_option maxHeartbeats 8000000 in
theorem rmake_top_mask (up : Int) (m : Nat → Bool) (h : DocL d bs w) (hu : up = -1) (hm : emptyP m = true) :
    Calls Try.prog 49 #[d, .int .i64 up, .agg (cellsOf m)] w (RMakeP d bs up m w) := by
  have hal : Below w.heap.size w (w.alloc (.cells (cellsOf m) 28)) := (Below.refl _ _).alloc (Nat.le_refl _) _
  have hF1 := h.below hal
  have HF := Lib.hid h
  have HG1 : Hid ((w.alloc (.cells (cellsOf m) 28)).heap[w.heap.size]? = some (.cells (cellsOf m) 28 (0, 0))) := Lib.hid (heap_alloc_new _ _)
  have HAL := Lib.hid hal
  obtain ⟨DA, dcap, hdv⟩ := h.form
  obtain ⟨n, hn⟩ : ∃ n, bs.length = n := ⟨_, rfl⟩
  have HLN := Lib.hid hn
  rw [hn] at hdv
  subst hdv
  have tu : (up != -1) = false := by simp [hu]
  have HE : Hid (makeE bs up m = (0, 6)) := Lib.hid (by unfold makeE; rw [if_neg (fun q => q.1 hu), if_pos hm])
  have hrun : ∀ W, (Op.equalIn 10000 28 (.agg (cellsOf m)) (.agg (cellsOf fun _ => false))).run Try.prog W = .ok true W := fun W => by rw [run_equal_set]; exact congrArg (fun b => Result.ok b W) hm
  have hz := cellsOf_zero.symm
  clear h hal hF1 hu hn hm
  go_enter Try.func49, Try.ntmps49
  go_wp2_with (first
    | (with_reducible (show wpList _ _ _ _ _ _); refine ld_set rfl (.tmp 5) rfl w.heap.size rfl m HG1.out ?_))
  refine bodyPost_ret (v := .tuple #[.slice DA n dcap, .int .i64 0, .int .i64 6]) (by simp [results, Try.results49]) rfl ?_
  exact RMakeP.no HF.out HAL.out HE.out (by decide) rfl
set_option maxHeartbeats 8000000 in
theorem rmake_in_mask {x : Bub} (up : Int) (m : Nat → Bool) (h : DocL d bs w) (hx : bs[up.toNat]? = some x) (hup : up = (up.toNat : Int)) (hu : up ≠ -1) (hm : emptyP m = true) :
    Calls Try.prog 49 #[d, .int .i64 up, .agg (cellsOf m)] w (RMakeP d bs up m w) := by
  have hal : Below w.heap.size w (w.alloc (.cells (cellsOf m) 28)) := (Below.refl _ _).alloc (Nat.le_refl _) _
  have hF1 := h.below hal
  have HF := Lib.hid h
  have HG1 : Hid ((w.alloc (.cells (cellsOf m) 28)).heap[w.heap.size]? = some (.cells (cellsOf m) 28 (0, 0))) := Lib.hid (heap_alloc_new _ _)
  have HAL := Lib.hid hal
  obtain ⟨DA, dcap, hdv⟩ := h.form
  obtain ⟨n, hn⟩ : ∃ n, bs.length = n := ⟨_, rfl⟩
  have HLN := Lib.hid hn
  rw [hn] at hdv
  subst hdv
  have hin : inB bs up = true := by rw [hup]; exact inB_of hx
  have HH := Lib.hid (ris_any up hF1)
  rw [hin] at HH
  have tu : (up != -1) = true := by simpa using hu
  have hat : atB bs up = x := by rw [hup]; exact atB_of hx
  have HE : Hid (makeE bs up m = (0, 6)) := Lib.hid (by unfold makeE; rw [if_neg (fun q => by rw [hin] at q; exact absurd q.2 (by simp)), if_pos hm])
  have hrun : ∀ W, (Op.equalIn 10000 28 (.agg (cellsOf m)) (.agg (cellsOf fun _ => false))).run Try.prog W = .ok true W := fun W => by rw [run_equal_set]; exact congrArg (fun b => Result.ok b W) hm
  have hz := cellsOf_zero.symm
  clear h hal hF1 hu hn hx hup hin hat hm
  go_enter Try.func49, Try.ntmps49
  go_wp2_with (first
    | (go_at_call 71; (with_reducible refine HH.out.mono ?_); rintro e wq ⟨rfl, rfl⟩)
    | (with_reducible (show wpList _ _ _ _ _ _); refine ld_set rfl (.tmp 5) rfl w.heap.size rfl m HG1.out ?_))
  refine bodyPost_ret (v := .tuple #[.slice DA n dcap, .int .i64 0, .int .i64 6]) (by simp [results, Try.results49]) rfl ?_
  exact RMakeP.no HF.out HAL.out HE.out (by decide) rfl
set_option maxHeartbeats 8000000 in
theorem rmake_top_full (up : Int) (m : Nat → Bool) (h : DocL d bs w) (hu : up = -1) (hm : emptyP m = false) (hl : 32 ≤ bs.length) :
    Calls Try.prog 49 #[d, .int .i64 up, .agg (cellsOf m)] w (RMakeP d bs up m w) := by
  have hal : Below w.heap.size w (w.alloc (.cells (cellsOf m) 28)) := (Below.refl _ _).alloc (Nat.le_refl _) _
  have hF1 := h.below hal
  have HF := Lib.hid h
  have HG1 : Hid ((w.alloc (.cells (cellsOf m) 28)).heap[w.heap.size]? = some (.cells (cellsOf m) 28 (0, 0))) := Lib.hid (heap_alloc_new _ _)
  have HAL := Lib.hid hal
  obtain ⟨DA, dcap, hdv⟩ := h.form
  obtain ⟨n, hn⟩ : ∃ n, bs.length = n := ⟨_, rfl⟩
  have HLN := Lib.hid hn
  rw [hn] at hdv
  subst hdv
  have tu : (up != -1) = false := by simp [hu]
  have HE : Hid (makeE bs up m = (0, 4)) := Lib.hid (by unfold makeE; rw [if_neg (fun q => q.1 hu), if_neg (by rw [hm]; simp), if_neg (fun q => q.1 hu), if_pos hl])
  have hrun : ∀ W, (Op.equalIn 10000 28 (.agg (cellsOf m)) (.agg (cellsOf fun _ => false))).run Try.prog W = .ok false W := fun W => by rw [run_equal_set]; exact congrArg (fun b => Result.ok b W) hm
  have hz := cellsOf_zero.symm
  have tl : decide ((32 : Int) ≤ (n : Int)) = true := by simp; omega
  clear hl h hal hF1 hu hn hm
  go_enter Try.func49, Try.ntmps49
  go_wp2_with (first
    | (with_reducible (show wpList _ _ _ _ _ _); refine ld_set rfl (.tmp 5) rfl w.heap.size rfl m HG1.out ?_))
  refine bodyPost_ret (v := .tuple #[.slice DA n dcap, .int .i64 0, .int .i64 4]) (by simp [results, Try.results49]) rfl ?_
  exact RMakeP.no HF.out HAL.out HE.out (by decide) rfl
set_option maxHeartbeats 8000000 in
theorem rmake_in_state {x : Bub} (up : Int) (m : Nat → Bool) (h : DocL d bs w) (hx : bs[up.toNat]? = some x) (hup : up = (up.toNat : Int)) (hu : up ≠ -1) (hm : emptyP m = false) (hs : x.state ≠ 1) :
    Calls Try.prog 49 #[d, .int .i64 up, .agg (cellsOf m)] w (RMakeP d bs up m w) := by
  have hal : Below w.heap.size w (w.alloc (.cells (cellsOf m) 28)) := (Below.refl _ _).alloc (Nat.le_refl _) _
  have hF1 := h.below hal
  have HF := Lib.hid h
  have HG1 : Hid ((w.alloc (.cells (cellsOf m) 28)).heap[w.heap.size]? = some (.cells (cellsOf m) 28 (0, 0))) := Lib.hid (heap_alloc_new _ _)
  have HAL := Lib.hid hal
  obtain ⟨DA, dcap, hdv⟩ := h.form
  obtain ⟨n, hn⟩ : ∃ n, bs.length = n := ⟨_, rfl⟩
  have HLN := Lib.hid hn
  rw [hn] at hdv
  subst hdv
  have hin : inB bs up = true := by rw [hup]; exact inB_of hx
  have HH := Lib.hid (ris_any up hF1)
  rw [hin] at HH
  have tu : (up != -1) = true := by simpa using hu
  have hat : atB bs up = x := by rw [hup]; exact atB_of hx
  have HE : Hid (makeE bs up m = (0, 5)) := Lib.hid (by unfold makeE; rw [if_neg (fun q => by rw [hin] at q; exact absurd q.2 (by simp)), if_neg (by rw [hm]; simp), if_pos ⟨hu, by rw [hat]; exact hs⟩])
  have hrun : ∀ W, (Op.equalIn 10000 28 (.agg (cellsOf m)) (.agg (cellsOf fun _ => false))).run Try.prog W = .ok false W := fun W => by rw [run_equal_set]; exact congrArg (fun b => Result.ok b W) hm
  have hz := cellsOf_zero.symm
  obtain ⟨g, cp, hv, hr, -⟩ := row_at hF1.row hx
  rw [HLN.out] at hv
  simp only [Value.slice.injEq] at hv
  obtain ⟨rfl, -, rfl⟩ := hv
  have y17 := hr 17 _ (bubL_17 x)
  have i0 : (0 : Int) ≤ up := by omega
  have i1 : up < (n : Int) := by have := inB_iff.1 hin; have := HLN.out; omega
  have i2 : up.toNat < n := by omega
  have ts : (x.state != 1) = true := by simpa using hs
  generalize x.state = s at *
  clear hr hs h hal hF1 hu hn hx hup hin hat hm
  go_enter Try.func49, Try.ntmps49
  go_wp2_with (first
    | (go_at_call 71; (with_reducible refine HH.out.mono ?_); rintro e wq ⟨rfl, rfl⟩)
    | (with_reducible (show wpList _ _ _ _ _ _); refine ld_set rfl (.tmp 5) rfl w.heap.size rfl m HG1.out ?_))
  refine bodyPost_ret (v := .tuple #[.slice (some ⟨g, 0, none⟩) n dcap, .int .i64 0, .int .i64 5]) (by simp [results, Try.results49]) rfl ?_
  exact RMakeP.no HF.out HAL.out HE.out (by decide) rfl
set_option maxHeartbeats 8000000 in
theorem rmake_in_full {x : Bub} (up : Int) (m : Nat → Bool) (h : DocL d bs w) (hx : bs[up.toNat]? = some x) (hup : up = (up.toNat : Int)) (hu : up ≠ -1) (hm : emptyP m = false) (hs : x.state = 1) (hl : 32 ≤ bs.length) :
    Calls Try.prog 49 #[d, .int .i64 up, .agg (cellsOf m)] w (RMakeP d bs up m w) := by
  have hal : Below w.heap.size w (w.alloc (.cells (cellsOf m) 28)) := (Below.refl _ _).alloc (Nat.le_refl _) _
  have hF1 := h.below hal
  have HF := Lib.hid h
  have HG1 : Hid ((w.alloc (.cells (cellsOf m) 28)).heap[w.heap.size]? = some (.cells (cellsOf m) 28 (0, 0))) := Lib.hid (heap_alloc_new _ _)
  have HAL := Lib.hid hal
  obtain ⟨DA, dcap, hdv⟩ := h.form
  obtain ⟨n, hn⟩ : ∃ n, bs.length = n := ⟨_, rfl⟩
  have HLN := Lib.hid hn
  rw [hn] at hdv
  subst hdv
  have hin : inB bs up = true := by rw [hup]; exact inB_of hx
  have HH := Lib.hid (ris_any up hF1)
  rw [hin] at HH
  have tu : (up != -1) = true := by simpa using hu
  have hat : atB bs up = x := by rw [hup]; exact atB_of hx
  have HE : Hid (makeE bs up m = (0, 4)) := Lib.hid (by unfold makeE; rw [if_neg (fun q => by rw [hin] at q; exact absurd q.2 (by simp)), if_neg (by rw [hm]; simp), if_neg (fun q => q.2 (by rw [hat]; exact hs)), if_pos hl])
  have hrun : ∀ W, (Op.equalIn 10000 28 (.agg (cellsOf m)) (.agg (cellsOf fun _ => false))).run Try.prog W = .ok false W := fun W => by rw [run_equal_set]; exact congrArg (fun b => Result.ok b W) hm
  have hz := cellsOf_zero.symm
  have tl : decide ((32 : Int) ≤ (n : Int)) = true := by simp; omega
  obtain ⟨g, cp, hv, hr, -⟩ := row_at hF1.row hx
  rw [HLN.out] at hv
  simp only [Value.slice.injEq] at hv
  obtain ⟨rfl, -, rfl⟩ := hv
  have y17 := hr 17 _ (bubL_17 x)
  have i0 : (0 : Int) ≤ up := by omega
  have i1 : up < (n : Int) := by have := inB_iff.1 hin; have := HLN.out; omega
  have i2 : up.toNat < n := by omega
  rw [hs] at y17
  clear hr hs hl h hal hF1 hu hn hx hup hin hat hm
  go_enter Try.func49, Try.ntmps49
  go_wp2_with (first
    | (go_at_call 71; (with_reducible refine HH.out.mono ?_); rintro e wq ⟨rfl, rfl⟩)
    | (with_reducible (show wpList _ _ _ _ _ _); refine ld_set rfl (.tmp 5) rfl w.heap.size rfl m HG1.out ?_))
  refine bodyPost_ret (v := .tuple #[.slice (some ⟨g, 0, none⟩) n dcap, .int .i64 0, .int .i64 4]) (by simp [results, Try.results49]) rfl ?_
  exact RMakeP.no HF.out HAL.out HE.out (by decide) rfl
end
end Go.Proofs.Ytekahmfchpgmfaa
