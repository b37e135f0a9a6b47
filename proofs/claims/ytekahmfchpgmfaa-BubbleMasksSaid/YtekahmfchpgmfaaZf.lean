/- A forest's Make (layer 13). -/
import Derived.Test.YtekahmfchpgmfaaZe
import Derived.Deep.AppendLies
namespace Go.Proofs.Ytekahmfchpgmfaa
open Go.RowKit
set_option maxRecDepth 100000

theorem Blk.grown_ {w w' : World} {g : Nat} {t : TypeId} {cs : Array Value} {row : Option Nat} (h : Blk w g t cs) (hg : w.grownBy w' row) (hr : some g ≠ row) : Blk w' g t cs := (hg.block g h.lt hr).trans h
theorem yieldsIf_load_set {ops : Array Oper} {S : World → Prop} {o : Oper} {a : Act} (hw : Region.wanted o (yielded ops a.tmps) = true) (x : Operand) (ho : o.op = .load 28 x) (g : Nat) (p : Nat → Bool)
    (hx : a.eval x = .pointer (some ⟨g, 0, none⟩)) (hS : ∀ w, S w → w.heap[g]? = some (.cells (cellsOf p) 28 (0, 0))) : YieldsIf Try.prog ops S o (.agg (cellsOf p)) a :=
  .inl ⟨hw, fun w h => by
    unfold execOp
    simp only [ho, hx, Instr.loadAt, Instr.sureAddr, Sem.run_bind, Sem.run_pure, Result.andThen_ok, run_loadVar_row w g 28 28 _ (0, 0) _ (hS w h) underSet rfl (by rw [infoSet, cellsOf_size])]⟩
theorem yieldsIf_build {ops : Array Oper} {S : World → Prop} {o : Oper} {a : Act} (hw : Region.wanted o (yielded ops a.tmps) = true) (t : TypeId) (parts : Array (Nat × Operand)) (ho : o.op = .build t parts) (vals : Array (Nat × Value)) (hp : (parts.map fun (i, x) => (i, a.eval x)) = vals) (u : Value)
    (hr : ∀ w, (Instr.build t vals).run Try.prog w = .ok u w) : YieldsIf Try.prog ops S o u a :=
  .inl ⟨hw, fun w _ => by
    unfold execOp
    simp only [ho, hp, Sem.run_bind, Sem.run_pure, Result.andThen_ok, hr w]⟩
theorem step_build_slice {ops : Array Oper} {o : Oper} {a : Act} {w : World} {K : Act → World → Prop} {Q : Exit → Act → World → Prop} {E : Prop} (hg : o.guard = none) (t : TypeId) (n : Nat) (parts : Array (Nat × Operand)) (ho : o.op = .buildSlice t n parts)
    (vals : Array (Nat × Value)) (hp : (parts.map fun (i, x) => (i, a.eval x)) = vals) (u : Value) (w' : World) (hr : (Instr.buildSlice t n vals).run Try.prog w = .ok u w') (hK : K (a.put o.dst u) w') : if Region.wanted o (yielded ops a.tmps) = true then Oper.wp Try.prog o a w K Q else E := by
  have hw : Region.wanted o (yielded ops a.tmps) = true := by simp [Region.wanted, hg]
  rw [if_pos hw]
  unfold Oper.wp execOp
  simp only [ho, hp, Sem.run_bind, Sem.run_pure, Result.andThen_ok, hr]
  exact hK
theorem cnt_zero (p : Nat → Bool) : ∀ n : Nat, cnt p n = 0 ↔ ∀ k, k < n → p k = false
  | 0 => by simp [cnt]
  | n + 1 => by
    have ih := cnt_zero p n
    rw [cnt]
    constructor
    · intro h k hk
      have h1 : cnt p n = 0 := by omega
      by_cases e : k = n
      · subst e
        cases hp : p k with
        | false => rfl
        | true => rw [hp] at h; simp at h
      · exact ih.1 h1 k (by omega)
    · intro h
      rw [ih.2 fun k hk => h k (by omega), h n (by omega)]; rfl
def emptyP (m : Nat → Bool) : Bool := eqP m fun _ => false
theorem empty_cnt (m : Nat → Bool) : emptyP m = decide (cnt m 1024 = 0) := by
  rw [Bool.eq_iff_iff, decide_eq_true_eq, cnt_zero]
  unfold emptyP
  rw [eqP_true]
def makeE (bs : List Bub) (up : Int) (m : Nat → Bool) : Int × Int :=
  if up ≠ -1 ∧ inB bs up = false then (0, 1) else if emptyP m = true then (0, 6) else if up ≠ -1 ∧ (atB bs up).state ≠ 1 then (0, 5) else if 32 ≤ bs.length then (0, 4) else (bs.length, 0)
def makeT (bs : List Bub) (up : Int) (m : Nat → Bool) : List Bub := if (makeE bs up m).2 = 0 then bs ++ [⟨up, m, 1, 0⟩] else bs
theorem inv_make {bs : List Bub} {up : Int} {m : Nat → Bool} (hI : InvB bs) (hu : up = -1 ∨ inB bs up = true) (hl : bs.length < 32) : InvB (bs ++ [⟨up, m, 1, 0⟩]) := by
  have hb : -1 ≤ up ∧ up < (bs.length : Int) := by
    rcases hu with rfl | h
    · omega
    · have := inB_iff.1 h; omega
  have key : ∀ (j : Nat) (z : Bub), (bs ++ [⟨up, m, 1, 0⟩])[j]? = some z → (j = bs.length ∧ z = ⟨up, m, 1, 0⟩) ∨ bs[j]? = some z := fun j z hz => by
    by_cases h : j < bs.length
    · rw [List.getElem?_append_left h] at hz; exact .inr hz
    · rw [List.getElem?_append_right (by omega)] at hz
      have : j - bs.length = 0 := by
        have := (List.getElem?_eq_some_iff.1 hz).1
        simp at this; omega
      rw [this] at hz
      exact .inl ⟨by omega, by simpa using hz.symm⟩
  refine ⟨fun j z hz => ?_, fun j z hz => ?_, by simp; omega⟩
  · rcases key j z hz with ⟨rfl, rfl⟩ | h
    · exact hb
    · exact hI.up j z h
  · rcases key j z hz with ⟨rfl, rfl⟩ | h
    · exact ⟨by simp, by simp⟩
    · exact hI.st j z h
section
variable {fb : Nat} {v : Value} {bs : List Bub} {w w' : World}
abbrev MakeP (fb : Nat) (v : Value) (bs : List Bub) (up : Int) (m : Nat → Bool) (w : World) : Ending → World → Prop := fun e w' => ∃ v', e = .returned (.tuple #[.int .i64 (makeE bs up m).1, .int .i64 (makeE bs up m).2]) ∧ ForC fb v' (makeT bs up m) w' ∧ But (OwnF fb v) w w' ∧ ∀ g, v'.ownBlock = some g → v.ownBlock = some g ∨ w.heap.size ≤ g
theorem MakeP.no {up : Int} {m : Nat → Bool} {a b : Int} (hF : ForC fb v bs w) (hb : Below w.heap.size w w') (he : makeE bs up m = (a, b)) (hn : b ≠ 0) {e : Ending} (hr : e = .returned (.tuple #[.int .i64 a, .int .i64 b])) : MakeP fb v bs up m w e w' := by
  refine ⟨v, by rw [he]; exact hr, ?_, But.of_below hb, fun g hg => .inl hg⟩
  unfold makeT; rw [he, if_neg hn]; exact hF.below hb
set_option maxHeartbeats 8000000 in
theorem make_arg (up : Int) (m : Nat → Bool) (h : ForC fb v bs w) (hu : up ≠ -1) (hi : inB bs up = false) :
    Calls Try.prog 33 #[.pointer (some ⟨fb, 0, none⟩), .int .i64 up, .agg (cellsOf m)] w (MakeP fb v bs up m w) := by
  have hal : Below w.heap.size w (w.alloc (.cells (cellsOf m) 28)) := (Below.refl _ _).alloc (Nat.le_refl _) _
  have hF1 := h.below hal
  have HF := Lib.hid h
  have hg1 : (w.alloc (.cells (cellsOf m) 28)).heap[w.heap.size]? = some (.cells (cellsOf m) 28 (0, 0)) := heap_alloc_new _ _
  have HG1 := Lib.hid hg1
  have HAL := Lib.hid hal
  have HLE := Lib.hid (len_any m (w.alloc (.cells (cellsOf m) 28)))
  have HH := Lib.hid (fhas_any up hF1)
  rw [hi] at HH
  have he : makeE bs up m = (0, 1) := by unfold makeE; rw [if_pos ⟨hu, hi⟩]
  have HE := Lib.hid he
  have tu : (up != -1) = true := by simpa using hu
  clear h hal hF1 hg1 hu hi he HLE
  go_enter Try.func33, Try.ntmps33
  go_wp2_with (go_at_call 27; (with_reducible refine HH.out.mono ?_); rintro e wq ⟨rfl, rfl⟩)
  go_ret2
  exact MakeP.no HF.out HAL.out HE.out (by decide) rfl
set_option maxHeartbeats 8000000 in
theorem make_top_mask  (up : Int) (m : Nat → Bool) (h : ForC fb v bs w) (hu : up = -1) (hm : emptyP m = true) :
    Calls Try.prog 33 #[.pointer (some ⟨fb, 0, none⟩), .int .i64 up, .agg (cellsOf m)] w (MakeP fb v bs up m w) := by
  have hal : Below w.heap.size w (w.alloc (.cells (cellsOf m) 28)) := (Below.refl _ _).alloc (Nat.le_refl _) _
  have hF1 := h.below hal
  have HF := Lib.hid h
  have hg1 : (w.alloc (.cells (cellsOf m) 28)).heap[w.heap.size]? = some (.cells (cellsOf m) 28 (0, 0)) := heap_alloc_new _ _
  have HG1 := Lib.hid hg1
  have HAL := Lib.hid hal
  have HLE := Lib.hid (len_any m (w.alloc (.cells (cellsOf m) 28)))
  have tu : (up != -1) = false := by simp [hu]
  have he : makeE bs up m = (0, 6) := by unfold makeE; rw [if_neg (fun q => q.1 hu), if_pos hm]
  have HE := Lib.hid he
  rw [empty_cnt, decide_eq_true_eq] at hm
  have hc : ((cnt m 1024 : Int) == 0) = true := by rw [hm]; rfl
  clear h hal hF1 hg1 hu he hm 
  generalize cnt m 1024 = c at *
  go_enter Try.func33, Try.ntmps33
  go_wp2_with ((with_reducible (show wpList _ _ _ _ _ _); refine ld_set rfl (.tmp 5) rfl w.heap.size rfl m HG1.out ?_))
  refine HLE.out.mono ?_
  rintro e w2 ⟨rfl, h2⟩
  dsimp only
  have H2 := Lib.hid (HAL.out.trans (h2.mono HAL.out.size))
  clear h2
  go_wp2_with fail
  go_ret2
  exact MakeP.no HF.out H2.out HE.out (by decide) rfl
set_option maxHeartbeats 8000000 in
theorem make_top_full  (up : Int) (m : Nat → Bool) (h : ForC fb v bs w) (hu : up = -1) (hm : emptyP m = false) (hl : 32 ≤ bs.length) :
    Calls Try.prog 33 #[.pointer (some ⟨fb, 0, none⟩), .int .i64 up, .agg (cellsOf m)] w (MakeP fb v bs up m w) := by
  have hal : Below w.heap.size w (w.alloc (.cells (cellsOf m) 28)) := (Below.refl _ _).alloc (Nat.le_refl _) _
  have hF1 := h.below hal
  have HF := Lib.hid h
  have hg1 : (w.alloc (.cells (cellsOf m) 28)).heap[w.heap.size]? = some (.cells (cellsOf m) 28 (0, 0)) := heap_alloc_new _ _
  have HG1 := Lib.hid hg1
  have HAL := Lib.hid hal
  have HLE := Lib.hid (len_any m (w.alloc (.cells (cellsOf m) 28)))
  have tu : (up != -1) = false := by simp [hu]
  have he : makeE bs up m = (0, 4) := by unfold makeE; rw [if_neg (fun q => q.1 hu), if_neg (by rw [hm]; simp), if_neg (fun q => q.1 hu), if_pos hl]
  have HE := Lib.hid he
  rw [empty_cnt] at hm
  have hc : ((cnt m 1024 : Int) == 0) = false := by simpa using hm
  have tl : decide ((32 : Int) ≤ (bs.length : Int)) = true := by simp; omega
  clear h hal hF1 hg1 hu he hm 
  generalize cnt m 1024 = c at *
  go_enter Try.func33, Try.ntmps33
  go_wp2_with ((with_reducible (show wpList _ _ _ _ _ _); refine ld_set rfl (.tmp 5) rfl w.heap.size rfl m HG1.out ?_))
  refine HLE.out.mono ?_
  rintro e w1 ⟨rfl, h1⟩
  dsimp only
  have HB1 := Lib.hid (HAL.out.trans (h1.mono HAL.out.size))
  have HG2 : Hid (w1.heap[w.heap.size]? = some (.cells (cellsOf m) 28 (0, 0))) := Lib.hid ((h1.block w.heap.size (by simp)).trans HG1.out)
  clear h1
  have HFQ := Lib.hid (HF.out.below HB1.out)
  have HLQ := Lib.hid (flen_any HFQ.out)
  generalize bs.length = n at *
  go_wp2_with (go_at_call 26; (with_reducible refine HLQ.out.mono ?_); rintro e wq ⟨rfl, rfl⟩)
  go_ret2
  exact MakeP.no HF.out HB1.out HE.out (by decide) rfl
set_option maxHeartbeats 8000000 in
theorem make_top_ok  (up : Int) (m : Nat → Bool) (h : ForC fb v bs w) (hu : up = -1) (hm : emptyP m = false) (hl : bs.length < 32) :
    Calls Try.prog 33 #[.pointer (some ⟨fb, 0, none⟩), .int .i64 up, .agg (cellsOf m)] w (MakeP fb v bs up m w) := by
  have hal : Below w.heap.size w (w.alloc (.cells (cellsOf m) 28)) := (Below.refl _ _).alloc (Nat.le_refl _) _
  have hF1 := h.below hal
  have HF := Lib.hid h
  have hg1 : (w.alloc (.cells (cellsOf m) 28)).heap[w.heap.size]? = some (.cells (cellsOf m) 28 (0, 0)) := heap_alloc_new _ _
  have HG1 := Lib.hid hg1
  have HAL := Lib.hid hal
  have HLE := Lib.hid (len_any m (w.alloc (.cells (cellsOf m) 28)))
  have tu : (up != -1) = false := by simp [hu]
  have he : makeE bs up m = ((bs.length : Int), 0) := by unfold makeE; rw [if_neg (fun q => q.1 hu), if_neg (by rw [hm]; simp), if_neg (fun q => q.1 hu), if_neg (by omega)]
  have het : makeT bs up m = bs ++ [⟨up, m, 1, 0⟩] := by unfold makeT; rw [he]; rfl
  have hinv := inv_make (m := m) h.inv (.inl hu) hl
  unfold MakeP
  rw [he, het]
  rw [empty_cnt] at hm
  have hc : ((cnt m 1024 : Int) == 0) = false := by simpa using hm
  have HLT := Lib.hid hl
  have tl : decide ((32 : Int) ≤ (bs.length : Int)) = false := by simp; omega
  have hbc := bubC_app bs [⟨up, m, 1, 0⟩]
  rw [bubC_one] at hbc
  have hbn : (bs ++ [(⟨up, m, 1, 0⟩ : Bub)]).length = bs.length + 1 := by simp
  have HBD := Lib.hid (build_bub up m); have HBS := Lib.hid (build_slice_bub ⟨up, m, 1, 0⟩)
  have HBL := Lib.hid (bubL_len ⟨up, m, 1, 0⟩)
  have HB1x := Lib.hid (bubL_one ⟨up, m, 1, 0⟩)
  have HZ19 : Hid ((Value.agg (bubL zB).toArray).cells.size = 19) := by show _ = _; rfl
  clear h hal hF1 hg1 hu he hm  het hl
  generalize cnt m 1024 = c at *
  go_enter Try.func33, Try.ntmps33
  go_wp2_with ((with_reducible (show wpList _ _ _ _ _ _); refine ld_set rfl (.tmp 5) rfl w.heap.size rfl m HG1.out ?_))
  refine HLE.out.mono ?_
  rintro e w1 ⟨rfl, h1⟩
  dsimp only
  have HB1 := Lib.hid (HAL.out.trans (h1.mono HAL.out.size))
  have HG2 : Hid (w1.heap[w.heap.size]? = some (.cells (cellsOf m) 28 (0, 0))) := Lib.hid ((h1.block w.heap.size (by simp)).trans HG1.out)
  clear h1
  have HFQ := Lib.hid (HF.out.below HB1.out)
  have HLQ := Lib.hid (flen_any HFQ.out)
  go_upto_region 9 with (go_at_call 26; (with_reducible refine HLQ.out.mono ?_); rintro e wq ⟨rfl, rfl⟩)
  have HBW : Hid (Below w.heap.size w (w1)) := Lib.hid HB1.out
  have HBT : Hid (But (OwnF fb v) w (w1)) := Lib.hid (But.of_below HBW.out)
  have HXB2 : Hid ((w1).heap[w.heap.size]? = some (.cells (cellsOf m) 28 (0, 0))) := Lib.hid (HG2.out)
  have HF2 : Hid (ForC fb v bs (w1)) := HFQ
  have HBO := HB1x
  have HBC := Lib.hid hbc; have HBN := Lib.hid hbn; have HINV := Lib.hid hinv
  clear hbc hbn hinv HFQ HLQ HB1x tl HBW 
  generalize w1 = w2 at *
  generalize bubL ⟨up, m, 1, 0⟩ = B at *
  generalize hBNE : bs ++ [(⟨up, m, 1, 0⟩ : Bub)] = BN at *
  generalize hXE : w.heap.size = XB at *
  have HBNE := Lib.hid hBNE; have HXE := Lib.hid hXE
  clear hBNE hXE
  have HXS : Hid (w2.drew.heap[XB]? = some (.cells (cellsOf m) 28 (0, 0))) := HXB2
  have HXS2 : Hid ((w2.alloc (.cells B.toArray 30)).drew.heap[XB]? = some (.cells (cellsOf m) 28 (0, 0))) := (Below.heap_alloc w2 _ XB (Array.getElem?_eq_some_iff.1 HXB2.out).1).trans HXB2.out
  have HROW : Hid ((w2.alloc (.cells B.toArray 30)).drew.ownsRow 0 30 19 v bs.length (bubC bs)) := HF2.out.row.alloc _
  have HNEW : Hid (∀ j u, B[j]? = some u → (w2.alloc (.cells B.toArray 30)).drew.cell? ((⟨w2.heap.size, 0, none⟩ : Addr).add j) = some u) := fun j u hu => by
    rw [Addr.add_mid]; exact blk_rangeB (show Blk (w2.alloc (.cells B.toArray 30)).drew w2.heap.size _ _ from Blk.new w2 _ _) j u hu
  have c0 := HF2.out.cell
  have c0B : (w2.alloc (.cells B.toArray 30)).cell? ⟨fb, 0, none⟩ = some v := (HF2.out.own.alloc _).cell 0
  have HNV : Hid (∀ g, v.ownBlock = some g → g ≠ fb ∧ g ≠ XB) := fun g hg => ⟨HF2.out.nev hg, fun e => by
    have := row_type HF2.out.row hg (show Blk w2 g 28 (cellsOf m) from e ▸ HXB2.out)
    exact absurd this (by decide)⟩
  have HS5 : Hid (∀ w5, (w2.alloc (.cells B.toArray 30)).drew.grownBy w5 v.ownBlock → w5.heap[XB]? = some (.cells (cellsOf m) 28 (0, 0))) := fun w5 gr => Blk.grown_ (show Blk (w2.alloc (.cells B.toArray 30)).drew XB _ _ from HXS2.out) gr (fun e => (HNV.out XB e.symm).2 rfl)
  have HB5 : Hid (∀ w5, (w2.alloc (.cells B.toArray 30)).drew.grownBy w5 v.ownBlock → Blk w5 fb 73 #[v]) := fun w5 gr => Blk.grown_ (show Blk (w2.alloc (.cells B.toArray 30)).drew fb _ _ from HF2.out.own.alloc (.cells B.toArray 30)) gr (fun e => (HNV.out fb e.symm).1 rfl)
  have HV5 : Hid (∀ w5, (w2.alloc (.cells B.toArray 30)).drew.grownBy w5 v.ownBlock → w5.cell? ⟨fb, 0, none⟩ = some v) := fun w5 gr => (HB5.out w5 gr).cell 0
  have HFZ : Hid (∀ w5, (w2.alloc (.cells B.toArray 30)).drew.grownBy w5 v.ownBlock → w5.frozen? ⟨fb, 0, none⟩ = false) := fun w5 gr => (HB5.out w5 gr).free 0
  have HXF : Hid (XB ≠ fb) := fun e => by
    have h1 := HF2.out.own
    rw [← e] at h1
    have := h1.symm.trans HXB2.out
    simp at this
  have HST : Hid (∀ (w5 : World), w5.heap[XB]? = some (.cells (cellsOf m) 28 (0, 0)) → ∀ u, (w5.setCell ⟨fb, 0, none⟩ u).heap[XB]? = some (.cells (cellsOf m) 28 (0, 0))) := fun w5 h5 u => Blk.far h5 HXF.out u
  have HFIN : Hid (∀ g cap w5, w5.ownsRow 0 30 19 (.slice (some ⟨g, 0, none⟩) (bs.length + 1) cap) (bs.length + 1) (bubC bs ++ B) → (w2.alloc (.cells B.toArray 30)).drew.grownBy w5 v.ownBlock → (v.ownBlock = some g ∨ g = w2.heap.size + 1) → g < w5.heap.size →
      ForC fb (.slice (some ⟨g, 0, none⟩) (bs.length + 1) cap) BN (w5.setCell ⟨fb, 0, none⟩ (.slice (some ⟨g, 0, none⟩) (bs.length + 1) cap)) ∧ But (OwnF fb v) w (w5.setCell ⟨fb, 0, none⟩ (.slice (some ⟨g, 0, none⟩) (bs.length + 1) cap)) ∧ ∀ g', (Value.slice (some ⟨g, 0, none⟩) (bs.length + 1) cap).ownBlock = some g' → v.ownBlock = some g' ∨ XB ≤ g') := fun g cap w5 own5 gr5 hg5 hl5 => by
    have hsz : XB < w2.heap.size := (Array.getElem?_eq_some_iff.1 HXB2.out).1
    have hgb : g ≠ fb := by
      rcases hg5 with q | q
      · exact (HNV.out g q).1
      · have := HF2.out.own.lt; omega
    have hst : But (fun k => k = fb) w5 (w5.setCell ⟨fb, 0, none⟩ (.slice (some ⟨g, 0, none⟩) (bs.length + 1) cap)) := (But.refl _ _).set _ _ (.inl rfl)
    have hgr : But (fun k => v.ownBlock = some k) w2 w5 := ((But.refl (fun k => v.ownBlock = some k) w2).alloc _).drew.grown gr5 (fun k hk => .inl hk)
    refine ⟨⟨(HB5.out w5 gr5).set_ 0 _, ?_, HINV.out⟩, ?_, fun g' hg' => ?_⟩
    · have := row_but own5 hst fun g' hg' q => by simp [Value.ownBlock] at hg'; subst hg'; exact hgb q
      rw [HBC.out, HBN.out]; exact this
    · exact HBT.out.trans ((hgr.mono fun k _ q => .inr q).trans (hst.mono fun k _ q => .inl q))
    · simp [Value.ownBlock] at hg'; subst hg'
      rcases hg5 with q | q
      · exact .inl q
      · right; omega
  obtain ⟨i0, hi0, hz0, hz1, hz2⟩ := info_parts infoBub
  have hb32 := HLT.out
  refine wp_region_held_drew (S := fun W => W.heap[XB]? = some (.cells (cellsOf m) 28 (0, 0))) (by kernel_rfl) HXS.out (fun hHeld => ?_)
  show wpAnyH _ _ _ _ _ _ _ _ _
  try dsimp only at hHeld
  refine wpAnyH_take (i := 0) (v := ?_) rfl (by kernel_rfl) (by kernel_rfl) (by kernel_rfl) (fun _ _ _ h => h) (Or.inl ⟨by rfl, fun W hW => by (go_simp <;> with_reducible rfl)⟩) hHeld ?_
  go_simp
  refine wpAnyH_take (i := 1) (v := ?_) rfl (by kernel_rfl) (by kernel_rfl) (by kernel_rfl) (fun _ _ _ h => h) (Or.inl ⟨by rfl, fun W hW => by (go_simp <;> with_reducible rfl)⟩) hHeld ?_
  go_simp
  refine wpAnyH_take (i := 2) (v := ?_) rfl (by kernel_rfl) (by kernel_rfl) (by kernel_rfl) (fun _ _ _ h => h) (Or.inl ⟨by rfl, fun W hW => by (go_simp <;> with_reducible rfl)⟩) hHeld ?_
  go_simp
  refine wpAnyH_take (i := 3) (v := ?_) rfl (by kernel_rfl) (by kernel_rfl) (by kernel_rfl) (fun _ _ _ h => h) (Or.inl ⟨by rfl, fun W hW => by (go_simp <;> with_reducible rfl)⟩) hHeld ?_
  go_simp
  refine wpAnyH_take (i := 5) (v := ?_) rfl (by kernel_rfl) (by kernel_rfl) (by kernel_rfl) (fun _ _ _ h => h) (Or.inl ⟨by rfl, fun W hW => by (go_simp <;> with_reducible rfl)⟩) hHeld ?_
  go_simp
  refine wpAnyH_take (i := 6) (v := .agg (cellsOf m)) rfl (by kernel_rfl) (by kernel_rfl) (by kernel_rfl) (fun _ _ _ h => h) (yieldsIf_load_set (by rfl) (.tmp 5) rfl XB m rfl (fun W h => h)) hHeld ?_
  go_simp
  refine wpAnyH_take (i := 7) (v := .agg B.toArray) rfl (by kernel_rfl) (by kernel_rfl) (by kernel_rfl) (fun _ _ _ h => h) (yieldsIf_build (by rfl) 30 _ rfl #[(0, .int .i64 up), (1, .agg (cellsOf m)), (2, .int .i64 1)] (by kernel_rfl) _ (fun W => HBD.out W)) hHeld ?_
  go_simp
  refine wpAnyH_ready (rs := [4, 8]) (by kernel_rfl) (by simp) (AllReadyH.cons rfl (fun K hK => ?_) (AllReadyH.cons rfl (fun K hK => ?_) (AllReadyH.nil)))
  · go_simp
    refine hK.out _ _ (HXS.out) (fun hHeld => ?_)
    clear hK K
    refine wpAnyH_ready (rs := [8]) (by kernel_rfl) (by simp) (AllReadyH.cons rfl (fun K hK => ?_) AllReadyH.nil)
    refine step_build_slice rfl 66 1 _ rfl #[(0, .agg B.toArray)] (by kernel_rfl) _ _ (HBS.out _) ?_
    refine hK.out _ _ (HXS2.out) (fun hHeld => ?_)
    clear hK K
    refine wpAnyH_ready (rs := [9]) (by kernel_rfl) (by simp) (AllReadyH.cons rfl (fun K hK => ?_) AllReadyH.nil)
    refine step_append_lies _ rfl (.tmp 43) (.tmp 47) 66 rfl 0 30 i0 _ 19 152 Try.underlying66 hi0 hz0 hz1 hz2 HZ19.out (by decide) v bs.length (bubC bs) rfl HROW.out ⟨w2.heap.size, 0, none⟩ 1 1 B rfl (by rw [HBL.out]) HNEW.out HBO.out (by decide) (by unfold maxLen; omega) (by omega) (Nat.zero_le _) (w2.heap.size + 1) (by simp) ?_
    intro g cap w5 own5 gr5 hg5 hl5
    have cf := HFZ.out w5 gr5
    have cs5 := HS5.out w5 gr5
    have cv5 := HV5.out w5 gr5
    refine hK.out _ _ (cs5) (fun hHeld => ?_)
    clear hK K
    refine wpAnyH_take (i := 10) (v := ?_) rfl (by kernel_rfl) (by kernel_rfl) (by kernel_rfl) (fun _ _ _ h => h) (Or.inl ⟨by rfl, fun W hW => by (go_simp <;> with_reducible rfl)⟩) hHeld ?_
    go_simp
    refine wpAnyH_take (i := 11) (v := ?_) rfl (by kernel_rfl) (by kernel_rfl) (by kernel_rfl) (fun _ _ _ h => h) (Or.inl ⟨by rfl, fun W hW => by (go_simp <;> with_reducible rfl)⟩) hHeld ?_
    go_simp
    refine wpAnyH_ready (rs := [12]) (by kernel_rfl) (by simp) (AllReadyH.cons rfl (fun K hK => ?_) AllReadyH.nil)
    go_simp
    refine hK.out _ _ (HST.out w5 cs5 _) (fun hHeld => ?_)
    clear hK K
    refine wpAnyH_done (by kernel_rfl) ?_ _
    have HFN := Lib.hid (HFIN.out g cap w5 own5 gr5 hg5 hl5)
    have HLN := Lib.hid (flen_any HFN.out.1)
    rw [HBN.out] at HLN
    clear cf cs5 cv5 own5 gr5 hg5 hl5
    go_wp2_with (go_at_call 26; (with_reducible refine HLN.out.mono ?_); rintro e wq ⟨rfl, rfl⟩)
    go_ret2
    exact ⟨.slice (some ⟨g, 0, none⟩) (bs.length + 1) cap, rfl, by rw [HBNE.out, HXE.out]; exact HFN.out⟩
  · refine step_build_slice rfl 66 1 _ rfl #[(0, .agg B.toArray)] (by kernel_rfl) _ _ (HBS.out _) ?_
    refine hK.out _ _ (HXS2.out) (fun hHeld => ?_)
    clear hK K
    refine wpAnyH_ready (rs := [4]) (by kernel_rfl) (by simp) (AllReadyH.cons rfl (fun K hK => ?_) AllReadyH.nil)
    go_simp
    refine hK.out _ _ (HXS2.out) (fun hHeld => ?_)
    clear hK K
    refine wpAnyH_ready (rs := [9]) (by kernel_rfl) (by simp) (AllReadyH.cons rfl (fun K hK => ?_) AllReadyH.nil)
    refine step_append_lies _ rfl (.tmp 43) (.tmp 47) 66 rfl 0 30 i0 _ 19 152 Try.underlying66 hi0 hz0 hz1 hz2 HZ19.out (by decide) v bs.length (bubC bs) rfl HROW.out ⟨w2.heap.size, 0, none⟩ 1 1 B rfl (by rw [HBL.out]) HNEW.out HBO.out (by decide) (by unfold maxLen; omega) (by omega) (Nat.zero_le _) (w2.heap.size + 1) (by simp) ?_
    intro g cap w5 own5 gr5 hg5 hl5
    have cf := HFZ.out w5 gr5
    have cs5 := HS5.out w5 gr5
    have cv5 := HV5.out w5 gr5
    refine hK.out _ _ (cs5) (fun hHeld => ?_)
    clear hK K
    refine wpAnyH_take (i := 10) (v := ?_) rfl (by kernel_rfl) (by kernel_rfl) (by kernel_rfl) (fun _ _ _ h => h) (Or.inl ⟨by rfl, fun W hW => by (go_simp <;> with_reducible rfl)⟩) hHeld ?_
    go_simp
    refine wpAnyH_take (i := 11) (v := ?_) rfl (by kernel_rfl) (by kernel_rfl) (by kernel_rfl) (fun _ _ _ h => h) (Or.inl ⟨by rfl, fun W hW => by (go_simp <;> with_reducible rfl)⟩) hHeld ?_
    go_simp
    refine wpAnyH_ready (rs := [12]) (by kernel_rfl) (by simp) (AllReadyH.cons rfl (fun K hK => ?_) AllReadyH.nil)
    go_simp
    refine hK.out _ _ (HST.out w5 cs5 _) (fun hHeld => ?_)
    clear hK K
    refine wpAnyH_done (by kernel_rfl) ?_ _
    have HFN := Lib.hid (HFIN.out g cap w5 own5 gr5 hg5 hl5)
    have HLN := Lib.hid (flen_any HFN.out.1)
    rw [HBN.out] at HLN
    clear cf cs5 cv5 own5 gr5 hg5 hl5
    go_wp2_with (go_at_call 26; (with_reducible refine HLN.out.mono ?_); rintro e wq ⟨rfl, rfl⟩)
    go_ret2
    exact ⟨.slice (some ⟨g, 0, none⟩) (bs.length + 1) cap, rfl, by rw [HBNE.out, HXE.out]; exact HFN.out⟩
set_option maxHeartbeats 8000000 in
theorem make_in_mask {x : Bub}  (up : Int) (m : Nat → Bool) (h : ForC fb v bs w) (hx : bs[(up.toNat)]? = some x) (hup : up = (up.toNat : Int)) (hu : up ≠ -1) (hm : emptyP m = true) :
    Calls Try.prog 33 #[.pointer (some ⟨fb, 0, none⟩), .int .i64 up, .agg (cellsOf m)] w (MakeP fb v bs up m w) := by
  have hal : Below w.heap.size w (w.alloc (.cells (cellsOf m) 28)) := (Below.refl _ _).alloc (Nat.le_refl _) _
  have hF1 := h.below hal
  have HF := Lib.hid h
  have hg1 : (w.alloc (.cells (cellsOf m) 28)).heap[w.heap.size]? = some (.cells (cellsOf m) 28 (0, 0)) := heap_alloc_new _ _
  have HG1 := Lib.hid hg1
  have HAL := Lib.hid hal
  have HLE := Lib.hid (len_any m (w.alloc (.cells (cellsOf m) 28)))
  have hin : inB bs up = true := by rw [hup]; exact inB_of hx
  have HH := Lib.hid (fhas_any up hF1)
  rw [hin] at HH
  have tu : (up != -1) = true := by simpa using hu
  have hat : atB bs up = x := by rw [hup]; exact atB_of hx
  have he : makeE bs up m = (0, 6) := by unfold makeE; rw [if_neg (fun q => by rw [hin] at q; exact absurd q.2 (by simp)), if_pos hm]
  have HE := Lib.hid he
  rw [empty_cnt, decide_eq_true_eq] at hm
  have hc : ((cnt m 1024 : Int) == 0) = true := by rw [hm]; rfl
  clear h hal hF1 hg1 hu he hm hx hup hin hat
  generalize cnt m 1024 = c at *
  go_enter Try.func33, Try.ntmps33
  go_wp2_with (first
    | (go_at_call 27; (with_reducible refine HH.out.mono ?_); rintro e wq ⟨rfl, rfl⟩)
    | (with_reducible (show wpList _ _ _ _ _ _); refine ld_set rfl (.tmp 5) rfl w.heap.size rfl m HG1.out ?_))
  refine HLE.out.mono ?_
  rintro e w2 ⟨rfl, h2⟩
  dsimp only
  have H2 := Lib.hid (HAL.out.trans (h2.mono HAL.out.size))
  clear h2
  go_wp2_with fail
  go_ret2
  exact MakeP.no HF.out H2.out HE.out (by decide) rfl
set_option maxHeartbeats 8000000 in
theorem make_in_state {x : Bub}  (up : Int) (m : Nat → Bool) (h : ForC fb v bs w) (hx : bs[(up.toNat)]? = some x) (hup : up = (up.toNat : Int)) (hu : up ≠ -1) (hm : emptyP m = false) (hs : x.state ≠ 1) :
    Calls Try.prog 33 #[.pointer (some ⟨fb, 0, none⟩), .int .i64 up, .agg (cellsOf m)] w (MakeP fb v bs up m w) := by
  have hal : Below w.heap.size w (w.alloc (.cells (cellsOf m) 28)) := (Below.refl _ _).alloc (Nat.le_refl _) _
  have hF1 := h.below hal
  have HF := Lib.hid h
  have hg1 : (w.alloc (.cells (cellsOf m) 28)).heap[w.heap.size]? = some (.cells (cellsOf m) 28 (0, 0)) := heap_alloc_new _ _
  have HG1 := Lib.hid hg1
  have HAL := Lib.hid hal
  have HLE := Lib.hid (len_any m (w.alloc (.cells (cellsOf m) 28)))
  have hin : inB bs up = true := by rw [hup]; exact inB_of hx
  have HH := Lib.hid (fhas_any up hF1)
  rw [hin] at HH
  have tu : (up != -1) = true := by simpa using hu
  have hat : atB bs up = x := by rw [hup]; exact atB_of hx
  have he : makeE bs up m = (0, 5) := by unfold makeE; rw [if_neg (fun q => by rw [hin] at q; exact absurd q.2 (by simp)), if_neg (by rw [hm]; simp), if_pos ⟨hu, by rw [hat]; exact hs⟩]
  have HE := Lib.hid he
  have HX := Lib.hid hx; have HUP := Lib.hid hup
  have HST1 : Hid ((x.state == 1) = false) := by show _ = _; simpa using hs
  rw [empty_cnt] at hm
  have hc : ((cnt m 1024 : Int) == 0) = false := by simpa using hm
  clear h hal hF1 hg1 hu he hm hx hup hin hat hs
  generalize cnt m 1024 = c at *
  go_enter Try.func33, Try.ntmps33
  go_wp2_with (first
    | (go_at_call 27; (with_reducible refine HH.out.mono ?_); rintro e wq ⟨rfl, rfl⟩)
    | (with_reducible (show wpList _ _ _ _ _ _); refine ld_set rfl (.tmp 5) rfl w.heap.size rfl m HG1.out ?_))
  refine HLE.out.mono ?_
  rintro e w1 ⟨rfl, h1⟩
  dsimp only
  have HB1 := Lib.hid (HAL.out.trans (h1.mono HAL.out.size))
  have HG2 : Hid (w1.heap[w.heap.size]? = some (.cells (cellsOf m) 28 (0, 0))) := Lib.hid ((h1.block w.heap.size (by simp)).trans HG1.out)
  clear h1
  have HFQ := Lib.hid ((HF.out.below HB1.out).below (show Below w1.heap.size w1 (w1.alloc (.cells #[.int .i64 1] 3)) from (Below.refl _ _).alloc (Nat.le_refl _) _))
  have HI := Lib.hid (fis_any HX.out HFQ.out w1.heap.size 1 1 [1] rfl (st_in1 w1 1) (by omega))
  have hz1 : ([1] : List Int).contains x.state = (x.state == 1) := by show _ = decide (x.state = 1); simp
  rw [hz1, HST1.out, ← HUP.out] at HI
  clear hz1
  go_wp2_with (go_at_call 53; (with_reducible refine HI.out.mono ?_); rintro e wq ⟨rfl, rfl⟩)
  go_ret2
  exact MakeP.no HF.out (HB1.out.alloc HB1.out.size _) HE.out (by decide) rfl
set_option maxHeartbeats 8000000 in
theorem make_in_full {x : Bub}  (up : Int) (m : Nat → Bool) (h : ForC fb v bs w) (hx : bs[(up.toNat)]? = some x) (hup : up = (up.toNat : Int)) (hu : up ≠ -1) (hm : emptyP m = false) (hs : x.state = 1) (hl : 32 ≤ bs.length) :
    Calls Try.prog 33 #[.pointer (some ⟨fb, 0, none⟩), .int .i64 up, .agg (cellsOf m)] w (MakeP fb v bs up m w) := by
  have hal : Below w.heap.size w (w.alloc (.cells (cellsOf m) 28)) := (Below.refl _ _).alloc (Nat.le_refl _) _
  have hF1 := h.below hal
  have HF := Lib.hid h
  have hg1 : (w.alloc (.cells (cellsOf m) 28)).heap[w.heap.size]? = some (.cells (cellsOf m) 28 (0, 0)) := heap_alloc_new _ _
  have HG1 := Lib.hid hg1
  have HAL := Lib.hid hal
  have HLE := Lib.hid (len_any m (w.alloc (.cells (cellsOf m) 28)))
  have hin : inB bs up = true := by rw [hup]; exact inB_of hx
  have HH := Lib.hid (fhas_any up hF1)
  rw [hin] at HH
  have tu : (up != -1) = true := by simpa using hu
  have hat : atB bs up = x := by rw [hup]; exact atB_of hx
  have he : makeE bs up m = (0, 4) := by unfold makeE; rw [if_neg (fun q => by rw [hin] at q; exact absurd q.2 (by simp)), if_neg (by rw [hm]; simp), if_neg (fun q => q.2 (by rw [hat]; exact hs)), if_pos hl]
  have HE := Lib.hid he
  have HX := Lib.hid hx; have HUP := Lib.hid hup
  have HST1 : Hid ((x.state == 1) = true) := by show _ = _; simpa using hs
  rw [empty_cnt] at hm
  have hc : ((cnt m 1024 : Int) == 0) = false := by simpa using hm
  have tl : decide ((32 : Int) ≤ (bs.length : Int)) = true := by simp; omega
  clear h hal hF1 hg1 hu he hm hx hup hin hat hs
  generalize cnt m 1024 = c at *
  go_enter Try.func33, Try.ntmps33
  go_wp2_with (first
    | (go_at_call 27; (with_reducible refine HH.out.mono ?_); rintro e wq ⟨rfl, rfl⟩)
    | (with_reducible (show wpList _ _ _ _ _ _); refine ld_set rfl (.tmp 5) rfl w.heap.size rfl m HG1.out ?_))
  refine HLE.out.mono ?_
  rintro e w1 ⟨rfl, h1⟩
  dsimp only
  have HB1 := Lib.hid (HAL.out.trans (h1.mono HAL.out.size))
  have HG2 : Hid (w1.heap[w.heap.size]? = some (.cells (cellsOf m) 28 (0, 0))) := Lib.hid ((h1.block w.heap.size (by simp)).trans HG1.out)
  clear h1
  have HFQ := Lib.hid ((HF.out.below HB1.out).below (show Below w1.heap.size w1 (w1.alloc (.cells #[.int .i64 1] 3)) from (Below.refl _ _).alloc (Nat.le_refl _) _))
  have HI := Lib.hid (fis_any HX.out HFQ.out w1.heap.size 1 1 [1] rfl (st_in1 w1 1) (by omega))
  have hz1 : ([1] : List Int).contains x.state = (x.state == 1) := by show _ = decide (x.state = 1); simp
  rw [hz1, HST1.out, ← HUP.out] at HI
  clear hz1
  have HLQ := Lib.hid (flen_any HFQ.out)
  generalize bs.length = n at *
  go_wp2_with (first
    | (go_at_call 53; (with_reducible refine HI.out.mono ?_); rintro e wq ⟨rfl, rfl⟩)
    | (go_at_call 26; (with_reducible refine HLQ.out.mono ?_); rintro e wq ⟨rfl, rfl⟩))
  go_ret2
  exact MakeP.no HF.out (HB1.out.alloc HB1.out.size _) HE.out (by decide) rfl
set_option maxHeartbeats 8000000 in
theorem make_in_ok {x : Bub}  (up : Int) (m : Nat → Bool) (h : ForC fb v bs w) (hx : bs[(up.toNat)]? = some x) (hup : up = (up.toNat : Int)) (hu : up ≠ -1) (hm : emptyP m = false) (hs : x.state = 1) (hl : bs.length < 32) :
    Calls Try.prog 33 #[.pointer (some ⟨fb, 0, none⟩), .int .i64 up, .agg (cellsOf m)] w (MakeP fb v bs up m w) := by
  have hal : Below w.heap.size w (w.alloc (.cells (cellsOf m) 28)) := (Below.refl _ _).alloc (Nat.le_refl _) _
  have hF1 := h.below hal
  have HF := Lib.hid h
  have hg1 : (w.alloc (.cells (cellsOf m) 28)).heap[w.heap.size]? = some (.cells (cellsOf m) 28 (0, 0)) := heap_alloc_new _ _
  have HG1 := Lib.hid hg1
  have HAL := Lib.hid hal
  have HLE := Lib.hid (len_any m (w.alloc (.cells (cellsOf m) 28)))
  have hin : inB bs up = true := by rw [hup]; exact inB_of hx
  have HH := Lib.hid (fhas_any up hF1)
  rw [hin] at HH
  have tu : (up != -1) = true := by simpa using hu
  have hat : atB bs up = x := by rw [hup]; exact atB_of hx
  have he : makeE bs up m = ((bs.length : Int), 0) := by unfold makeE; rw [if_neg (fun q => by rw [hin] at q; exact absurd q.2 (by simp)), if_neg (by rw [hm]; simp), if_neg (fun q => q.2 (by rw [hat]; exact hs)), if_neg (by omega)]
  have het : makeT bs up m = bs ++ [⟨up, m, 1, 0⟩] := by unfold makeT; rw [he]; rfl
  have hinv := inv_make (m := m) h.inv (.inr hin) hl
  unfold MakeP
  rw [he, het]
  have HX := Lib.hid hx; have HUP := Lib.hid hup
  have HST1 : Hid ((x.state == 1) = true) := by show _ = _; simpa using hs
  rw [empty_cnt] at hm
  have hc : ((cnt m 1024 : Int) == 0) = false := by simpa using hm
  have HLT := Lib.hid hl
  have tl : decide ((32 : Int) ≤ (bs.length : Int)) = false := by simp; omega
  have hbc := bubC_app bs [⟨up, m, 1, 0⟩]
  rw [bubC_one] at hbc
  have hbn : (bs ++ [(⟨up, m, 1, 0⟩ : Bub)]).length = bs.length + 1 := by simp
  have HBD := Lib.hid (build_bub up m); have HBS := Lib.hid (build_slice_bub ⟨up, m, 1, 0⟩)
  have HBL := Lib.hid (bubL_len ⟨up, m, 1, 0⟩)
  have HB1x := Lib.hid (bubL_one ⟨up, m, 1, 0⟩)
  have HZ19 : Hid ((Value.agg (bubL zB).toArray).cells.size = 19) := by show _ = _; rfl
  clear h hal hF1 hg1 hu he hm hx hup hin hat hs het hl
  generalize cnt m 1024 = c at *
  go_enter Try.func33, Try.ntmps33
  go_wp2_with (first
    | (go_at_call 27; (with_reducible refine HH.out.mono ?_); rintro e wq ⟨rfl, rfl⟩)
    | (with_reducible (show wpList _ _ _ _ _ _); refine ld_set rfl (.tmp 5) rfl w.heap.size rfl m HG1.out ?_))
  refine HLE.out.mono ?_
  rintro e w1 ⟨rfl, h1⟩
  dsimp only
  have HB1 := Lib.hid (HAL.out.trans (h1.mono HAL.out.size))
  have HG2 : Hid (w1.heap[w.heap.size]? = some (.cells (cellsOf m) 28 (0, 0))) := Lib.hid ((h1.block w.heap.size (by simp)).trans HG1.out)
  clear h1
  have HFQ := Lib.hid ((HF.out.below HB1.out).below (show Below w1.heap.size w1 (w1.alloc (.cells #[.int .i64 1] 3)) from (Below.refl _ _).alloc (Nat.le_refl _) _))
  have HI := Lib.hid (fis_any HX.out HFQ.out w1.heap.size 1 1 [1] rfl (st_in1 w1 1) (by omega))
  have hz1 : ([1] : List Int).contains x.state = (x.state == 1) := by show _ = decide (x.state = 1); simp
  rw [hz1, HST1.out, ← HUP.out] at HI
  clear hz1
  have HLQ := Lib.hid (flen_any HFQ.out)
  go_upto_region 9 with (first
    | (go_at_call 53; (with_reducible refine HI.out.mono ?_); rintro e wq ⟨rfl, rfl⟩)
    | (go_at_call 26; (with_reducible refine HLQ.out.mono ?_); rintro e wq ⟨rfl, rfl⟩))
  have HBW : Hid (Below w.heap.size w (w1.alloc (.cells #[.int .i64 1] 3))) := Lib.hid (HB1.out.alloc HB1.out.size _)
  have HBT : Hid (But (OwnF fb v) w (w1.alloc (.cells #[.int .i64 1] 3))) := Lib.hid (But.of_below HBW.out)
  have HXB2 : Hid ((w1.alloc (.cells #[.int .i64 1] 3)).heap[w.heap.size]? = some (.cells (cellsOf m) 28 (0, 0))) := Lib.hid ((Below.heap_alloc w1 _ _ (Array.getElem?_eq_some_iff.1 HG2.out).1).trans HG2.out)
  have HF2 : Hid (ForC fb v bs (w1.alloc (.cells #[.int .i64 1] 3))) := HFQ
  have HBO := HB1x
  have HBC := Lib.hid hbc; have HBN := Lib.hid hbn; have HINV := Lib.hid hinv
  clear hbc hbn hinv HFQ HLQ HB1x tl HBW HI HX HST1
  generalize w1.alloc (.cells #[.int .i64 1] 3) = w2 at *
  generalize bubL ⟨up, m, 1, 0⟩ = B at *
  generalize hBNE : bs ++ [(⟨up, m, 1, 0⟩ : Bub)] = BN at *
  generalize hXE : w.heap.size = XB at *
  have HBNE := Lib.hid hBNE; have HXE := Lib.hid hXE
  clear hBNE hXE
  have HXS : Hid (w2.drew.heap[XB]? = some (.cells (cellsOf m) 28 (0, 0))) := HXB2
  have HXS2 : Hid ((w2.alloc (.cells B.toArray 30)).drew.heap[XB]? = some (.cells (cellsOf m) 28 (0, 0))) := (Below.heap_alloc w2 _ XB (Array.getElem?_eq_some_iff.1 HXB2.out).1).trans HXB2.out
  have HROW : Hid ((w2.alloc (.cells B.toArray 30)).drew.ownsRow 0 30 19 v bs.length (bubC bs)) := HF2.out.row.alloc _
  have HNEW : Hid (∀ j u, B[j]? = some u → (w2.alloc (.cells B.toArray 30)).drew.cell? ((⟨w2.heap.size, 0, none⟩ : Addr).add j) = some u) := fun j u hu => by
    rw [Addr.add_mid]; exact blk_rangeB (show Blk (w2.alloc (.cells B.toArray 30)).drew w2.heap.size _ _ from Blk.new w2 _ _) j u hu
  have c0 := HF2.out.cell
  have c0B : (w2.alloc (.cells B.toArray 30)).cell? ⟨fb, 0, none⟩ = some v := (HF2.out.own.alloc _).cell 0
  have HNV : Hid (∀ g, v.ownBlock = some g → g ≠ fb ∧ g ≠ XB) := fun g hg => ⟨HF2.out.nev hg, fun e => by
    have := row_type HF2.out.row hg (show Blk w2 g 28 (cellsOf m) from e ▸ HXB2.out)
    exact absurd this (by decide)⟩
  have HS5 : Hid (∀ w5, (w2.alloc (.cells B.toArray 30)).drew.grownBy w5 v.ownBlock → w5.heap[XB]? = some (.cells (cellsOf m) 28 (0, 0))) := fun w5 gr => Blk.grown_ (show Blk (w2.alloc (.cells B.toArray 30)).drew XB _ _ from HXS2.out) gr (fun e => (HNV.out XB e.symm).2 rfl)
  have HB5 : Hid (∀ w5, (w2.alloc (.cells B.toArray 30)).drew.grownBy w5 v.ownBlock → Blk w5 fb 73 #[v]) := fun w5 gr => Blk.grown_ (show Blk (w2.alloc (.cells B.toArray 30)).drew fb _ _ from HF2.out.own.alloc (.cells B.toArray 30)) gr (fun e => (HNV.out fb e.symm).1 rfl)
  have HV5 : Hid (∀ w5, (w2.alloc (.cells B.toArray 30)).drew.grownBy w5 v.ownBlock → w5.cell? ⟨fb, 0, none⟩ = some v) := fun w5 gr => (HB5.out w5 gr).cell 0
  have HFZ : Hid (∀ w5, (w2.alloc (.cells B.toArray 30)).drew.grownBy w5 v.ownBlock → w5.frozen? ⟨fb, 0, none⟩ = false) := fun w5 gr => (HB5.out w5 gr).free 0
  have HXF : Hid (XB ≠ fb) := fun e => by
    have h1 := HF2.out.own
    rw [← e] at h1
    have := h1.symm.trans HXB2.out
    simp at this
  have HST : Hid (∀ (w5 : World), w5.heap[XB]? = some (.cells (cellsOf m) 28 (0, 0)) → ∀ u, (w5.setCell ⟨fb, 0, none⟩ u).heap[XB]? = some (.cells (cellsOf m) 28 (0, 0))) := fun w5 h5 u => Blk.far h5 HXF.out u
  have HFIN : Hid (∀ g cap w5, w5.ownsRow 0 30 19 (.slice (some ⟨g, 0, none⟩) (bs.length + 1) cap) (bs.length + 1) (bubC bs ++ B) → (w2.alloc (.cells B.toArray 30)).drew.grownBy w5 v.ownBlock → (v.ownBlock = some g ∨ g = w2.heap.size + 1) → g < w5.heap.size →
      ForC fb (.slice (some ⟨g, 0, none⟩) (bs.length + 1) cap) BN (w5.setCell ⟨fb, 0, none⟩ (.slice (some ⟨g, 0, none⟩) (bs.length + 1) cap)) ∧ But (OwnF fb v) w (w5.setCell ⟨fb, 0, none⟩ (.slice (some ⟨g, 0, none⟩) (bs.length + 1) cap)) ∧ ∀ g', (Value.slice (some ⟨g, 0, none⟩) (bs.length + 1) cap).ownBlock = some g' → v.ownBlock = some g' ∨ XB ≤ g') := fun g cap w5 own5 gr5 hg5 hl5 => by
    have hsz : XB < w2.heap.size := (Array.getElem?_eq_some_iff.1 HXB2.out).1
    have hgb : g ≠ fb := by
      rcases hg5 with q | q
      · exact (HNV.out g q).1
      · have := HF2.out.own.lt; omega
    have hst : But (fun k => k = fb) w5 (w5.setCell ⟨fb, 0, none⟩ (.slice (some ⟨g, 0, none⟩) (bs.length + 1) cap)) := (But.refl _ _).set _ _ (.inl rfl)
    have hgr : But (fun k => v.ownBlock = some k) w2 w5 := ((But.refl (fun k => v.ownBlock = some k) w2).alloc _).drew.grown gr5 (fun k hk => .inl hk)
    refine ⟨⟨(HB5.out w5 gr5).set_ 0 _, ?_, HINV.out⟩, ?_, fun g' hg' => ?_⟩
    · have := row_but own5 hst fun g' hg' q => by simp [Value.ownBlock] at hg'; subst hg'; exact hgb q
      rw [HBC.out, HBN.out]; exact this
    · exact HBT.out.trans ((hgr.mono fun k _ q => .inr q).trans (hst.mono fun k _ q => .inl q))
    · simp [Value.ownBlock] at hg'; subst hg'
      rcases hg5 with q | q
      · exact .inl q
      · right; omega
  obtain ⟨i0, hi0, hz0, hz1, hz2⟩ := info_parts infoBub
  have hb32 := HLT.out
  refine wp_region_held_drew (S := fun W => W.heap[XB]? = some (.cells (cellsOf m) 28 (0, 0))) (by kernel_rfl) HXS.out (fun hHeld => ?_)
  show wpAnyH _ _ _ _ _ _ _ _ _
  try dsimp only at hHeld
  refine wpAnyH_take (i := 0) (v := ?_) rfl (by kernel_rfl) (by kernel_rfl) (by kernel_rfl) (fun _ _ _ h => h) (Or.inl ⟨by rfl, fun W hW => by (go_simp <;> with_reducible rfl)⟩) hHeld ?_
  go_simp
  refine wpAnyH_take (i := 1) (v := ?_) rfl (by kernel_rfl) (by kernel_rfl) (by kernel_rfl) (fun _ _ _ h => h) (Or.inl ⟨by rfl, fun W hW => by (go_simp <;> with_reducible rfl)⟩) hHeld ?_
  go_simp
  refine wpAnyH_take (i := 2) (v := ?_) rfl (by kernel_rfl) (by kernel_rfl) (by kernel_rfl) (fun _ _ _ h => h) (Or.inl ⟨by rfl, fun W hW => by (go_simp <;> with_reducible rfl)⟩) hHeld ?_
  go_simp
  refine wpAnyH_take (i := 3) (v := ?_) rfl (by kernel_rfl) (by kernel_rfl) (by kernel_rfl) (fun _ _ _ h => h) (Or.inl ⟨by rfl, fun W hW => by (go_simp <;> with_reducible rfl)⟩) hHeld ?_
  go_simp
  refine wpAnyH_take (i := 5) (v := ?_) rfl (by kernel_rfl) (by kernel_rfl) (by kernel_rfl) (fun _ _ _ h => h) (Or.inl ⟨by rfl, fun W hW => by (go_simp <;> with_reducible rfl)⟩) hHeld ?_
  go_simp
  refine wpAnyH_take (i := 6) (v := .agg (cellsOf m)) rfl (by kernel_rfl) (by kernel_rfl) (by kernel_rfl) (fun _ _ _ h => h) (yieldsIf_load_set (by rfl) (.tmp 5) rfl XB m rfl (fun W h => h)) hHeld ?_
  go_simp
  refine wpAnyH_take (i := 7) (v := .agg B.toArray) rfl (by kernel_rfl) (by kernel_rfl) (by kernel_rfl) (fun _ _ _ h => h) (yieldsIf_build (by rfl) 30 _ rfl #[(0, .int .i64 up), (1, .agg (cellsOf m)), (2, .int .i64 1)] (by kernel_rfl) _ (fun W => HBD.out W)) hHeld ?_
  go_simp
  refine wpAnyH_ready (rs := [4, 8]) (by kernel_rfl) (by simp) (AllReadyH.cons rfl (fun K hK => ?_) (AllReadyH.cons rfl (fun K hK => ?_) (AllReadyH.nil)))
  · go_simp
    refine hK.out _ _ (HXS.out) (fun hHeld => ?_)
    clear hK K
    refine wpAnyH_ready (rs := [8]) (by kernel_rfl) (by simp) (AllReadyH.cons rfl (fun K hK => ?_) AllReadyH.nil)
    refine step_build_slice rfl 66 1 _ rfl #[(0, .agg B.toArray)] (by kernel_rfl) _ _ (HBS.out _) ?_
    refine hK.out _ _ (HXS2.out) (fun hHeld => ?_)
    clear hK K
    refine wpAnyH_ready (rs := [9]) (by kernel_rfl) (by simp) (AllReadyH.cons rfl (fun K hK => ?_) AllReadyH.nil)
    refine step_append_lies _ rfl (.tmp 43) (.tmp 47) 66 rfl 0 30 i0 _ 19 152 Try.underlying66 hi0 hz0 hz1 hz2 HZ19.out (by decide) v bs.length (bubC bs) rfl HROW.out ⟨w2.heap.size, 0, none⟩ 1 1 B rfl (by rw [HBL.out]) HNEW.out HBO.out (by decide) (by unfold maxLen; omega) (by omega) (Nat.zero_le _) (w2.heap.size + 1) (by simp) ?_
    intro g cap w5 own5 gr5 hg5 hl5
    have cf := HFZ.out w5 gr5
    have cs5 := HS5.out w5 gr5
    have cv5 := HV5.out w5 gr5
    refine hK.out _ _ (cs5) (fun hHeld => ?_)
    clear hK K
    refine wpAnyH_take (i := 10) (v := ?_) rfl (by kernel_rfl) (by kernel_rfl) (by kernel_rfl) (fun _ _ _ h => h) (Or.inl ⟨by rfl, fun W hW => by (go_simp <;> with_reducible rfl)⟩) hHeld ?_
    go_simp
    refine wpAnyH_take (i := 11) (v := ?_) rfl (by kernel_rfl) (by kernel_rfl) (by kernel_rfl) (fun _ _ _ h => h) (Or.inl ⟨by rfl, fun W hW => by (go_simp <;> with_reducible rfl)⟩) hHeld ?_
    go_simp
    refine wpAnyH_ready (rs := [12]) (by kernel_rfl) (by simp) (AllReadyH.cons rfl (fun K hK => ?_) AllReadyH.nil)
    go_simp
    refine hK.out _ _ (HST.out w5 cs5 _) (fun hHeld => ?_)
    clear hK K
    refine wpAnyH_done (by kernel_rfl) ?_ _
    have HFN := Lib.hid (HFIN.out g cap w5 own5 gr5 hg5 hl5)
    have HLN := Lib.hid (flen_any HFN.out.1)
    rw [HBN.out] at HLN
    clear cf cs5 cv5 own5 gr5 hg5 hl5
    go_wp2_with (go_at_call 26; (with_reducible refine HLN.out.mono ?_); rintro e wq ⟨rfl, rfl⟩)
    go_ret2
    exact ⟨.slice (some ⟨g, 0, none⟩) (bs.length + 1) cap, rfl, by rw [HBNE.out, HXE.out]; exact HFN.out⟩
  · refine step_build_slice rfl 66 1 _ rfl #[(0, .agg B.toArray)] (by kernel_rfl) _ _ (HBS.out _) ?_
    refine hK.out _ _ (HXS2.out) (fun hHeld => ?_)
    clear hK K
    refine wpAnyH_ready (rs := [4]) (by kernel_rfl) (by simp) (AllReadyH.cons rfl (fun K hK => ?_) AllReadyH.nil)
    go_simp
    refine hK.out _ _ (HXS2.out) (fun hHeld => ?_)
    clear hK K
    refine wpAnyH_ready (rs := [9]) (by kernel_rfl) (by simp) (AllReadyH.cons rfl (fun K hK => ?_) AllReadyH.nil)
    refine step_append_lies _ rfl (.tmp 43) (.tmp 47) 66 rfl 0 30 i0 _ 19 152 Try.underlying66 hi0 hz0 hz1 hz2 HZ19.out (by decide) v bs.length (bubC bs) rfl HROW.out ⟨w2.heap.size, 0, none⟩ 1 1 B rfl (by rw [HBL.out]) HNEW.out HBO.out (by decide) (by unfold maxLen; omega) (by omega) (Nat.zero_le _) (w2.heap.size + 1) (by simp) ?_
    intro g cap w5 own5 gr5 hg5 hl5
    have cf := HFZ.out w5 gr5
    have cs5 := HS5.out w5 gr5
    have cv5 := HV5.out w5 gr5
    refine hK.out _ _ (cs5) (fun hHeld => ?_)
    clear hK K
    refine wpAnyH_take (i := 10) (v := ?_) rfl (by kernel_rfl) (by kernel_rfl) (by kernel_rfl) (fun _ _ _ h => h) (Or.inl ⟨by rfl, fun W hW => by (go_simp <;> with_reducible rfl)⟩) hHeld ?_
    go_simp
    refine wpAnyH_take (i := 11) (v := ?_) rfl (by kernel_rfl) (by kernel_rfl) (by kernel_rfl) (fun _ _ _ h => h) (Or.inl ⟨by rfl, fun W hW => by (go_simp <;> with_reducible rfl)⟩) hHeld ?_
    go_simp
    refine wpAnyH_ready (rs := [12]) (by kernel_rfl) (by simp) (AllReadyH.cons rfl (fun K hK => ?_) AllReadyH.nil)
    go_simp
    refine hK.out _ _ (HST.out w5 cs5 _) (fun hHeld => ?_)
    clear hK K
    refine wpAnyH_done (by kernel_rfl) ?_ _
    have HFN := Lib.hid (HFIN.out g cap w5 own5 gr5 hg5 hl5)
    have HLN := Lib.hid (flen_any HFN.out.1)
    rw [HBN.out] at HLN
    clear cf cs5 cv5 own5 gr5 hg5 hl5
    go_wp2_with (go_at_call 26; (with_reducible refine HLN.out.mono ?_); rintro e wq ⟨rfl, rfl⟩)
    go_ret2
    exact ⟨.slice (some ⟨g, 0, none⟩) (bs.length + 1) cap, rfl, by rw [HBNE.out, HXE.out]; exact HFN.out⟩
theorem fmake_any (up : Int) (m : Nat → Bool) (h : ForC fb v bs w) : Calls Try.prog 33 #[.pointer (some ⟨fb, 0, none⟩), .int .i64 up, .agg (cellsOf m)] w (MakeP fb v bs up m w) := by
  by_cases hu : up = -1
  · cases hm : emptyP m with
    | true => exact make_top_mask up m h hu hm
    | false =>
      by_cases hl : bs.length < 32
      · exact make_top_ok up m h hu hm hl
      · exact make_top_full up m h hu hm (by omega)
  · cases hi : inB bs up with
    | false => exact make_arg up m h hu hi
    | true =>
      obtain ⟨k, x, hk, hx⟩ := inB_nat hi
      have hup : up = (up.toNat : Int) := by omega
      have hx' : bs[up.toNat]? = some x := by rw [show up.toNat = k by omega]; exact hx
      cases hm : emptyP m with
      | true => exact make_in_mask up m h hx' hup hu hm
      | false =>
        by_cases hs : x.state = 1
        · by_cases hl : bs.length < 32
          · exact make_in_ok up m h hx' hup hu hm hs hl
          · exact make_in_full up m h hx' hup hu hm hs (by omega)
        · exact make_in_state up m h hx' hup hu hm hs
end
end Go.Proofs.Ytekahmfchpgmfaa
