/- layer 35 (census): Histogram; the law file's lives. -/
import Derived.Test.YtnbiklkgkidlnaaCe
namespace Go.Proofs.Ytnbiklkgkidlnaa
open Go.RowKit Go.Shelf Go.Maps
set_option maxRecDepth 100000

theorem histL_take (bs l : List Int) {k : Nat} (hk : k < l.length) : histL bs (l.take (k + 1)) = bump (histL bs (l.take k)) (slotF bs l[k]) := by
  rw [List.take_succ_eq_append_getElem hk, histL_snoc]
/-- a row of counts of the call's own. -/
def CntN (B : Nat) (w : World) (v : Value) (c : List Nat) : Prop := ∃ g, v = .slice (some ⟨g, 0, none⟩) c.length c.length ∧ B ≤ g ∧ Blk w g 3 (cN c).toArray
theorem CntN.row {B : Nat} {w : World} {v : Value} {c : List Nat} (h : CntN B w v c) : ∃ A, v = .slice A c.length c.length ∧ RowN w.heap.size w A (c.map fun k : Nat => (k : Int)) := by
  obtain ⟨g, rfl, -, hg⟩ := h
  refine ⟨_, rfl, fun i hi => ⟨g, 0, rfl, hg.lt, ?_⟩⟩
  rw [List.length_map] at hi
  rw [hg.cell, Nat.zero_add, cN_at c i hi, List.getElem_map]
set_option maxHeartbeats 8000000 in
theorem hist_any (A A2 : Option Addr) (l bs : List Int) (n c m c2 : Nat) (hn : l.length = n) (hm : bs.length = m) (hl : n ≤ 1000) (hl2 : m ≤ 1000) (w : World) (h : RowN w.heap.size w A l) (h2 : RowN w.heap.size w A2 bs) :
    Calls Try.prog 11 #[.slice A n c, .slice A2 m c2] w fun e w' => ∃ v, e = .returned v ∧ CntN w.heap.size w' v (histL bs l) ∧ Below w.heap.size w w' := by
  have HR := Lib.hid h; have HR2 := Lib.hid h2; have HN := Lib.hid hn; have HM := Lib.hid hm
  have hmk := make_zeros (m + 1) (by omega) w
  have hm1 : ((m + 1 : Nat) : Int) = (m : Int) + 1 := by omega
  rw [hm1] at hmk
  have hw1 : wrap64 ((m : Int) + 1) = (m : Int) + 1 := by unfold wrap64; omega
  have hbl : Below w.heap.size w (w.alloc (.cells (cN (List.replicate (m + 1) 0)).toArray 3)) := (Below.refl _ w).alloc (Nat.le_refl _) _
  have hbk := Blk.new w 3 (cN (List.replicate (m + 1) 0)).toArray
  clear h h2 hn hm
  obtain ⟨g, hg⟩ : ∃ g, w.heap.size = g := ⟨_, rfl⟩
  rw [hg] at hmk hbl hbk HR HR2 ⊢
  have HG := Lib.hid hg
  clear hg
  have H0 : Hid (histL bs [] = List.replicate (m + 1) 0) := by show _ = _; rw [← HM.out]; rfl
  rw [← H0.out] at hbk hbl hmk
  go_enter Try.func11, Try.ntmps11
  go_upto_region 2 with fail
  clear hmk
  generalize w.alloc (.cells (cN (histL bs [])).toArray 3) = V at *
  have HBL := Lib.hid hbl; have HBK := Lib.hid hbk
  clear hbl hbk
  go_wp2_with fail
  go_loopw [15] (fun iv wr => ∃ k : Nat, iv = .int .i64 k ∧ k ≤ n ∧ Below g w wr ∧ Blk wr g 3 (cN (histL bs (l.take k))).toArray) (fun iv _ => n - (intOf iv).toNat)
  case atStart => exact ⟨0, rfl, Nat.zero_le _, HBL.out, by rw [List.take_zero]; exact HBK.out⟩
  case round =>
    obtain ⟨k, rfl, hk, hb, hc⟩ := hrel
    have HB := Lib.hid hb; have HC := Lib.hid hc
    clear hb hc
    by_cases hlt : k < n
    · have hkl : k < l.length := by rw [HN.out]; exact hlt
      obtain ⟨b, o, rfl, -, hx⟩ := (HR.out.below HB.out) k hkl
      have hT := histL_take bs l hkl
      generalize l[k] = x at *
      have k0 : (0 : Int) ≤ (k : Int) := by omega
      have k1 : (k : Int) < (n : Int) := by omega
      obtain ⟨s, hs⟩ : ∃ s, slotF bs x = s := ⟨_, rfl⟩
      have hsm : s ≤ m := by have := slotF_le bs x; rw [HM.out] at this; omega
      have hcl : s < (histL bs (l.take k)).length := by rw [histL_len, HM.out]; omega
      obtain ⟨y, hy⟩ : ∃ y, (histL bs (l.take k))[s] = y := ⟨_, rfl⟩
      have hyn : y ≤ n := by
        have := histL_le bs (l.take k) (x := y) (by rw [← hy]; exact List.getElem_mem hcl)
        rw [List.length_take] at this; omega
      rw [hs, bump_at _ _ hcl, hy] at hT
      have hat := cN_at (histL bs (l.take k)) s hcl
      rw [hy] at hat
      have HT := Lib.hid hT; have HAT := Lib.hid hat
      have HV : Hid (idxV bs x = if s < m then (s : Int) else -1) := by show _ = _; unfold idxV; rw [hs, HM.out]
      clear hT hat hcl hy hs hkl
      have hgr : g ≤ wr.heap.size := by have := HB.out.size; have := HG.out; omega
      have hgl : g < wr.heap.size := HC.out.lt
      have hW : Below wr.heap.size wr (wr.alloc (.cells #[.int .i64 x] 3)) := (Below.refl _ wr).alloc (Nat.le_refl _) _
      have hcx : (wr.alloc (.cells #[.int .i64 x] 3)).cell? ⟨wr.heap.size, 0, none⟩ = some (.int .i64 x) := (Blk.new wr 3 #[.int .i64 x]).cell 0
      have HIX : Hid (∀ X, X = wr.alloc (.cells #[.int .i64 x] 3) → Calls Try.prog 17 #[.slice A2 m c2, .func (.func 18) #[] #[.pointer (some ⟨wr.heap.size, 0, none⟩)]] X fun e w' => e = .returned (.int .i64 (idxV bs x)) ∧ Below wr.heap.size wr w') := fun X hX => by
        subst hX
        refine (idxf_any A2 bs m c2 HM.out hl2 x wr.heap.size _ hcx (((HR2.out.below HB.out).mono hgr).below hW |>.mono hW.size)).mono ?_
        rintro e w' ⟨rfl, h3⟩
        exact ⟨rfl, hW.trans (h3.mono hW.size)⟩
      rw [HV.out] at HIX
      clear hW hcx HV
      have hyw : wrap64 ((y : Int) + 1) = (y : Int) + 1 := by unfold wrap64; omega
      have HY1 : Hid (((y : Int) + 1) = ((y + 1 : Nat) : Int)) := by show _ = _; omega
      by_cases hs' : s < m
      · rw [if_pos hs'] at HIX
        have s0 : ¬ (s : Int) < 0 := by omega
        have s1 : (s : Int) < (m : Int) + 1 := by omega
        go_wp2_with (go_at_call 17; (with_reducible refine (HIX.out _ rfl).mono ?_); rintro e w3 ⟨rfl, h3⟩; have HB3 := Lib.hid (HB.out.trans (h3.mono hgr)); have HC3 := Lib.hid (HC.out.below h3 hgl); have e0 := (HC3.out.cell s).trans HAT.out; have f0 := HC3.out.free s; clear h3)
        go_roundw
        case rel =>
          refine ⟨k + 1, by go_num, by omega, HB3.out.setCell (p := ⟨g, s, none⟩) (Nat.le_refl _) _, ?_⟩
          rw [HT.out, ← cN_set, ← HY1.out]
          exact HC3.out.set_ s _
        case measure => simp [intOf]; omega
      · rw [if_neg hs'] at HIX
        obtain rfl : s = m := by omega
        have s1 : (s : Int) < (s : Int) + 1 := by omega
        have s0 : ¬ (s : Int) < 0 := by omega
        go_wp2_with (go_at_call 17; (with_reducible refine (HIX.out _ rfl).mono ?_); rintro e w3 ⟨rfl, h3⟩; have HB3 := Lib.hid (HB.out.trans (h3.mono hgr)); have HC3 := Lib.hid (HC.out.below h3 hgl); have e0 := (HC3.out.cell s).trans HAT.out; have f0 := HC3.out.free s; clear h3)
        go_roundw
        case rel =>
          refine ⟨k + 1, by go_num, by omega, HB3.out.setCell (p := ⟨g, s, none⟩) (Nat.le_refl _) _, ?_⟩
          rw [HT.out, ← cN_set, ← HY1.out]
          exact HC3.out.set_ s _
        case measure => simp [intOf]; omega
    · obtain rfl : k = n := by omega
      have tk : ¬ (k : Int) < (k : Int) := by omega
      have HE : Hid (l.take k = l) := by show _ = _; rw [← HN.out, List.take_length]
      go_wp2_with fail
      go_ret
      refine ⟨_, rfl, ⟨g, ?_, Nat.le_refl _, ?_⟩, HB.out⟩
      · rw [histL_len, HM.out]; rfl
      · have := HC.out; rw [HE.out] at this; exact this
end Go.Proofs.Ytnbiklkgkidlnaa
