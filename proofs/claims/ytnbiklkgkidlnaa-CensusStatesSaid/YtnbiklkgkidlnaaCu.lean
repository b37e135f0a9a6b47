/- layer 35 (census): States. -/
import Derived.Test.YtnbiklkgkidlnaaCs
namespace Go.Proofs.Ytnbiklkgkidlnaa
open Go.RowKit Go.Shelf Go.Maps
set_option maxRecDepth 100000

theorem info9 : (Try.prog.info? 30).map (·.size) = some 9 := by kernel_rfl
theorem cN_one (c : List Nat) : (cN c).toArray.all (·.oneCell') = true := by
  rw [Array.all_eq_true']
  intro v hv
  simp only [cN, List.mem_toArray, List.mem_map] at hv
  obtain ⟨k, _, rfl⟩ := hv
  rfl
theorem But.row {X : Nat → Prop} {a w : World} (h : But X a w) (g : Nat) (cs : Array Value) (hg : X g ∨ a.heap.size ≤ g) : But X a (w.setRow g cs) :=
  ⟨h.os, h.tape, h.output, by simpa using h.size, fun k hk hn => (setRow_other w g k cs (by rintro rfl; rcases hg with hg | hg; exact hn hg; omega)).trans (h.block k hk hn)⟩
theorem stT {d : TkS} {w : World} {ops : Array Oper} {rest : List Oper} {o : Oper} {a : Act} {Q : Exit → Act → World → Prop} (hgd : o.guard = none) (x y : Operand) (ho : o.op = .store 34 x y)
    (g : Nat) (hx : a.eval x = .pointer (some ⟨g, 0, none⟩)) (hy : a.eval y = .agg (tkC d).toArray) (old : Array Value) (hg : Blk w g 34 old) (hold : old.size = 8)
    (h : wpList Try.prog ops Q rest (a.put o.dst undef) (w.setRow g (tkC d).toArray)) : wpList Try.prog ops Q (o :: rest) a w :=
  wpList_store_row hgd 34 x y ho g _ hx hy 34 old hg (by rw [infoTk, List.size_toArray, tkC_len]) (by rw [hold, List.size_toArray, tkC_len]) (tkC_one d) h
theorem st9 {c : List Nat} (hc : c.length = 9) {w : World} {ops : Array Oper} {rest : List Oper} {o : Oper} {a : Act} {Q : Exit → Act → World → Prop} (hgd : o.guard = none) (x y : Operand) (ho : o.op = .store 30 x y)
    (g : Nat) (hx : a.eval x = .pointer (some ⟨g, 0, none⟩)) (hy : a.eval y = .agg (cN c).toArray) (old : Array Value) (hg : Blk w g 30 old) (hold : old.size = 9)
    (h : wpList Try.prog ops Q rest (a.put o.dst undef) (w.setRow g (cN c).toArray)) : wpList Try.prog ops Q (o :: rest) a w :=
  wpList_store_row hgd 30 x y ho g _ hx hy 30 old hg (by rw [info9, List.size_toArray, cN_len, hc]) (by rw [hold, List.size_toArray, cN_len, hc]) (cN_one c) h
theorem blk_range {w : World} {g : Nat} {t : TypeId} {cs : List Value} (h : Blk w g t cs.toArray) : w.rangeAt g 0 cs := fun j u hu => by
  rw [h.cell, Nat.zero_add, List.getElem?_toArray]; exact hu
theorem ret9 {fn : Func} {R : Ending → World → Prop} {a : Act} {r : Tmp} {w : World} {c : List Nat} (hc : c.length = 9) (h : fn.results = #[.cell r 30]) (g : Nat) (hp : a.tmps.getD r undef = .pointer (some ⟨g, 0, none⟩)) (hg : Blk w g 30 (cN c).toArray) (hd : a.defers = [])
    (hR : R (.returned (.agg (cN c).toArray)) w) : bodyPost Try.prog fn R .ret a w :=
  bodyPost_ret (results_cell_row h _ _ g 30 _ (0, 0) _ hp hg Try.underlying30 rfl (by rw [info9, List.size_toArray, cN_len, hc])) hd hR
theorem statL_take (L : List TkS) {k : Nat} {x : TkS} (hx : L[k]? = some x) : statL (L.take (k + 1)) = bumpS (statL (L.take k)) x.st := by
  have hk := (List.getElem?_eq_some_iff.1 hx).1
  rw [List.take_succ_eq_append_getElem hk, statL_snoc, (List.getElem?_eq_some_iff.1 hx).2]
def Z9 : Array Value := #[.int .i64 0, .int .i64 0, .int .i64 0, .int .i64 0, .int .i64 0, .int .i64 0, .int .i64 0, .int .i64 0, .int .i64 0]
theorem z9_eq : Z9 = (cN (statL [])).toArray := rfl
set_option maxHeartbeats 8000000 in
theorem states_any (A : Option Addr) (L : List TkS) (n cap : Nat) (R : List Value) (hn : L.length = n) (hle : n ≤ 1000) (w : World) (hR : RowT w.heap.size w A L) :
    Calls Try.prog 7 #[.agg (.slice A n cap :: R).toArray] w fun e w' => e = .returned (.agg (cN (statL L)).toArray) ∧ Below w.heap.size w w' := by
  have HR := Lib.hid hR; have HL := Lib.hid hn
  clear hR hn
  have k0 := Blk.new w 28 (.slice A n cap :: R).toArray
  have k1 := Blk.new (w.alloc (.cells (.slice A n cap :: R).toArray 28)) 30 Z9
  have k2 := Blk.new ((w.alloc (.cells (.slice A n cap :: R).toArray 28)).alloc (.cells Z9 30)) 30 Z9
  have b0 : Blk (((w.alloc (.cells (.slice A n cap :: R).toArray 28)).alloc (.cells Z9 30)).alloc (.cells Z9 30)) w.heap.size 28 (.slice A n cap :: R).toArray := (k0.alloc _).alloc _
  have b1 := k1.alloc (.cells Z9 30)
  simp only [World.size_alloc] at b1 k2
  have hbl : Below w.heap.size w (((w.alloc (.cells (.slice A n cap :: R).toArray 28)).alloc (.cells Z9 30)).alloc (.cells Z9 30)) := (((Below.refl _ w).alloc (Nat.le_refl _) _).alloc (by simp) _).alloc (by simp; omega) _
  have c0 := b0.cell 0
  clear k0 k1 b0
  rw [show ((Value.slice A n cap :: R).toArray)[0]? = some (.slice A n cap) by simp] at c0
  unfold Z9 at b1 k2 hbl c0
  go_enter Try.func7, Try.ntmps7
  go_upto_region 2 with fail
  generalize (((w.alloc (.cells (.slice A n cap :: R).toArray 28)).alloc (.cells #[.int .i64 0, .int .i64 0, .int .i64 0, .int .i64 0, .int .i64 0, .int .i64 0, .int .i64 0, .int .i64 0, .int .i64 0] 30)).alloc (.cells #[.int .i64 0, .int .i64 0, .int .i64 0, .int .i64 0, .int .i64 0, .int .i64 0, .int .i64 0, .int .i64 0, .int .i64 0] 30)) = V at *
  obtain ⟨g, hg⟩ : ∃ g, w.heap.size = g := ⟨_, rfl⟩
  have HG := Lib.hid hg
  rw [hg] at HR b1 k2 hbl c0 ⊢
  clear hg
  have HB1 := Lib.hid b1; have HB2 : Hid (Blk V (g + 1 + 1) 30 (cN (statL [])).toArray) := k2
  have HBL := Lib.hid hbl
  have HC0 := Lib.hid c0
  clear b1 k2 hbl c0
  have c0 := HC0.out
  go_wp2_with fail
  clear c0
  go_loopw [9] (fun iv wr => ∃ k : Nat, iv = .int .i64 k ∧ k ≤ n ∧ Below g w wr ∧ Blk wr (g + 1) 30 Z9 ∧ Blk wr (g + 1 + 1) 30 (cN (statL (L.take k))).toArray) (fun iv _ => n - (intOf iv).toNat)
  case atStart => exact ⟨0, rfl, Nat.zero_le _, HBL.out, HB1.out, by rw [List.take_zero]; exact HB2.out⟩
  case round =>
    obtain ⟨k, rfl, hk, hb, h1, h2⟩ := hrel
    have HB := Lib.hid hb; have H1 := Lib.hid h1; have H2 := Lib.hid h2
    clear hb h1 h2 HB1 HB2
    by_cases hlt : k < n
    · obtain ⟨x, hx⟩ : ∃ x, L[k]? = some x := ⟨_, List.getElem?_eq_getElem (by rw [HL.out]; exact hlt)⟩
      obtain ⟨b, o, rfl, hbn, hr⟩ := (HR.out.below HB.out) k x hx
      have HRG := Lib.hid hr
      have HID : Hid ((Try.prog.info? 34).map (·.size) = some (tkC x).length) := by show _ = _; rw [infoTk, tkC_len]
      have HT := Lib.hid (statL_take L hx)
      have k0 : (0 : Int) ≤ (k : Int) := by omega
      have k1 : (k : Int) < (n : Int) := by omega
      clear hr hx
      go_upto_region 5 with (first
        | (with_reducible (show wpList _ _ _ _ _ _); refine wpList_load_mid rfl 34 (.tmp 11) rfl b (o + k * 8) rfl (tkC x) _ HRG.out Try.underlying34 rfl HID.out ?_)
        | (with_reducible (show wpList _ _ _ _ _ _); refine stT rfl (.tmp 5) (.tmp 12) rfl wr.heap.size rfl rfl _ (Blk.new wr _ _) rfl ?_))
      have hbx : Blk ((wr.alloc (.cells #[.int .i64 0, .int .i64 0, .int .i32 0, .int .i32 0, .int .i32 0, .int .i32 0, .int .i64 0, .int .i64 0] 34)).setRow wr.heap.size (tkC x).toArray) wr.heap.size 34 (tkC x).toArray := setRow_heap _ _ _ _ _ _ (Blk.new wr _ _)
      have hbw : Below wr.heap.size wr ((wr.alloc (.cells #[.int .i64 0, .int .i64 0, .int .i32 0, .int .i32 0, .int .i32 0, .int .i32 0, .int .i64 0, .int .i64 0] 34)).setRow wr.heap.size (tkC x).toArray) := (((But.of_below (X := fun k => wr.heap.size ≤ k) (Below.refl _ _)).alloc _).row _ _ (.inl (Nat.le_refl _))).below (Nat.le_refl _) fun k _ z => z
      generalize (wr.alloc (.cells #[.int .i64 0, .int .i64 0, .int .i32 0, .int .i32 0, .int .i32 0, .int .i32 0, .int .i64 0, .int .i64 0] 34)).setRow wr.heap.size (tkC x).toArray = V' at *
      have hgs : g ≤ wr.heap.size := by have := HB.out.size; have := HG.out; omega
      have HBV := Lib.hid (HB.out.trans (hbw.mono hgs))
      have HV1 := Lib.hid (H1.out.below hbw H1.out.lt)
      have HV2 := Lib.hid (H2.out.below hbw H2.out.lt)
      clear hbw HRG HID hgs H1 H2 HB
      generalize wr.heap.size = gg at *
      obtain ⟨xa, xb, xc, xd, xe, xf, st, xon⟩ := x
      have e6 : V'.cell? ⟨gg, 6, none⟩ = some (.int .i64 st) := hbx.cell 6
      clear hbx
      by_cases hs0 : 0 ≤ st
      · by_cases hs9 : st < 9
        · obtain ⟨s, rfl⟩ : ∃ s : Nat, st = s := ⟨st.toNat, by omega⟩
          have hs9' : s < 9 := by omega
          have hcl : s < (statL (L.take k)).length := by rw [statL_len]; exact hs9'
          obtain ⟨y, hy⟩ : ∃ y, (statL (L.take k))[s] = y := ⟨_, rfl⟩
          have hyn : y ≤ n := by
            have h := statL_get (L.take k) s hs9'
            rw [List.getElem?_eq_getElem hcl, hy] at h
            have h2 := inS_le s (L.take k)
            rw [List.length_take] at h2
            have : y = inS s (L.take k) := by simpa using h
            omega
          have hT := HT.out
          have hat := cN_at (statL (L.take k)) s hcl
          rw [hy] at hat
          unfold bumpS at hT
          rw [if_pos ⟨hs0, hs9⟩, Int.toNat_natCast, bump_at _ _ hcl, hy] at hT
          have HTT := Lib.hid hT
          have e0 := (HV2.out.cell s).trans hat
          have f0 := HV2.out.free s
          clear hT hat hcl hy HT
          have hyw : wrap64 ((y : Int) + 1) = (y : Int) + 1 := by unfold wrap64; omega
          have HY1 : Hid (((y : Int) + 1) = ((y + 1 : Nat) : Int)) := by show _ = _; omega
          have s0 : ¬ (s : Int) < 0 := by omega
          go_wp2_with fail
          go_roundw
          case rel =>
            refine ⟨k + 1, by go_num, by omega, HBV.out.setCell (p := ⟨g + 1 + 1, s, none⟩) (by show g ≤ g + 1 + 1; omega) _, HV1.out.far (p := ⟨g + 1 + 1, s, none⟩) (by show g + 1 ≠ g + 1 + 1; omega) _, ?_⟩
            rw [HTT.out, ← cN_set, ← HY1.out]
            exact HV2.out.set_ s _
          case measure => simp [intOf]; omega
        · have HTT : Hid (statL (L.take (k + 1)) = statL (L.take k)) := by show _ = _; rw [HT.out]; unfold bumpS; rw [if_neg (fun h => hs9 h.2)]
          go_wp2_with fail
          go_roundw
          case rel => exact ⟨k + 1, by go_num, by omega, HBV.out, HV1.out, by rw [HTT.out]; exact HV2.out⟩
          case measure => simp [intOf]; omega
      · have HTT : Hid (statL (L.take (k + 1)) = statL (L.take k)) := by show _ = _; rw [HT.out]; unfold bumpS; rw [if_neg (fun h => hs0 h.1)]
        go_wp2_with fail
        go_roundw
        case rel => exact ⟨k + 1, by go_num, by omega, HBV.out, HV1.out, by rw [HTT.out]; exact HV2.out⟩
        case measure => simp [intOf]; omega
    · obtain rfl : k = n := by omega
      have tk : ¬ (k : Int) < (k : Int) := by omega
      have HE : Hid (L.take k = L) := by show _ = _; rw [← HL.out, List.take_length]
      rw [HE.out] at H2
      have HL9 : Hid ((statL L).length = 9) := statL_len L
      have HRG := Lib.hid (blk_range H2.out)
      have HID : Hid ((Try.prog.info? 30).map (·.size) = some (cN (statL L)).length) := by show _ = _; rw [info9, cN_len, HL9.out]
      go_wp2_with (first
        | (with_reducible (show wpList _ _ _ _ _ _); refine wpList_load_mid rfl 30 (.tmp 3) rfl (g + 1 + 1) 0 rfl (cN (statL L)) _ HRG.out Try.underlying30 rfl HID.out ?_)
        | (with_reducible (show wpList _ _ _ _ _ _); refine st9 HL9.out rfl (.tmp 2) (.tmp 28) rfl (g + 1) rfl rfl _ H1.out rfl ?_))
      refine ret9 HL9.out Try.results7 (g + 1) rfl (setRow_heap _ _ _ _ _ _ H1.out) rfl ⟨rfl, ?_⟩
      rw [HG.out]
      exact HB.out.trans (((But.refl (fun k => g ≤ k) wr).row (g + 1) _ (.inl (by show g ≤ g + 1; omega))).below (by have := H1.out.lt; omega) fun k _ z => z)
end Go.Proofs.Ytnbiklkgkidlnaa
