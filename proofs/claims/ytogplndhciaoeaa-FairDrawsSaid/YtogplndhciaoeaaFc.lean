/- layer 33 (fair): gaps goes over the gaps, for whatever body keeps what it reads. -/
import Derived.Test.YtogplndhciaoeaaFb
import Derived.RangeFuncNested
import Derived.RangeFuncBound
import Derived.RangeFuncCalls
import Derived.RangeFuncLeaves
import Derived.Shelf.Abstract
import Derived.Shelf.RegionOpen
import Derived.LoopNIn
import Derived.LoopIn
import Derived.Sort.CutIn
namespace Go.Proofs.Ytogplndhciaoeaa
open Go.RowKit Go.Shelf
set_option maxRecDepth 100000
attribute [local go_sem] Oper.semAt_some

theorem But.cell {X : Nat → Prop} {w w' : World} (h : But X w w') {p : Addr} {v : Value} (hX : ¬ X p.block) (hc : w.cell? p = some v) : w'.cell? p = some v := by
  have hb : p.block < w.heap.size := by
    unfold World.cell? at hc
    by_cases hb : p.block < w.heap.size
    · exact hb
    · rw [Array.getElem?_eq_none (by omega)] at hc; cases hc
  exact (World.cell?_of_block (h.block _ hb hX)).trans hc
theorem RowsE.but {X : Nat → Prop} {B : Nat} {w w' : World} {A : Option Addr} {L : List En} (h : RowsE B w A L) (hb : But X w w') (hX : ∀ k, k < B → ¬ X k) : RowsE B w' A L := fun i d hd => by
  obtain ⟨b, off, e, hlt, hr⟩ := h i d hd
  exact ⟨b, off, e, hlt, fun j u hu => hb.cell (p := ⟨b, _, none⟩) (hX b hlt) (hr j u hu)⟩
set_option maxHeartbeats 8000000 in
theorem gaps1_in (F : Fence) (n : Nat) (hF : F.fn 43) (hro : F.round = none) (hn : 1 ≤ n) (l B1 B2 n₀ : Nat) (X : Nat → Prop) (A : Option Addr) (L : List En) (len cap : Nat) (cpu : Int) (hlen : L.length = len) (hle : len ≤ 1000000)
    (J Jx : List Nat → World → Prop)
    (hY : ∀ (pre : List Nat) (x : Nat) W, J pre W → pre.length < (gapsF cpu L 0).length → YieldAt F (n - 1) Try.prog l #[.int .i64 (x : Int)] W fun e W' =>
      (e = .returned (.bool true) ∧ J (pre ++ [x]) W' ∧ But X W W') ∨ (e = .returned (.bool false) ∧ Jx (pre ++ [x]) W'))
    (W : World) (hJ : AbidesFrom W.heap.size J) (h1 : W.cell? ⟨B1, 0, none⟩ = some (.slice A len cap)) (h2 : W.cell? ⟨B2, 0, none⟩ = some (.int .i64 cpu)) (hB2 : ¬ X B2) (hX : ∀ k, k < n₀ → ¬ X k) (hR : RowsE n₀ W A L) (h0 : J [] W) :
    CallsIn F n Try.prog 43 #[.func (.yield l) #[] #[], .pointer (some ⟨B1, 0, none⟩), .pointer (some ⟨B2, 0, none⟩)] W fun e W' => (∃ v, e = .returned v) ∧
      ((∃ ys, ys = gapsF cpu L 0 ∧ J ys W') ∨ (∃ pre, True ∧ Jx pre W')) := by
  have HR := Lib.hid hR; have HLN := Lib.hid hlen; have HC1 := Lib.hid h1; have HC2 := Lib.hid h2; have HJ := Lib.hid hJ; have HX := Lib.hid hX; have HY := Lib.hid hY
  have HGL : Hid (∀ g, (gapsF cpu L g).length ≤ len + 1) := fun g => by have := gapsF_len cpu L g; rw [hlen] at this; exact this
  clear hR hlen h2 hJ hX hY
  refine callsIn_of_wp Try.func43 rfl hF ?_ hro
  simp only [Try.ntmps43, List.size_toArray, List.length_cons, List.length_nil, Nat.reduceAdd, Nat.reduceSub, Array.replicate_succ, Array.replicate_zero, List.push_toArray, List.append_toArray, List.nil_append, List.cons_append]
  gi_wp2
  clear h1
  gi_loopw [4, 9] (fun gv iv wr => ∃ (k g : Nat) (pre : List Nat), gv = .int .i64 g ∧ iv = .int .i64 k ∧ k ≤ len ∧ g ≤ k ∧ gapsF cpu L 0 = pre ++ gapsF cpu (L.drop k) g ∧ J pre wr ∧ But X W wr)
    (fun _ iv _ => len - (intOf iv).toNat)
  case atStart => exact ⟨0, 0, [], rfl, rfl, Nat.zero_le _, Nat.zero_le _, rfl, h0, But.refl _ _⟩
  case round =>
    obtain ⟨k, g, pre, rfl, rfl, hk, hg, hgs, hJs, hb⟩ := hrel
    have HGS := Lib.hid hgs; have HJS := Lib.hid hJs; have HB := Lib.hid hb
    clear hgs hJs hb
    by_cases hlt : k < len
    · obtain ⟨x, hx⟩ : ∃ x, L[k]? = some x := ⟨_, List.getElem?_eq_getElem (by rw [HLN.out]; omega)⟩
      obtain ⟨b, o, rfl, hbn, hr⟩ := (HR.out.but HB.out HX.out) k x hx
      have HRG := Lib.hid hr
      have HID : Hid ((Try.prog.info? 34).map (·.size) = some (clE x).length) := by show _ = _; rw [infoE5, clE_len]
      have k0 : (0 : Int) ≤ (k : Int) := by omega
      have k1 : (k : Int) < (len : Int) := by omega
      have HDR : Hid (L.drop k = x :: L.drop (k + 1)) := by
        show _ = _
        have hkl : k < L.length := (List.getElem?_eq_some_iff.1 hx).1
        rw [List.drop_eq_getElem_cons hkl, (List.getElem?_eq_some_iff.1 hx).2]
      clear hr hx
      gi_upto_region 4 with (first
        | (with_reducible (show wpListIn _ _ _ _ _ _ _ _); refine wpListIn_load_mid rfl 34 (.tmp 11) rfl b (o + k * 5) rfl (clE x) _ HRG.out Try.underlying34 rfl HID.out ?_)
        | (with_reducible (show wpListIn _ _ _ _ _ _ _ _); refine stEIn rfl (.tmp 6) (.tmp 12) rfl wr.heap.size rfl rfl _ (Blk.new wr _ _) rfl ?_))
      have hbx : Blk ((wr.alloc (.cells #[.int .i64 0, .int .i64 0, .int .i64 0, .int .i64 0, .int .u64 0] 34)).setRow wr.heap.size (clE x).toArray) wr.heap.size 34 (clE x).toArray := setRow_heap _ _ _ _ _ _ (Blk.new wr _ _)
      have hbw : Below wr.heap.size wr ((wr.alloc (.cells #[.int .i64 0, .int .i64 0, .int .i64 0, .int .i64 0, .int .u64 0] 34)).setRow wr.heap.size (clE x).toArray) := (((But.of_below (X := fun k => wr.heap.size ≤ k) (Below.refl _ _)).alloc _).row _ _ (.inl (Nat.le_refl _))).below (Nat.le_refl _) fun k _ z => z
      generalize (wr.alloc (.cells #[.int .i64 0, .int .i64 0, .int .i64 0, .int .i64 0, .int .u64 0] 34)).setRow wr.heap.size (clE x).toArray = V at *
      have HBV : Hid (But X W V) := HB.out.trans (But.of_below hbw)
      have HJV : Hid (J pre V) := HJ.out pre wr V none HJS.out (grownBy_below hbw) (fun r e => by cases e)
      clear hbw HRG HID
      generalize wr.heap.size = gg at *
      obtain ⟨xk, xa, xb, xc, xd⟩ := x
      have e0 : V.cell? ⟨gg, 0, none⟩ = some (.int .i64 xk) := hbx.cell 0
      have e1 : V.cell? ⟨gg, 1, none⟩ = some (.int .i64 xa) := hbx.cell 1
      clear hbx
      have hcp : V.cell? ⟨B2, 0, none⟩ = some (.int .i64 cpu) := HBV.out.cell hB2 HC2.out
      have HPL : Hid (pre.length < (gapsF cpu L 0).length) := by
        show _ < _
        rw [HGS.out, List.length_append]
        have := List.length_pos_iff.2 (gapsF_ne cpu (L.drop k) g)
        omega
      by_cases hk1 : xk = 1
      · by_cases hka : xa = cpu
        · have HST : Hid (gapsF cpu (L.drop k) g = g :: gapsF cpu (L.drop (k + 1)) 0) := by
            show _ = _
            rw [HDR.out, gapsF_cons, if_pos (by unfold isS; simp [hk1, hka])]
          subst hk1; subst hka
          obtain ⟨fn, tmps, assign, body, hy, hRR⟩ := HY.out pre g V HJV.out HPL.out
          gi_wp2
          refine hRR.mono ?_
          rintro e W3 (⟨rfl, hJ3, hk3⟩ | ⟨rfl, hJx3⟩)
          · gi_wp2
            go_roundw
            case rel => exact ⟨k + 1, 0, pre ++ [g], rfl, by go_num, by omega, by omega, by rw [HGS.out, HST.out]; simp, hJ3, HBV.out.trans hk3⟩
            case measure => simp [intOf]; omega
          · gi_wp2
            refine bodyPost_ret (results_none rfl _ _ _) rfl ?_
            exact ⟨⟨_, rfl⟩, .inr ⟨_, trivial, hJx3⟩⟩
        · have HST : Hid (gapsF cpu (L.drop k) g = gapsF cpu (L.drop (k + 1)) (g + 1)) := by
            show _ = _
            rw [HDR.out, gapsF_cons, if_neg (by unfold isS; simp [hka])]
          subst hk1
          gi_wp2
          go_roundw
          case rel => exact ⟨k + 1, g + 1, pre, by go_num, by go_num, by omega, by omega, by rw [HGS.out, HST.out], HJV.out, HBV.out⟩
          case measure => simp [intOf]; omega
      · have HST : Hid (gapsF cpu (L.drop k) g = gapsF cpu (L.drop (k + 1)) (g + 1)) := by
          show _ = _
          rw [HDR.out, gapsF_cons, if_neg (by unfold isS; simp [hk1])]
        gi_wp2
        go_roundw
        case rel => exact ⟨k + 1, g + 1, pre, by go_num, by go_num, by omega, by omega, by rw [HGS.out, HST.out], HJV.out, HBV.out⟩
        case measure => simp [intOf]; omega
    · obtain rfl : k = len := by omega
      have HEN : Hid (gapsF cpu (L.drop k) g = [g]) := by
        show _ = _
        rw [List.drop_eq_nil_of_le (by rw [HLN.out]; exact Nat.le_refl _)]; rfl
      have HPL : Hid (pre.length < (gapsF cpu L 0).length) := by
        show _ < _
        rw [HGS.out, HEN.out, List.length_append]; simp
      obtain ⟨fn, tmps, assign, body, hy, hRR⟩ := HY.out pre g wr HJS.out HPL.out
      gi_wp2
      refine hRR.mono ?_
      rintro e W3 (⟨rfl, hJ3, hk3⟩ | ⟨rfl, hJx3⟩)
      · gi_wp2
        go_end0
        exact ⟨⟨_, rfl⟩, .inl ⟨_, by rw [HGS.out, HEN.out], hJ3⟩⟩
      · gi_wp2
        go_end0
        exact ⟨⟨_, rfl⟩, .inr ⟨_, trivial, hJx3⟩⟩
set_option maxHeartbeats 1000000 in
theorem gaps_in (F : Fence) (n : Nat) (hF : F.fn 34) (hro : F.round = none) (A : Option Addr) (len cap : Nat) (cpu : Int) (w : World) :
    CallsIn F n Try.prog 34 #[.slice A len cap, .int .i64 cpu] w fun e w' => e = .returned (.func (.func 43) #[] #[.pointer (some ⟨w.heap.size, 0, none⟩), .pointer (some ⟨w.heap.size + 1, 0, none⟩)]) ∧ w' = (w.alloc (.cells #[.slice A len cap] 28)).alloc (.cells #[.int .i64 cpu] 3) := by
  refine callsIn_of_wp Try.func34 rfl hF ?_ hro
  simp only [Try.ntmps34, List.size_toArray, List.length_cons, List.length_nil, Nat.reduceAdd, Nat.reduceSub, Array.replicate_succ, Array.replicate_zero, List.push_toArray, List.append_toArray, List.nil_append, List.cons_append]
  gi_wp2
  go_ret
  exact ⟨rfl, rfl⟩
end Go.Proofs.Ytogplndhciaoeaa
