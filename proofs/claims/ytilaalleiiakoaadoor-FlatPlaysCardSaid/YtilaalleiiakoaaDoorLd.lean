/- The example of layer 19 is as the document says: printed by wip/src19/gen_ld.py. -/
import Derived.Test.YtilaalleiiakoaaDoorLa
import Derived.Test.YtilaalleiiakoaaDoorKv
import Derived.Test.YtilaalleiiakoaaDoorSm
namespace Go.Proofs.YtilaalleiiakoaaDoor
open Go.RowKit
set_option maxRecDepth 100000

def exP : Nat → Bool := ofP (fun _ => 0) 1
def exE1 : EvP := ⟨1, 0, 0, 0, 0⟩
def exE2 : EvP := ⟨5, 0, 0, 1, 0⟩
def exE3 : EvP := ⟨2, 0, 0, 1, 0⟩
def exF0 : Fl := ⟨[], exP, [-1], 0⟩
def exF3 : Fl := ⟨[⟨0, 0, ⟨0, 0, 0, 0⟩, 2, 0⟩], exP, [-1], 0⟩
theorem ex_play (Q : Option Addr) : playP [exQ Q] exF0 [exE1, exE2, exE3] 0 = (exF3, -1) := by rfl
theorem ex_next (Q : Option Addr) : turnP exF3 [exQ Q] exE3 = none := by rfl
theorem ev_ok (a b c d e : Int) (h : ∀ x ∈ [a, b, c, d, e], In64F x) : (⟨a, b, c, d, e⟩ : EvP).Ok :=
  ⟨h _ (by simp), h _ (by simp), h _ (by simp), h _ (by simp), h _ (by simp)⟩
theorem exOk : exE1.Ok ∧ exE2.Ok ∧ exE3.Ok := by
  refine ⟨ev_ok _ _ _ _ _ ?_, ev_ok _ _ _ _ _ ?_, ev_ok _ _ _ _ _ ?_⟩ <;> (intro x hx; simp only [List.mem_cons, List.not_mem_nil, or_false] at hx; unfold In64F; omega)
theorem ex_evs {w : World} {b : Nat} (h : Blk w b 36 #[.int .i64 1, .int .i64 0, .int .i64 0, .int .i64 0, .int .i64 0, .int .i64 5, .int .i64 0, .int .i64 0, .int .i64 1, .int .i64 0, .int .i64 2, .int .i64 0, .int .i64 0, .int .i64 1, .int .i64 0]) : EvIn w (some ⟨b, 0, none⟩) [exE1, exE2, exE3] := fun i e he => by
  match i, he with
  | 0, he => obtain rfl : exE1 = e := by simpa using he
             exact ⟨exOk.1, b, 0, rfl, h.lt, h.cell 0, h.cell 1, h.cell 2, h.cell 3, h.cell 4⟩
  | 1, he => obtain rfl : exE2 = e := by simpa using he
             exact ⟨exOk.2.1, b, 0, rfl, h.lt, h.cell 5, h.cell 6, h.cell 7, h.cell 8, h.cell 9⟩
  | 2, he => obtain rfl : exE3 = e := by simpa using he
             exact ⟨exOk.2.2, b, 0, rfl, h.lt, h.cell 10, h.cell 11, h.cell 12, h.cell 13, h.cell 14⟩
  | i + 3, he => simp at he
section
variable {w : World} {B : Nat} {PA : Option Addr} {ps : List PR}
set_option maxHeartbeats 8000000 in
theorem lives19_any (hG : Gnd w B PA ps) : Calls Tryd.prog 9 #[] w (GotB w.heap.size (.bool true) w) := by
  have HG := Lib.hid hG
  have HMK : Hid (Calls Tryd.prog 15 #[.slice (some ⟨w.heap.size, 0, none⟩) 1 1] (w.alloc (.cells #[.int .i64 0] 3)) fun e w' => e = .returned (.agg (cellsOf exP)) ∧ Below (w.alloc (.cells #[.int .i64 0] 3)).heap.size (w.alloc (.cells #[.int .i64 0] 3)) w') :=
    make_any (fun _ => 0) 1 _ _ (by omega) ⟨some ⟨w.heap.size, 0, none⟩, 1, rfl, .inr ⟨w.heap.size, 0, rfl, (Blk.new w 3 #[.int .i64 0]).lt, fun i hi => by
      obtain rfl : i = 0 := by omega
      exact (Blk.new w 3 #[.int .i64 0]).cell 0⟩⟩
  have HNW : Hid (∀ X, Calls Tryd.prog 6 #[.agg (cellsOf exP), .int .i64 1] X (AneG X exP 0 [] [-1])) := fun X => new_any exP 1 (by omega) X
  have HB0 : Hid (Below w.heap.size w (w.alloc (.cells #[.int .i64 0] 3))) := (Below.refl _ _).alloc (Nat.le_refl _) _
  clear hG
  go_enter Tryd.func9, Tryd.ntmps9
  go_upto_region 2 with (first
    | (go_at_call 15; (with_reducible refine HMK.out.mono ?_); rintro e w1 ⟨rfl, h1⟩; have HB1 := Lib.hid (HB0.out.trans (h1.mono HB0.out.size)); clear h1)
    | (go_at_call 6; (with_reducible refine (HNW.out _).mono ?_); rintro e w2 ⟨F, O, rfl, h2, hb2⟩; have HB2 := Lib.hid (HB1.out.trans (hb2.mono HB1.out.size)); have H2 := Lib.hid h2; obtain ⟨oF, oO⟩ := h2.one; clear h2 hb2)
    | (with_reducible (show wpList _ _ _ _ _ _); refine st_flat rfl (.tmp 1) (.tmp 9) rfl w2.heap.size rfl rfl oF oO _ (Blk.new w2 _ _) rfl ?_))
  have HBF : Hid (BF ((w2.alloc (.cells #[.slice none 0 0, .int .u64 0, .int .u64 0, .int .u64 0, .int .u64 0, .int .u64 0, .int .u64 0, .int .u64 0, .int .u64 0, .int .u64 0, .int .u64 0, .int .u64 0, .int .u64 0, .int .u64 0, .int .u64 0, .int .u64 0, .int .u64 0, .slice none 0 0, .int .i64 0] 30)).setRow w2.heap.size (flL F O exP 0).toArray) w2.heap.size F O exP 0) := BF.row (Blk.new w2 _ _)
  have HOW : Hid (OwnF ((w2.alloc (.cells #[.slice none 0 0, .int .u64 0, .int .u64 0, .int .u64 0, .int .u64 0, .int .u64 0, .int .u64 0, .int .u64 0, .int .u64 0, .int .u64 0, .int .u64 0, .int .u64 0, .int .u64 0, .int .u64 0, .int .u64 0, .int .u64 0, .int .u64 0, .slice none 0 0, .int .i64 0] 30)).setRow w2.heap.size (flL F O exP 0).toArray) w1.heap.size F O [] [-1]) := (H2.out.below ((Below.refl _ _).alloc (Nat.le_refl _) _)).row _ _ fun k hk => by have := (H2.out.lt hk).2; omega
  have HBB : Hid (Below w.heap.size w ((w2.alloc (.cells #[.slice none 0 0, .int .u64 0, .int .u64 0, .int .u64 0, .int .u64 0, .int .u64 0, .int .u64 0, .int .u64 0, .int .u64 0, .int .u64 0, .int .u64 0, .int .u64 0, .int .u64 0, .int .u64 0, .int .u64 0, .int .u64 0, .int .u64 0, .slice none 0 0, .int .i64 0] 30)).setRow w2.heap.size (flL F O exP 0).toArray)) := (((But.of_below (X := fun k => w.heap.size ≤ k) HB2.out).alloc _).row _ _ (.inr HB2.out.size)).below (Nat.le_refl _) fun k _ q => q
  generalize (w2.alloc (.cells #[.slice none 0 0, .int .u64 0, .int .u64 0, .int .u64 0, .int .u64 0, .int .u64 0, .int .u64 0, .int .u64 0, .int .u64 0, .int .u64 0, .int .u64 0, .int .u64 0, .int .u64 0, .int .u64 0, .int .u64 0, .int .u64 0, .int .u64 0, .slice none 0 0, .int .i64 0] 30)).setRow w2.heap.size (flL F O exP 0).toArray = W1 at *
  generalize w2.heap.size = b1 at *
  have HEB : Hid (Blk (W1.alloc (.cells #[.int .i64 1, .int .i64 0, .int .i64 0, .int .i64 0, .int .i64 0, .int .i64 5, .int .i64 0, .int .i64 0, .int .i64 1, .int .i64 0, .int .i64 2, .int .i64 0, .int .i64 0, .int .i64 1, .int .i64 0] 36)) W1.heap.size 36 #[.int .i64 1, .int .i64 0, .int .i64 0, .int .i64 0, .int .i64 0, .int .i64 5, .int .i64 0, .int .i64 0, .int .i64 1, .int .i64 0, .int .i64 2, .int .i64 0, .int .i64 0, .int .i64 1, .int .i64 0]) := Blk.new W1 _ _
  have HBF2 : Hid (BF (W1.alloc (.cells #[.int .i64 1, .int .i64 0, .int .i64 0, .int .i64 0, .int .i64 0, .int .i64 5, .int .i64 0, .int .i64 0, .int .i64 1, .int .i64 0, .int .i64 2, .int .i64 0, .int .i64 0, .int .i64 1, .int .i64 0] 36)) b1 F O exP 0) := Blk.alloc HBF.out _
  have HOW2 : Hid (OwnF (W1.alloc (.cells #[.int .i64 1, .int .i64 0, .int .i64 0, .int .i64 0, .int .i64 0, .int .i64 5, .int .i64 0, .int .i64 0, .int .i64 1, .int .i64 0, .int .i64 2, .int .i64 0, .int .i64 0, .int .i64 1, .int .i64 0] 36)) w1.heap.size F O [] [-1]) := HOW.out.below ((Below.refl _ _).alloc (Nat.le_refl _) _)
  have HBB2 : Hid (Below w.heap.size w (W1.alloc (.cells #[.int .i64 1, .int .i64 0, .int .i64 0, .int .i64 0, .int .i64 0, .int .i64 5, .int .i64 0, .int .i64 0, .int .i64 1, .int .i64 0, .int .i64 2, .int .i64 0, .int .i64 0, .int .i64 1, .int .i64 0] 36))) := HBB.out.alloc HBB.out.size _
  go_upto_region 3 with fail
  generalize W1.alloc (.cells #[.int .i64 1, .int .i64 0, .int .i64 0, .int .i64 0, .int .i64 0, .int .i64 5, .int .i64 0, .int .i64 0, .int .i64 1, .int .i64 0, .int .i64 2, .int .i64 0, .int .i64 0, .int .i64 1, .int .i64 0] 36) = W2 at *
  generalize W1.heap.size = eb at *
  clear HBF HOW HBB HB2 HB1 HB0 H2 HMK HNW
  have HON : Hid (∀ X, Below W2.heap.size W2 X → Calls Tryd.prog 18 #[] X (OneG X)) := fun X hX => one_any (HG.out.below ((HBB2.out.mono HG.out.le).trans (hX.mono (Nat.le_trans HG.out.le HBB2.out.size))))
  have HPL : Hid (∀ X B4 A Q, Below W2.heap.size W2 X → Gnd X B4 A [exQ Q] → Calls Tryd.prog 11 #[.agg (flL F O exP 0).toArray, .slice A 1 1, .slice (some ⟨eb, 0, none⟩) 3 3] X (PlaG X (exF3, -1))) := fun X B4 A Q hX hg => by
    have := play_any (f := exF0) (HOW2.out.below hX).inF 1 3 (by decide) (by decide) hg (by unfold In64F; decide) ((ex_evs HEB.out).below hX)
    rw [ex_play] at this; exact this
  have HSR : Hid (∀ X, Below W2.heap.size W2 X → X.rangeAt b1 0 (flL F O exP 0)) := fun X hX => BF.all (Blk.below HBF2.out hX (Blk.lt HBF2.out))
  refine wp_region_held_drew (S := fun X => X.rangeAt b1 0 (flL F O exP 0)) (by kernel_rfl) (HSR.out _ ((Below.refl _ _).drew)) (fun hHeld => ?_)
  show wpAnyH _ _ _ _ _ _ _ _ _
  try dsimp only at hHeld
  have HBV := Lib.hid ((Below.refl W2.heap.size W2).drew)
  generalize W2.drew = V at *
  have HV0 := HBV
  have HVV := Lib.hid (Below.refl V.heap.size V)
  obtain ⟨V0, hV0⟩ : ∃ V0, V = V0 := ⟨_, rfl⟩
  have HVV : Hid (Below V0.heap.size V0 V) := by rw [← hV0]; exact HVV.out
  have HV0 : Hid (Below W2.heap.size W2 V0) := by rw [← hV0]; exact HV0.out
  clear hV0
  refine wpAnyH_take (i := 0) (v := .agg (flL F O exP 0).toArray) rfl (by kernel_rfl) (by kernel_rfl) (by kernel_rfl) (fun _ _ _ h => h) (yieldsIf_load_mid (by rfl) 30 (.tmp 1) rfl b1 0 rfl (flL F O exP 0) _ (fun X' h => h) under30 rfl (by rw [infoFlat, flL_len])) hHeld ?_
  go_simp
  refine wpAnyH_take (i := 2) (v := ?_) rfl (by kernel_rfl) (by kernel_rfl) (by kernel_rfl) (fun _ _ _ h => h) (Or.inl ⟨by rfl, fun X hX => by (go_simp <;> with_reducible rfl)⟩) hHeld ?_
  go_simp
  refine wpAnyH_ready (rs := [1, 7]) (by kernel_rfl) (by simp) (AllReadyH.cons rfl (fun K hK => ?_) (AllReadyH.cons rfl (fun K hK => ?_) AllReadyH.nil))
  · go_simp
    go_at_call 18
    (with_reducible refine (HON.out _ HBV.out).mono ?_)
    rintro er w4 ⟨A4, Q4, rfl, hg4, hb4⟩
    have HBV := Lib.hid (HBV.out.trans (hb4.mono HBV.out.size))
    have HVV := Lib.hid (HVV.out.trans (hb4.mono HVV.out.size))
    have HGN := Lib.hid hg4
    (try (go_wp2_with fail))
    refine hK.out _ _ (HSR.out _ HBV.out) (fun hHeld => ?_)
    clear hK K hg4 hb4
    obtain ⟨B4, hB4⟩ : ∃ B4, w4.heap.size = B4 := ⟨_, rfl⟩
    rw [hB4] at HGN
    clear hB4
    generalize w4 = V at *
    refine wpAnyH_ready (rs := [3, 7]) (by kernel_rfl) (by simp) (AllReadyH.cons rfl (fun K hK => ?_) (AllReadyH.cons rfl (fun K hK => ?_) AllReadyH.nil))
    · go_simp
      go_at_call 11
      (with_reducible refine (HPL.out V B4 A4 Q4 HBV.out HGN.out).mono ?_)
      rintro er w5 ⟨F5, O5, rfl, h5, hb5⟩
      obtain ⟨g5, k5, rfl⟩ : ∃ g5 k5, F5 = .slice (some ⟨g5, 0, none⟩) 1 k5 := (rowForm h5.tk).resolve_left (fun z => by have := z.2; cases this)
      obtain ⟨-, oO5⟩ := h5.one
      have HBV := Lib.hid (HBV.out.trans (hb5.mono HBV.out.size))
      have HC5 : Hid (V0.heap.size ≤ V.heap.size) := HVV.out.size
      have HVV := Lib.hid (HVV.out.trans (hb5.mono HVV.out.size))
      have H5 := Lib.hid h5
      (try (go_wp2_with fail))
      refine hK.out _ _ (HSR.out _ HBV.out) (fun hHeld => ?_)
      clear hK K h5 hb5
      obtain ⟨C5, hC5⟩ : ∃ C5, V.heap.size = C5 := ⟨_, rfl⟩
      rw [hC5] at H5 HC5
      clear hC5
      generalize w5 = V at *
      refine wpAnyH_take (i := 4) (v := ?_) rfl (by kernel_rfl) (by kernel_rfl) (by kernel_rfl) (fun _ _ _ h => h) (Or.inl ⟨by rfl, fun X hX => by (go_simp <;> with_reducible rfl)⟩) hHeld ?_
      go_simp
      refine wpAnyH_take (i := 5) (v := ?_) rfl (by kernel_rfl) (by kernel_rfl) (by kernel_rfl) (fun _ _ _ h => h) (Or.inl ⟨by rfl, fun X hX => by (go_simp <;> with_reducible rfl)⟩) hHeld ?_
      go_simp
      refine wpAnyH_take (i := 6) (v := ?_) rfl (by kernel_rfl) (by kernel_rfl) (by kernel_rfl) (fun _ _ _ h => h) (Or.inl ⟨by rfl, fun X hX => by (go_simp <;> with_reducible rfl)⟩) hHeld ?_
      go_simp
      refine wpAnyH_ready (rs := [7]) (by kernel_rfl) (by simp) (AllReadyH.cons rfl (fun K hK => ?_) AllReadyH.nil)
      go_simp
      have hal := (Below.refl V.heap.size V).alloc (Nat.le_refl _) (.cells #[.slice none 0 0, .int .u64 0, .int .u64 0, .int .u64 0, .int .u64 0, .int .u64 0, .int .u64 0, .int .u64 0, .int .u64 0, .int .u64 0, .int .u64 0, .int .u64 0, .int .u64 0, .int .u64 0, .int .u64 0, .int .u64 0, .int .u64 0, .slice none 0 0, .int .i64 0] 30)
      have hrb := Blk.new V 30 #[.slice none 0 0, .int .u64 0, .int .u64 0, .int .u64 0, .int .u64 0, .int .u64 0, .int .u64 0, .int .u64 0, .int .u64 0, .int .u64 0, .int .u64 0, .int .u64 0, .int .u64 0, .int .u64 0, .int .u64 0, .int .u64 0, .int .u64 0, .slice none 0 0, .int .i64 0]
      have HBV := Lib.hid (HBV.out.trans (hal.mono HBV.out.size))
      have HNR : Hid (∀ k, OwnB (.slice (some ⟨g5, 0, none⟩) 1 k5) O5 k → k ≠ V.heap.size) := fun k hk => by have := (H5.out.lt hk).2; omega
      have H5 := Lib.hid (H5.out.below hal)
      have HRL : Hid (V0.heap.size ≤ V.heap.size) := HVV.out.size
      have HVV := Lib.hid (HVV.out.trans (hal.mono HVV.out.size))
      refine hK.out _ _ (HSR.out _ HBV.out) (fun hHeld => ?_)
      clear hK K hal
      obtain ⟨rb, hrbe⟩ : ∃ rb, V.heap.size = rb := ⟨_, rfl⟩
      rw [hrbe] at hrb HRL HNR
      (try rw [hrbe])
      have HRB := Lib.hid hrb
      clear hrb hrbe
      generalize V.alloc (.cells #[.slice none 0 0, .int .u64 0, .int .u64 0, .int .u64 0, .int .u64 0, .int .u64 0, .int .u64 0, .int .u64 0, .int .u64 0, .int .u64 0, .int .u64 0, .int .u64 0, .int .u64 0, .int .u64 0, .int .u64 0, .int .u64 0, .int .u64 0, .slice none 0 0, .int .i64 0] 30) = V at *
      refine wpAnyH_ready (rs := [8]) (by kernel_rfl) (by simp) (AllReadyH.cons rfl (fun K hK => ?_) AllReadyH.nil)
      refine step_st_flat rfl (.tmp 3) (.tmp 19) rfl rb rfl rfl rfl oO5 _ HRB.out rfl ?_
      have hb9 := (((But.of_below (X := fun k => V0.heap.size ≤ k) HVV.out).row rb (flL (.slice (some ⟨g5, 0, none⟩) 1 k5) O5 exF3.p exF3.tm).toArray (.inr HRL.out))).below (Nat.le_refl _) fun k _ q => q
      have HBV9 := Lib.hid (HV0.out.trans (hb9.mono HV0.out.size))
      have HBF : Hid (BF (V.setRow rb (flL (.slice (some ⟨g5, 0, none⟩) 1 k5) O5 exF3.p exF3.tm).toArray) rb (.slice (some ⟨g5, 0, none⟩) 1 k5) O5 exP 0) := BF.row (F := .slice (some ⟨g5, 0, none⟩) 1 k5) (O := O5) (p := exF3.p) (t := exF3.tm) HRB.out
      have H5 := Lib.hid (H5.out.row rb (flL (.slice (some ⟨g5, 0, none⟩) 1 k5) O5 exF3.p exF3.tm).toArray HNR.out)
      refine hK.out _ _ (HSR.out _ HBV9.out) (fun hHeld => ?_)
      clear hK K hb9
      generalize V.setRow rb (flL (.slice (some ⟨g5, 0, none⟩) 1 k5) O5 exF3.p exF3.tm).toArray = V3 at *
      (try go_simp)
      refine wpAnyH_ready (rs := [9]) (by kernel_rfl) (by simp) (AllReadyH.cons rfl (fun K hK => ?_) AllReadyH.nil)
      go_simp
      refine hK.out _ _ hHeld (fun hHeld => ?_)
      clear hK K
      refine wpAnyH_done (by kernel_rfl) ?_ _
      clear HVV HRB HNR HGN HBV HPL HRL HC5 HV0 hHeld
      go_upto_region 4 with fail
      have e10 : V3.cell? ⟨eb, 10, none⟩ = some (.int .i64 2) := (HBV9.out.cell (p := ⟨eb, 10, none⟩) HEB.out.lt).trans (HEB.out.cell 10)
      have HB3 := Lib.hid (HBB2.out.trans (HBV9.out.mono HBB2.out.size))
      have HON : Hid (∀ X, Below V3.heap.size V3 X → Calls Tryd.prog 18 #[] X (OneG X)) := fun X hX => one_any (HG.out.below ((HB3.out.mono HG.out.le).trans (hX.mono (Nat.le_trans HG.out.le HB3.out.size))))
      have HNX : Hid (∀ X B4 A Q, Below V3.heap.size V3 X → Gnd X B4 A [exQ Q] → Calls Tryd.prog 14 #[.agg (flL (.slice (some ⟨g5, 0, none⟩) 1 k5) O5 exP 0).toArray, .slice A 1 1, .agg #[.int .i64 2, .int .i64 0, .int .i64 0, .int .i64 1, .int .i64 0]] X (NexG X exF3 none)) := fun X B4 A Q hX hg => by
        have := next_any (f := exF3) (H5.out.below hX).inF 1 (by decide) (by decide) hg (by unfold In64F; decide) exE3 exOk.2.2.a
        rw [ex_next] at this; exact this
      have HS4 : Hid (∀ X, Below V3.heap.size V3 X → (X.cell? ⟨eb, 10, none⟩ = some (.int .i64 2) ∧ X.cell? ⟨eb, 11, none⟩ = some (.int .i64 0) ∧ X.cell? ⟨eb, 12, none⟩ = some (.int .i64 0) ∧ X.cell? ⟨eb, 13, none⟩ = some (.int .i64 1) ∧ X.cell? ⟨eb, 14, none⟩ = some (.int .i64 0)) ∧ X.rangeAt rb 0 (flL (.slice (some ⟨g5, 0, none⟩) 1 k5) O5 exP 0)) := fun X hX => by
        have he := (HEB.out.below HBV9.out HEB.out.lt)
        have he2 := he.below hX he.lt
        exact ⟨⟨he2.cell 10, he2.cell 11, he2.cell 12, he2.cell 13, he2.cell 14⟩, BF.all (Blk.below HBF.out hX (Blk.lt HBF.out))⟩
      clear e10
      refine wp_region_held_drew (S := fun X => (X.cell? ⟨eb, 10, none⟩ = some (.int .i64 2) ∧ X.cell? ⟨eb, 11, none⟩ = some (.int .i64 0) ∧ X.cell? ⟨eb, 12, none⟩ = some (.int .i64 0) ∧ X.cell? ⟨eb, 13, none⟩ = some (.int .i64 1) ∧ X.cell? ⟨eb, 14, none⟩ = some (.int .i64 0)) ∧ X.rangeAt rb 0 (flL (.slice (some ⟨g5, 0, none⟩) 1 k5) O5 exP 0)) (by kernel_rfl) (HS4.out _ ((Below.refl _ _).drew)) (fun hHeld => ?_)
      show wpAnyH _ _ _ _ _ _ _ _ _
      try dsimp only at hHeld
      have HBV := Lib.hid ((Below.refl V3.heap.size V3).drew)
      generalize V3.drew = V at *
      have HV0 := HBV
      have HVV := Lib.hid (Below.refl V.heap.size V)
      obtain ⟨V0, hV0⟩ : ∃ V0, V = V0 := ⟨_, rfl⟩
      have HVV : Hid (Below V0.heap.size V0 V) := by rw [← hV0]; exact HVV.out
      have HV0 : Hid (Below V3.heap.size V3 V0) := by rw [← hV0]; exact HV0.out
      clear hV0
      refine wpAnyH_take (i := 0) (v := .agg (flL (.slice (some ⟨g5, 0, none⟩) 1 k5) O5 exP 0).toArray) rfl (by kernel_rfl) (by kernel_rfl) (by kernel_rfl) (fun _ _ _ h => h) (yieldsIf_load_mid (by rfl) 30 (.tmp 3) rfl rb 0 rfl (flL (.slice (some ⟨g5, 0, none⟩) 1 k5) O5 exP 0) _ (fun X' h => h.2) under30 rfl (by rw [infoFlat, flL_len])) hHeld ?_
      go_simp
      refine wpAnyH_take (i := 2) (v := ?_) rfl (by kernel_rfl) (by kernel_rfl) (by kernel_rfl) (fun _ _ _ h => h) (Or.inl ⟨by rfl, fun X hX => by (obtain ⟨⟨z0, z1, z2, z3, z4⟩, z5⟩ := hX; go_simp <;> with_reducible rfl)⟩) hHeld ?_
      go_simp
      refine wpAnyH_take (i := 3) (v := ?_) rfl (by kernel_rfl) (by kernel_rfl) (by kernel_rfl) (fun _ _ _ h => h) (Or.inl ⟨by rfl, fun X hX => by (obtain ⟨⟨z0, z1, z2, z3, z4⟩, z5⟩ := hX; go_simp <;> with_reducible rfl)⟩) hHeld ?_
      go_simp
      refine wpAnyH_take (i := 4) (v := ?_) rfl (by kernel_rfl) (by kernel_rfl) (by kernel_rfl) (fun _ _ _ h => h) (Or.inl ⟨by rfl, fun X hX => by (obtain ⟨⟨z0, z1, z2, z3, z4⟩, z5⟩ := hX; go_simp <;> with_reducible rfl)⟩) hHeld ?_
      go_simp
      refine wpAnyH_ready (rs := [1, 9]) (by kernel_rfl) (by simp) (AllReadyH.cons rfl (fun K hK => ?_) (AllReadyH.cons rfl (fun K hK => ?_) AllReadyH.nil))
      · go_simp
        go_at_call 18
        (with_reducible refine (HON.out _ HBV.out).mono ?_)
        rintro er w4 ⟨A4, Q4, rfl, hg4, hb4⟩
        have HBV := Lib.hid (HBV.out.trans (hb4.mono HBV.out.size))
        have HVV := Lib.hid (HVV.out.trans (hb4.mono HVV.out.size))
        have HGN := Lib.hid hg4
        (try (go_wp2_with fail))
        refine hK.out _ _ (HS4.out _ HBV.out) (fun hHeld => ?_)
        clear hK K hg4 hb4
        obtain ⟨B4, hB4⟩ : ∃ B4, w4.heap.size = B4 := ⟨_, rfl⟩
        rw [hB4] at HGN
        clear hB4
        generalize w4 = V at *
        refine wpAnyH_ready (rs := [5, 9]) (by kernel_rfl) (by simp) (AllReadyH.cons rfl (fun K hK => ?_) (AllReadyH.cons rfl (fun K hK => ?_) AllReadyH.nil))
        · go_simp
          go_at_call 14
          (with_reducible refine (HNX.out V B4 A4 Q4 HBV.out HGN.out).mono ?_)
          rintro er w5 ⟨F6, O6, rfl, h6, hb6⟩
          obtain ⟨oF6, oO6⟩ := h6.one
          have HBV := Lib.hid (HBV.out.trans (hb6.mono HBV.out.size))
          have HVV := Lib.hid (HVV.out.trans (hb6.mono HVV.out.size))
          (try (go_wp2_with fail))
          refine hK.out _ _ (HS4.out _ HBV.out) (fun hHeld => ?_)
          clear hK K h6 hb6
          generalize w5 = V at *
          refine wpAnyH_take (i := 6) (v := ?_) rfl (by kernel_rfl) (by kernel_rfl) (by kernel_rfl) (fun _ _ _ h => h) (Or.inl ⟨by rfl, fun X hX => by (obtain ⟨⟨z0, z1, z2, z3, z4⟩, z5⟩ := hX; go_simp <;> with_reducible rfl)⟩) hHeld ?_
          go_simp
          refine wpAnyH_take (i := 7) (v := ?_) rfl (by kernel_rfl) (by kernel_rfl) (by kernel_rfl) (fun _ _ _ h => h) (Or.inl ⟨by rfl, fun X hX => by (obtain ⟨⟨z0, z1, z2, z3, z4⟩, z5⟩ := hX; go_simp <;> with_reducible rfl)⟩) hHeld ?_
          go_simp
          refine wpAnyH_take (i := 8) (v := ?_) rfl (by kernel_rfl) (by kernel_rfl) (by kernel_rfl) (fun _ _ _ h => h) (Or.inl ⟨by rfl, fun X hX => by (obtain ⟨⟨z0, z1, z2, z3, z4⟩, z5⟩ := hX; go_simp <;> with_reducible rfl)⟩) hHeld ?_
          go_simp
          refine wpAnyH_ready (rs := [9]) (by kernel_rfl) (by simp) (AllReadyH.cons rfl (fun K hK => ?_) AllReadyH.nil)
          go_simp
          have hal := (Below.refl V.heap.size V).alloc (Nat.le_refl _) (.cells #[.slice none 0 0, .int .u64 0, .int .u64 0, .int .u64 0, .int .u64 0, .int .u64 0, .int .u64 0, .int .u64 0, .int .u64 0, .int .u64 0, .int .u64 0, .int .u64 0, .int .u64 0, .int .u64 0, .int .u64 0, .int .u64 0, .int .u64 0, .slice none 0 0, .int .i64 0] 30)
          have hrb := Blk.new V 30 #[.slice none 0 0, .int .u64 0, .int .u64 0, .int .u64 0, .int .u64 0, .int .u64 0, .int .u64 0, .int .u64 0, .int .u64 0, .int .u64 0, .int .u64 0, .int .u64 0, .int .u64 0, .int .u64 0, .int .u64 0, .int .u64 0, .int .u64 0, .slice none 0 0, .int .i64 0]
          have HBV := Lib.hid (HBV.out.trans (hal.mono HBV.out.size))
          have HRL : Hid (V0.heap.size ≤ V.heap.size) := HVV.out.size
          have HVV := Lib.hid (HVV.out.trans (hal.mono HVV.out.size))
          refine hK.out _ _ (HS4.out _ HBV.out) (fun hHeld => ?_)
          clear hK K hal
          obtain ⟨rb9, hrbe⟩ : ∃ rb9, V.heap.size = rb9 := ⟨_, rfl⟩
          rw [hrbe] at hrb HRL
          (try rw [hrbe])
          have HRB := Lib.hid hrb
          clear hrb hrbe
          generalize V.alloc (.cells #[.slice none 0 0, .int .u64 0, .int .u64 0, .int .u64 0, .int .u64 0, .int .u64 0, .int .u64 0, .int .u64 0, .int .u64 0, .int .u64 0, .int .u64 0, .int .u64 0, .int .u64 0, .int .u64 0, .int .u64 0, .int .u64 0, .int .u64 0, .slice none 0 0, .int .i64 0] 30) = V at *
          refine wpAnyH_ready (rs := [10]) (by kernel_rfl) (by simp) (AllReadyH.cons rfl (fun K hK => ?_) AllReadyH.nil)
          refine step_st_flat rfl (.tmp 5) (.tmp 28) rfl rb9 rfl rfl oF6 oO6 _ HRB.out rfl ?_
          have hb9 := (((But.of_below (X := fun k => V0.heap.size ≤ k) HVV.out).row rb9 (flL F6 O6 exF3.p exF3.tm).toArray (.inr HRL.out))).below (Nat.le_refl _) fun k _ q => q
          have HBVA := Lib.hid (HV0.out.trans (hb9.mono HV0.out.size))
          refine hK.out _ _ (HS4.out _ HBVA.out) (fun hHeld => ?_)
          clear hK K hb9
          (try go_simp)
          refine wpAnyH_ready (rs := [11]) (by kernel_rfl) (by simp) (AllReadyH.cons rfl (fun K hK => ?_) AllReadyH.nil)
          go_simp
          refine hK.out _ _ hHeld (fun hHeld => ?_)
          clear hK K
          refine wpAnyH_done (by kernel_rfl) ?_ _
          have c0 := BF.c0 (Blk.below HBF.out HBVA.out (Blk.lt HBF.out))
          have h5 := H5.out.below HBVA.out
          have hr := OwnF.cells (ts := exF3.ts) (ow := exF3.ow) (g := g5) (cap := k5) h5 (i := 0) (x := ⟨0, 0, ⟨0, 0, 0, 0⟩, 2, 0⟩) rfl
          have n6 := hr 6 _ rfl
          have n7 := hr 7 _ rfl
          simp only [Nat.zero_mul, Nat.zero_add] at n6 n7
          have HFIN := Lib.hid (HB3.out.trans (HBVA.out.mono HB3.out.size))
          clear hr h5 hHeld
          generalize V.setRow rb9 (flL F6 O6 exF3.p exF3.tm).toArray = V4 at *
          go_wp2_with fail
          go_ret
          exact ⟨rfl, HFIN.out⟩
        · go_simp
          have hal := (Below.refl V.heap.size V).alloc (Nat.le_refl _) (.cells #[.slice none 0 0, .int .u64 0, .int .u64 0, .int .u64 0, .int .u64 0, .int .u64 0, .int .u64 0, .int .u64 0, .int .u64 0, .int .u64 0, .int .u64 0, .int .u64 0, .int .u64 0, .int .u64 0, .int .u64 0, .int .u64 0, .int .u64 0, .slice none 0 0, .int .i64 0] 30)
          have hrb := Blk.new V 30 #[.slice none 0 0, .int .u64 0, .int .u64 0, .int .u64 0, .int .u64 0, .int .u64 0, .int .u64 0, .int .u64 0, .int .u64 0, .int .u64 0, .int .u64 0, .int .u64 0, .int .u64 0, .int .u64 0, .int .u64 0, .int .u64 0, .int .u64 0, .slice none 0 0, .int .i64 0]
          have HBV := Lib.hid (HBV.out.trans (hal.mono HBV.out.size))
          have HGN := Lib.hid (HGN.out.below (hal.mono HGN.out.le))
          have HRL : Hid (V0.heap.size ≤ V.heap.size) := HVV.out.size
          have HVV := Lib.hid (HVV.out.trans (hal.mono HVV.out.size))
          refine hK.out _ _ (HS4.out _ HBV.out) (fun hHeld => ?_)
          clear hK K hal
          obtain ⟨rb9, hrbe⟩ : ∃ rb9, V.heap.size = rb9 := ⟨_, rfl⟩
          rw [hrbe] at hrb HRL
          (try rw [hrbe])
          have HRB := Lib.hid hrb
          clear hrb hrbe
          generalize V.alloc (.cells #[.slice none 0 0, .int .u64 0, .int .u64 0, .int .u64 0, .int .u64 0, .int .u64 0, .int .u64 0, .int .u64 0, .int .u64 0, .int .u64 0, .int .u64 0, .int .u64 0, .int .u64 0, .int .u64 0, .int .u64 0, .int .u64 0, .int .u64 0, .slice none 0 0, .int .i64 0] 30) = V at *
          refine wpAnyH_ready (rs := [5]) (by kernel_rfl) (by simp) (AllReadyH.cons rfl (fun K hK => ?_) AllReadyH.nil)
          go_simp
          go_at_call 14
          (with_reducible refine (HNX.out V B4 A4 Q4 HBV.out HGN.out).mono ?_)
          rintro er w5 ⟨F6, O6, rfl, h6, hb6⟩
          obtain ⟨oF6, oO6⟩ := h6.one
          have HBV := Lib.hid (HBV.out.trans (hb6.mono HBV.out.size))
          have HVV := Lib.hid (HVV.out.trans (hb6.mono HVV.out.size))
          have HRB := Lib.hid (HRB.out.below hb6 HRB.out.lt)
          (try (go_wp2_with fail))
          refine hK.out _ _ (HS4.out _ HBV.out) (fun hHeld => ?_)
          clear hK K h6 hb6
          generalize w5 = V at *
          refine wpAnyH_take (i := 6) (v := ?_) rfl (by kernel_rfl) (by kernel_rfl) (by kernel_rfl) (fun _ _ _ h => h) (Or.inl ⟨by rfl, fun X hX => by (obtain ⟨⟨z0, z1, z2, z3, z4⟩, z5⟩ := hX; go_simp <;> with_reducible rfl)⟩) hHeld ?_
          go_simp
          refine wpAnyH_take (i := 7) (v := ?_) rfl (by kernel_rfl) (by kernel_rfl) (by kernel_rfl) (fun _ _ _ h => h) (Or.inl ⟨by rfl, fun X hX => by (obtain ⟨⟨z0, z1, z2, z3, z4⟩, z5⟩ := hX; go_simp <;> with_reducible rfl)⟩) hHeld ?_
          go_simp
          refine wpAnyH_take (i := 8) (v := ?_) rfl (by kernel_rfl) (by kernel_rfl) (by kernel_rfl) (fun _ _ _ h => h) (Or.inl ⟨by rfl, fun X hX => by (obtain ⟨⟨z0, z1, z2, z3, z4⟩, z5⟩ := hX; go_simp <;> with_reducible rfl)⟩) hHeld ?_
          go_simp
          refine wpAnyH_ready (rs := [10]) (by kernel_rfl) (by simp) (AllReadyH.cons rfl (fun K hK => ?_) AllReadyH.nil)
          refine step_st_flat rfl (.tmp 5) (.tmp 28) rfl rb9 rfl rfl oF6 oO6 _ HRB.out rfl ?_
          have hb9 := (((But.of_below (X := fun k => V0.heap.size ≤ k) HVV.out).row rb9 (flL F6 O6 exF3.p exF3.tm).toArray (.inr HRL.out))).below (Nat.le_refl _) fun k _ q => q
          have HBVA := Lib.hid (HV0.out.trans (hb9.mono HV0.out.size))
          refine hK.out _ _ (HS4.out _ HBVA.out) (fun hHeld => ?_)
          clear hK K hb9
          (try go_simp)
          refine wpAnyH_ready (rs := [11]) (by kernel_rfl) (by simp) (AllReadyH.cons rfl (fun K hK => ?_) AllReadyH.nil)
          go_simp
          refine hK.out _ _ hHeld (fun hHeld => ?_)
          clear hK K
          refine wpAnyH_done (by kernel_rfl) ?_ _
          have c0 := BF.c0 (Blk.below HBF.out HBVA.out (Blk.lt HBF.out))
          have h5 := H5.out.below HBVA.out
          have hr := OwnF.cells (ts := exF3.ts) (ow := exF3.ow) (g := g5) (cap := k5) h5 (i := 0) (x := ⟨0, 0, ⟨0, 0, 0, 0⟩, 2, 0⟩) rfl
          have n6 := hr 6 _ rfl
          have n7 := hr 7 _ rfl
          simp only [Nat.zero_mul, Nat.zero_add] at n6 n7
          have HFIN := Lib.hid (HB3.out.trans (HBVA.out.mono HB3.out.size))
          clear hr h5 hHeld
          generalize V.setRow rb9 (flL F6 O6 exF3.p exF3.tm).toArray = V4 at *
          go_wp2_with fail
          go_ret
          exact ⟨rfl, HFIN.out⟩
      · go_simp
        have hal := (Below.refl V.heap.size V).alloc (Nat.le_refl _) (.cells #[.slice none 0 0, .int .u64 0, .int .u64 0, .int .u64 0, .int .u64 0, .int .u64 0, .int .u64 0, .int .u64 0, .int .u64 0, .int .u64 0, .int .u64 0, .int .u64 0, .int .u64 0, .int .u64 0, .int .u64 0, .int .u64 0, .int .u64 0, .slice none 0 0, .int .i64 0] 30)
        have hrb := Blk.new V 30 #[.slice none 0 0, .int .u64 0, .int .u64 0, .int .u64 0, .int .u64 0, .int .u64 0, .int .u64 0, .int .u64 0, .int .u64 0, .int .u64 0, .int .u64 0, .int .u64 0, .int .u64 0, .int .u64 0, .int .u64 0, .int .u64 0, .int .u64 0, .slice none 0 0, .int .i64 0]
        have HBV := Lib.hid (HBV.out.trans (hal.mono HBV.out.size))
        have HRL : Hid (V0.heap.size ≤ V.heap.size) := HVV.out.size
        have HVV := Lib.hid (HVV.out.trans (hal.mono HVV.out.size))
        refine hK.out _ _ (HS4.out _ HBV.out) (fun hHeld => ?_)
        clear hK K hal
        obtain ⟨rb9, hrbe⟩ : ∃ rb9, V.heap.size = rb9 := ⟨_, rfl⟩
        rw [hrbe] at hrb HRL
        (try rw [hrbe])
        have HRB := Lib.hid hrb
        clear hrb hrbe
        generalize V.alloc (.cells #[.slice none 0 0, .int .u64 0, .int .u64 0, .int .u64 0, .int .u64 0, .int .u64 0, .int .u64 0, .int .u64 0, .int .u64 0, .int .u64 0, .int .u64 0, .int .u64 0, .int .u64 0, .int .u64 0, .int .u64 0, .int .u64 0, .int .u64 0, .slice none 0 0, .int .i64 0] 30) = V at *
        refine wpAnyH_ready (rs := [1]) (by kernel_rfl) (by simp) (AllReadyH.cons rfl (fun K hK => ?_) AllReadyH.nil)
        go_simp
        go_at_call 18
        (with_reducible refine (HON.out _ HBV.out).mono ?_)
        rintro er w4 ⟨A4, Q4, rfl, hg4, hb4⟩
        have HBV := Lib.hid (HBV.out.trans (hb4.mono HBV.out.size))
        have HVV := Lib.hid (HVV.out.trans (hb4.mono HVV.out.size))
        have HGN := Lib.hid hg4
        have HRB := Lib.hid (HRB.out.below hb4 HRB.out.lt)
        (try (go_wp2_with fail))
        refine hK.out _ _ (HS4.out _ HBV.out) (fun hHeld => ?_)
        clear hK K hg4 hb4
        obtain ⟨B4, hB4⟩ : ∃ B4, w4.heap.size = B4 := ⟨_, rfl⟩
        rw [hB4] at HGN
        clear hB4
        generalize w4 = V at *
        refine wpAnyH_ready (rs := [5]) (by kernel_rfl) (by simp) (AllReadyH.cons rfl (fun K hK => ?_) AllReadyH.nil)
        go_simp
        go_at_call 14
        (with_reducible refine (HNX.out V B4 A4 Q4 HBV.out HGN.out).mono ?_)
        rintro er w5 ⟨F6, O6, rfl, h6, hb6⟩
        obtain ⟨oF6, oO6⟩ := h6.one
        have HBV := Lib.hid (HBV.out.trans (hb6.mono HBV.out.size))
        have HVV := Lib.hid (HVV.out.trans (hb6.mono HVV.out.size))
        have HRB := Lib.hid (HRB.out.below hb6 HRB.out.lt)
        (try (go_wp2_with fail))
        refine hK.out _ _ (HS4.out _ HBV.out) (fun hHeld => ?_)
        clear hK K h6 hb6
        generalize w5 = V at *
        refine wpAnyH_take (i := 6) (v := ?_) rfl (by kernel_rfl) (by kernel_rfl) (by kernel_rfl) (fun _ _ _ h => h) (Or.inl ⟨by rfl, fun X hX => by (obtain ⟨⟨z0, z1, z2, z3, z4⟩, z5⟩ := hX; go_simp <;> with_reducible rfl)⟩) hHeld ?_
        go_simp
        refine wpAnyH_take (i := 7) (v := ?_) rfl (by kernel_rfl) (by kernel_rfl) (by kernel_rfl) (fun _ _ _ h => h) (Or.inl ⟨by rfl, fun X hX => by (obtain ⟨⟨z0, z1, z2, z3, z4⟩, z5⟩ := hX; go_simp <;> with_reducible rfl)⟩) hHeld ?_
        go_simp
        refine wpAnyH_take (i := 8) (v := ?_) rfl (by kernel_rfl) (by kernel_rfl) (by kernel_rfl) (fun _ _ _ h => h) (Or.inl ⟨by rfl, fun X hX => by (obtain ⟨⟨z0, z1, z2, z3, z4⟩, z5⟩ := hX; go_simp <;> with_reducible rfl)⟩) hHeld ?_
        go_simp
        refine wpAnyH_ready (rs := [10]) (by kernel_rfl) (by simp) (AllReadyH.cons rfl (fun K hK => ?_) AllReadyH.nil)
        refine step_st_flat rfl (.tmp 5) (.tmp 28) rfl rb9 rfl rfl oF6 oO6 _ HRB.out rfl ?_
        have hb9 := (((But.of_below (X := fun k => V0.heap.size ≤ k) HVV.out).row rb9 (flL F6 O6 exF3.p exF3.tm).toArray (.inr HRL.out))).below (Nat.le_refl _) fun k _ q => q
        have HBVA := Lib.hid (HV0.out.trans (hb9.mono HV0.out.size))
        refine hK.out _ _ (HS4.out _ HBVA.out) (fun hHeld => ?_)
        clear hK K hb9
        (try go_simp)
        refine wpAnyH_ready (rs := [11]) (by kernel_rfl) (by simp) (AllReadyH.cons rfl (fun K hK => ?_) AllReadyH.nil)
        go_simp
        refine hK.out _ _ hHeld (fun hHeld => ?_)
        clear hK K
        refine wpAnyH_done (by kernel_rfl) ?_ _
        have c0 := BF.c0 (Blk.below HBF.out HBVA.out (Blk.lt HBF.out))
        have h5 := H5.out.below HBVA.out
        have hr := OwnF.cells (ts := exF3.ts) (ow := exF3.ow) (g := g5) (cap := k5) h5 (i := 0) (x := ⟨0, 0, ⟨0, 0, 0, 0⟩, 2, 0⟩) rfl
        have n6 := hr 6 _ rfl
        have n7 := hr 7 _ rfl
        simp only [Nat.zero_mul, Nat.zero_add] at n6 n7
        have HFIN := Lib.hid (HB3.out.trans (HBVA.out.mono HB3.out.size))
        clear hr h5 hHeld
        generalize V.setRow rb9 (flL F6 O6 exF3.p exF3.tm).toArray = V4 at *
        go_wp2_with fail
        go_ret
        exact ⟨rfl, HFIN.out⟩
    · go_simp
      have hal := (Below.refl V.heap.size V).alloc (Nat.le_refl _) (.cells #[.slice none 0 0, .int .u64 0, .int .u64 0, .int .u64 0, .int .u64 0, .int .u64 0, .int .u64 0, .int .u64 0, .int .u64 0, .int .u64 0, .int .u64 0, .int .u64 0, .int .u64 0, .int .u64 0, .int .u64 0, .int .u64 0, .int .u64 0, .slice none 0 0, .int .i64 0] 30)
      have hrb := Blk.new V 30 #[.slice none 0 0, .int .u64 0, .int .u64 0, .int .u64 0, .int .u64 0, .int .u64 0, .int .u64 0, .int .u64 0, .int .u64 0, .int .u64 0, .int .u64 0, .int .u64 0, .int .u64 0, .int .u64 0, .int .u64 0, .int .u64 0, .int .u64 0, .slice none 0 0, .int .i64 0]
      have HBV := Lib.hid (HBV.out.trans (hal.mono HBV.out.size))
      have HGN := Lib.hid (HGN.out.below (hal.mono HGN.out.le))
      have HRL : Hid (V0.heap.size ≤ V.heap.size) := HVV.out.size
      have HVV := Lib.hid (HVV.out.trans (hal.mono HVV.out.size))
      refine hK.out _ _ (HSR.out _ HBV.out) (fun hHeld => ?_)
      clear hK K hal
      obtain ⟨rb, hrbe⟩ : ∃ rb, V.heap.size = rb := ⟨_, rfl⟩
      rw [hrbe] at hrb HRL
      (try rw [hrbe])
      have HRB := Lib.hid hrb
      clear hrb hrbe
      generalize V.alloc (.cells #[.slice none 0 0, .int .u64 0, .int .u64 0, .int .u64 0, .int .u64 0, .int .u64 0, .int .u64 0, .int .u64 0, .int .u64 0, .int .u64 0, .int .u64 0, .int .u64 0, .int .u64 0, .int .u64 0, .int .u64 0, .int .u64 0, .int .u64 0, .slice none 0 0, .int .i64 0] 30) = V at *
      refine wpAnyH_ready (rs := [3]) (by kernel_rfl) (by simp) (AllReadyH.cons rfl (fun K hK => ?_) AllReadyH.nil)
      go_simp
      go_at_call 11
      (with_reducible refine (HPL.out V B4 A4 Q4 HBV.out HGN.out).mono ?_)
      rintro er w5 ⟨F5, O5, rfl, h5, hb5⟩
      obtain ⟨g5, k5, rfl⟩ : ∃ g5 k5, F5 = .slice (some ⟨g5, 0, none⟩) 1 k5 := (rowForm h5.tk).resolve_left (fun z => by have := z.2; cases this)
      obtain ⟨-, oO5⟩ := h5.one
      have HBV := Lib.hid (HBV.out.trans (hb5.mono HBV.out.size))
      have HNR : Hid (∀ k, OwnB (.slice (some ⟨g5, 0, none⟩) 1 k5) O5 k → k ≠ rb) := fun k hk => by have := (h5.lt hk).1; have := HRB.out.lt; omega
      have HRB := Lib.hid (HRB.out.below hb5 HRB.out.lt)
      have HC5 : Hid (V0.heap.size ≤ V.heap.size) := HVV.out.size
      have HVV := Lib.hid (HVV.out.trans (hb5.mono HVV.out.size))
      have H5 := Lib.hid h5
      (try (go_wp2_with fail))
      refine hK.out _ _ (HSR.out _ HBV.out) (fun hHeld => ?_)
      clear hK K h5 hb5
      obtain ⟨C5, hC5⟩ : ∃ C5, V.heap.size = C5 := ⟨_, rfl⟩
      rw [hC5] at H5 HC5
      clear hC5
      generalize w5 = V at *
      refine wpAnyH_take (i := 4) (v := ?_) rfl (by kernel_rfl) (by kernel_rfl) (by kernel_rfl) (fun _ _ _ h => h) (Or.inl ⟨by rfl, fun X hX => by (go_simp <;> with_reducible rfl)⟩) hHeld ?_
      go_simp
      refine wpAnyH_take (i := 5) (v := ?_) rfl (by kernel_rfl) (by kernel_rfl) (by kernel_rfl) (fun _ _ _ h => h) (Or.inl ⟨by rfl, fun X hX => by (go_simp <;> with_reducible rfl)⟩) hHeld ?_
      go_simp
      refine wpAnyH_take (i := 6) (v := ?_) rfl (by kernel_rfl) (by kernel_rfl) (by kernel_rfl) (fun _ _ _ h => h) (Or.inl ⟨by rfl, fun X hX => by (go_simp <;> with_reducible rfl)⟩) hHeld ?_
      go_simp
      refine wpAnyH_ready (rs := [8]) (by kernel_rfl) (by simp) (AllReadyH.cons rfl (fun K hK => ?_) AllReadyH.nil)
      refine step_st_flat rfl (.tmp 3) (.tmp 19) rfl rb rfl rfl rfl oO5 _ HRB.out rfl ?_
      have hb9 := (((But.of_below (X := fun k => V0.heap.size ≤ k) HVV.out).row rb (flL (.slice (some ⟨g5, 0, none⟩) 1 k5) O5 exF3.p exF3.tm).toArray (.inr HRL.out))).below (Nat.le_refl _) fun k _ q => q
      have HBV9 := Lib.hid (HV0.out.trans (hb9.mono HV0.out.size))
      have HBF : Hid (BF (V.setRow rb (flL (.slice (some ⟨g5, 0, none⟩) 1 k5) O5 exF3.p exF3.tm).toArray) rb (.slice (some ⟨g5, 0, none⟩) 1 k5) O5 exP 0) := BF.row (F := .slice (some ⟨g5, 0, none⟩) 1 k5) (O := O5) (p := exF3.p) (t := exF3.tm) HRB.out
      have H5 := Lib.hid (H5.out.row rb (flL (.slice (some ⟨g5, 0, none⟩) 1 k5) O5 exF3.p exF3.tm).toArray HNR.out)
      refine hK.out _ _ (HSR.out _ HBV9.out) (fun hHeld => ?_)
      clear hK K hb9
      generalize V.setRow rb (flL (.slice (some ⟨g5, 0, none⟩) 1 k5) O5 exF3.p exF3.tm).toArray = V3 at *
      (try go_simp)
      refine wpAnyH_ready (rs := [9]) (by kernel_rfl) (by simp) (AllReadyH.cons rfl (fun K hK => ?_) AllReadyH.nil)
      go_simp
      refine hK.out _ _ hHeld (fun hHeld => ?_)
      clear hK K
      refine wpAnyH_done (by kernel_rfl) ?_ _
      clear HVV HRB HNR HGN HBV HPL HRL HC5 HV0 hHeld
      go_upto_region 4 with fail
      have e10 : V3.cell? ⟨eb, 10, none⟩ = some (.int .i64 2) := (HBV9.out.cell (p := ⟨eb, 10, none⟩) HEB.out.lt).trans (HEB.out.cell 10)
      have HB3 := Lib.hid (HBB2.out.trans (HBV9.out.mono HBB2.out.size))
      have HON : Hid (∀ X, Below V3.heap.size V3 X → Calls Tryd.prog 18 #[] X (OneG X)) := fun X hX => one_any (HG.out.below ((HB3.out.mono HG.out.le).trans (hX.mono (Nat.le_trans HG.out.le HB3.out.size))))
      have HNX : Hid (∀ X B4 A Q, Below V3.heap.size V3 X → Gnd X B4 A [exQ Q] → Calls Tryd.prog 14 #[.agg (flL (.slice (some ⟨g5, 0, none⟩) 1 k5) O5 exP 0).toArray, .slice A 1 1, .agg #[.int .i64 2, .int .i64 0, .int .i64 0, .int .i64 1, .int .i64 0]] X (NexG X exF3 none)) := fun X B4 A Q hX hg => by
        have := next_any (f := exF3) (H5.out.below hX).inF 1 (by decide) (by decide) hg (by unfold In64F; decide) exE3 exOk.2.2.a
        rw [ex_next] at this; exact this
      have HS4 : Hid (∀ X, Below V3.heap.size V3 X → (X.cell? ⟨eb, 10, none⟩ = some (.int .i64 2) ∧ X.cell? ⟨eb, 11, none⟩ = some (.int .i64 0) ∧ X.cell? ⟨eb, 12, none⟩ = some (.int .i64 0) ∧ X.cell? ⟨eb, 13, none⟩ = some (.int .i64 1) ∧ X.cell? ⟨eb, 14, none⟩ = some (.int .i64 0)) ∧ X.rangeAt rb 0 (flL (.slice (some ⟨g5, 0, none⟩) 1 k5) O5 exP 0)) := fun X hX => by
        have he := (HEB.out.below HBV9.out HEB.out.lt)
        have he2 := he.below hX he.lt
        exact ⟨⟨he2.cell 10, he2.cell 11, he2.cell 12, he2.cell 13, he2.cell 14⟩, BF.all (Blk.below HBF.out hX (Blk.lt HBF.out))⟩
      clear e10
      refine wp_region_held_drew (S := fun X => (X.cell? ⟨eb, 10, none⟩ = some (.int .i64 2) ∧ X.cell? ⟨eb, 11, none⟩ = some (.int .i64 0) ∧ X.cell? ⟨eb, 12, none⟩ = some (.int .i64 0) ∧ X.cell? ⟨eb, 13, none⟩ = some (.int .i64 1) ∧ X.cell? ⟨eb, 14, none⟩ = some (.int .i64 0)) ∧ X.rangeAt rb 0 (flL (.slice (some ⟨g5, 0, none⟩) 1 k5) O5 exP 0)) (by kernel_rfl) (HS4.out _ ((Below.refl _ _).drew)) (fun hHeld => ?_)
      show wpAnyH _ _ _ _ _ _ _ _ _
      try dsimp only at hHeld
      have HBV := Lib.hid ((Below.refl V3.heap.size V3).drew)
      generalize V3.drew = V at *
      have HV0 := HBV
      have HVV := Lib.hid (Below.refl V.heap.size V)
      obtain ⟨V0, hV0⟩ : ∃ V0, V = V0 := ⟨_, rfl⟩
      have HVV : Hid (Below V0.heap.size V0 V) := by rw [← hV0]; exact HVV.out
      have HV0 : Hid (Below V3.heap.size V3 V0) := by rw [← hV0]; exact HV0.out
      clear hV0
      refine wpAnyH_take (i := 0) (v := .agg (flL (.slice (some ⟨g5, 0, none⟩) 1 k5) O5 exP 0).toArray) rfl (by kernel_rfl) (by kernel_rfl) (by kernel_rfl) (fun _ _ _ h => h) (yieldsIf_load_mid (by rfl) 30 (.tmp 3) rfl rb 0 rfl (flL (.slice (some ⟨g5, 0, none⟩) 1 k5) O5 exP 0) _ (fun X' h => h.2) under30 rfl (by rw [infoFlat, flL_len])) hHeld ?_
      go_simp
      refine wpAnyH_take (i := 2) (v := ?_) rfl (by kernel_rfl) (by kernel_rfl) (by kernel_rfl) (fun _ _ _ h => h) (Or.inl ⟨by rfl, fun X hX => by (obtain ⟨⟨z0, z1, z2, z3, z4⟩, z5⟩ := hX; go_simp <;> with_reducible rfl)⟩) hHeld ?_
      go_simp
      refine wpAnyH_take (i := 3) (v := ?_) rfl (by kernel_rfl) (by kernel_rfl) (by kernel_rfl) (fun _ _ _ h => h) (Or.inl ⟨by rfl, fun X hX => by (obtain ⟨⟨z0, z1, z2, z3, z4⟩, z5⟩ := hX; go_simp <;> with_reducible rfl)⟩) hHeld ?_
      go_simp
      refine wpAnyH_take (i := 4) (v := ?_) rfl (by kernel_rfl) (by kernel_rfl) (by kernel_rfl) (fun _ _ _ h => h) (Or.inl ⟨by rfl, fun X hX => by (obtain ⟨⟨z0, z1, z2, z3, z4⟩, z5⟩ := hX; go_simp <;> with_reducible rfl)⟩) hHeld ?_
      go_simp
      refine wpAnyH_ready (rs := [1, 9]) (by kernel_rfl) (by simp) (AllReadyH.cons rfl (fun K hK => ?_) (AllReadyH.cons rfl (fun K hK => ?_) AllReadyH.nil))
      · go_simp
        go_at_call 18
        (with_reducible refine (HON.out _ HBV.out).mono ?_)
        rintro er w4 ⟨A4, Q4, rfl, hg4, hb4⟩
        have HBV := Lib.hid (HBV.out.trans (hb4.mono HBV.out.size))
        have HVV := Lib.hid (HVV.out.trans (hb4.mono HVV.out.size))
        have HGN := Lib.hid hg4
        (try (go_wp2_with fail))
        refine hK.out _ _ (HS4.out _ HBV.out) (fun hHeld => ?_)
        clear hK K hg4 hb4
        obtain ⟨B4, hB4⟩ : ∃ B4, w4.heap.size = B4 := ⟨_, rfl⟩
        rw [hB4] at HGN
        clear hB4
        generalize w4 = V at *
        refine wpAnyH_ready (rs := [5, 9]) (by kernel_rfl) (by simp) (AllReadyH.cons rfl (fun K hK => ?_) (AllReadyH.cons rfl (fun K hK => ?_) AllReadyH.nil))
        · go_simp
          go_at_call 14
          (with_reducible refine (HNX.out V B4 A4 Q4 HBV.out HGN.out).mono ?_)
          rintro er w5 ⟨F6, O6, rfl, h6, hb6⟩
          obtain ⟨oF6, oO6⟩ := h6.one
          have HBV := Lib.hid (HBV.out.trans (hb6.mono HBV.out.size))
          have HVV := Lib.hid (HVV.out.trans (hb6.mono HVV.out.size))
          (try (go_wp2_with fail))
          refine hK.out _ _ (HS4.out _ HBV.out) (fun hHeld => ?_)
          clear hK K h6 hb6
          generalize w5 = V at *
          refine wpAnyH_take (i := 6) (v := ?_) rfl (by kernel_rfl) (by kernel_rfl) (by kernel_rfl) (fun _ _ _ h => h) (Or.inl ⟨by rfl, fun X hX => by (obtain ⟨⟨z0, z1, z2, z3, z4⟩, z5⟩ := hX; go_simp <;> with_reducible rfl)⟩) hHeld ?_
          go_simp
          refine wpAnyH_take (i := 7) (v := ?_) rfl (by kernel_rfl) (by kernel_rfl) (by kernel_rfl) (fun _ _ _ h => h) (Or.inl ⟨by rfl, fun X hX => by (obtain ⟨⟨z0, z1, z2, z3, z4⟩, z5⟩ := hX; go_simp <;> with_reducible rfl)⟩) hHeld ?_
          go_simp
          refine wpAnyH_take (i := 8) (v := ?_) rfl (by kernel_rfl) (by kernel_rfl) (by kernel_rfl) (fun _ _ _ h => h) (Or.inl ⟨by rfl, fun X hX => by (obtain ⟨⟨z0, z1, z2, z3, z4⟩, z5⟩ := hX; go_simp <;> with_reducible rfl)⟩) hHeld ?_
          go_simp
          refine wpAnyH_ready (rs := [9]) (by kernel_rfl) (by simp) (AllReadyH.cons rfl (fun K hK => ?_) AllReadyH.nil)
          go_simp
          have hal := (Below.refl V.heap.size V).alloc (Nat.le_refl _) (.cells #[.slice none 0 0, .int .u64 0, .int .u64 0, .int .u64 0, .int .u64 0, .int .u64 0, .int .u64 0, .int .u64 0, .int .u64 0, .int .u64 0, .int .u64 0, .int .u64 0, .int .u64 0, .int .u64 0, .int .u64 0, .int .u64 0, .int .u64 0, .slice none 0 0, .int .i64 0] 30)
          have hrb := Blk.new V 30 #[.slice none 0 0, .int .u64 0, .int .u64 0, .int .u64 0, .int .u64 0, .int .u64 0, .int .u64 0, .int .u64 0, .int .u64 0, .int .u64 0, .int .u64 0, .int .u64 0, .int .u64 0, .int .u64 0, .int .u64 0, .int .u64 0, .int .u64 0, .slice none 0 0, .int .i64 0]
          have HBV := Lib.hid (HBV.out.trans (hal.mono HBV.out.size))
          have HRL : Hid (V0.heap.size ≤ V.heap.size) := HVV.out.size
          have HVV := Lib.hid (HVV.out.trans (hal.mono HVV.out.size))
          refine hK.out _ _ (HS4.out _ HBV.out) (fun hHeld => ?_)
          clear hK K hal
          obtain ⟨rb9, hrbe⟩ : ∃ rb9, V.heap.size = rb9 := ⟨_, rfl⟩
          rw [hrbe] at hrb HRL
          (try rw [hrbe])
          have HRB := Lib.hid hrb
          clear hrb hrbe
          generalize V.alloc (.cells #[.slice none 0 0, .int .u64 0, .int .u64 0, .int .u64 0, .int .u64 0, .int .u64 0, .int .u64 0, .int .u64 0, .int .u64 0, .int .u64 0, .int .u64 0, .int .u64 0, .int .u64 0, .int .u64 0, .int .u64 0, .int .u64 0, .int .u64 0, .slice none 0 0, .int .i64 0] 30) = V at *
          refine wpAnyH_ready (rs := [10]) (by kernel_rfl) (by simp) (AllReadyH.cons rfl (fun K hK => ?_) AllReadyH.nil)
          refine step_st_flat rfl (.tmp 5) (.tmp 28) rfl rb9 rfl rfl oF6 oO6 _ HRB.out rfl ?_
          have hb9 := (((But.of_below (X := fun k => V0.heap.size ≤ k) HVV.out).row rb9 (flL F6 O6 exF3.p exF3.tm).toArray (.inr HRL.out))).below (Nat.le_refl _) fun k _ q => q
          have HBVA := Lib.hid (HV0.out.trans (hb9.mono HV0.out.size))
          refine hK.out _ _ (HS4.out _ HBVA.out) (fun hHeld => ?_)
          clear hK K hb9
          (try go_simp)
          refine wpAnyH_ready (rs := [11]) (by kernel_rfl) (by simp) (AllReadyH.cons rfl (fun K hK => ?_) AllReadyH.nil)
          go_simp
          refine hK.out _ _ hHeld (fun hHeld => ?_)
          clear hK K
          refine wpAnyH_done (by kernel_rfl) ?_ _
          have c0 := BF.c0 (Blk.below HBF.out HBVA.out (Blk.lt HBF.out))
          have h5 := H5.out.below HBVA.out
          have hr := OwnF.cells (ts := exF3.ts) (ow := exF3.ow) (g := g5) (cap := k5) h5 (i := 0) (x := ⟨0, 0, ⟨0, 0, 0, 0⟩, 2, 0⟩) rfl
          have n6 := hr 6 _ rfl
          have n7 := hr 7 _ rfl
          simp only [Nat.zero_mul, Nat.zero_add] at n6 n7
          have HFIN := Lib.hid (HB3.out.trans (HBVA.out.mono HB3.out.size))
          clear hr h5 hHeld
          generalize V.setRow rb9 (flL F6 O6 exF3.p exF3.tm).toArray = V4 at *
          go_wp2_with fail
          go_ret
          exact ⟨rfl, HFIN.out⟩
        · go_simp
          have hal := (Below.refl V.heap.size V).alloc (Nat.le_refl _) (.cells #[.slice none 0 0, .int .u64 0, .int .u64 0, .int .u64 0, .int .u64 0, .int .u64 0, .int .u64 0, .int .u64 0, .int .u64 0, .int .u64 0, .int .u64 0, .int .u64 0, .int .u64 0, .int .u64 0, .int .u64 0, .int .u64 0, .int .u64 0, .slice none 0 0, .int .i64 0] 30)
          have hrb := Blk.new V 30 #[.slice none 0 0, .int .u64 0, .int .u64 0, .int .u64 0, .int .u64 0, .int .u64 0, .int .u64 0, .int .u64 0, .int .u64 0, .int .u64 0, .int .u64 0, .int .u64 0, .int .u64 0, .int .u64 0, .int .u64 0, .int .u64 0, .int .u64 0, .slice none 0 0, .int .i64 0]
          have HBV := Lib.hid (HBV.out.trans (hal.mono HBV.out.size))
          have HGN := Lib.hid (HGN.out.below (hal.mono HGN.out.le))
          have HRL : Hid (V0.heap.size ≤ V.heap.size) := HVV.out.size
          have HVV := Lib.hid (HVV.out.trans (hal.mono HVV.out.size))
          refine hK.out _ _ (HS4.out _ HBV.out) (fun hHeld => ?_)
          clear hK K hal
          obtain ⟨rb9, hrbe⟩ : ∃ rb9, V.heap.size = rb9 := ⟨_, rfl⟩
          rw [hrbe] at hrb HRL
          (try rw [hrbe])
          have HRB := Lib.hid hrb
          clear hrb hrbe
          generalize V.alloc (.cells #[.slice none 0 0, .int .u64 0, .int .u64 0, .int .u64 0, .int .u64 0, .int .u64 0, .int .u64 0, .int .u64 0, .int .u64 0, .int .u64 0, .int .u64 0, .int .u64 0, .int .u64 0, .int .u64 0, .int .u64 0, .int .u64 0, .int .u64 0, .slice none 0 0, .int .i64 0] 30) = V at *
          refine wpAnyH_ready (rs := [5]) (by kernel_rfl) (by simp) (AllReadyH.cons rfl (fun K hK => ?_) AllReadyH.nil)
          go_simp
          go_at_call 14
          (with_reducible refine (HNX.out V B4 A4 Q4 HBV.out HGN.out).mono ?_)
          rintro er w5 ⟨F6, O6, rfl, h6, hb6⟩
          obtain ⟨oF6, oO6⟩ := h6.one
          have HBV := Lib.hid (HBV.out.trans (hb6.mono HBV.out.size))
          have HVV := Lib.hid (HVV.out.trans (hb6.mono HVV.out.size))
          have HRB := Lib.hid (HRB.out.below hb6 HRB.out.lt)
          (try (go_wp2_with fail))
          refine hK.out _ _ (HS4.out _ HBV.out) (fun hHeld => ?_)
          clear hK K h6 hb6
          generalize w5 = V at *
          refine wpAnyH_take (i := 6) (v := ?_) rfl (by kernel_rfl) (by kernel_rfl) (by kernel_rfl) (fun _ _ _ h => h) (Or.inl ⟨by rfl, fun X hX => by (obtain ⟨⟨z0, z1, z2, z3, z4⟩, z5⟩ := hX; go_simp <;> with_reducible rfl)⟩) hHeld ?_
          go_simp
          refine wpAnyH_take (i := 7) (v := ?_) rfl (by kernel_rfl) (by kernel_rfl) (by kernel_rfl) (fun _ _ _ h => h) (Or.inl ⟨by rfl, fun X hX => by (obtain ⟨⟨z0, z1, z2, z3, z4⟩, z5⟩ := hX; go_simp <;> with_reducible rfl)⟩) hHeld ?_
          go_simp
          refine wpAnyH_take (i := 8) (v := ?_) rfl (by kernel_rfl) (by kernel_rfl) (by kernel_rfl) (fun _ _ _ h => h) (Or.inl ⟨by rfl, fun X hX => by (obtain ⟨⟨z0, z1, z2, z3, z4⟩, z5⟩ := hX; go_simp <;> with_reducible rfl)⟩) hHeld ?_
          go_simp
          refine wpAnyH_ready (rs := [10]) (by kernel_rfl) (by simp) (AllReadyH.cons rfl (fun K hK => ?_) AllReadyH.nil)
          refine step_st_flat rfl (.tmp 5) (.tmp 28) rfl rb9 rfl rfl oF6 oO6 _ HRB.out rfl ?_
          have hb9 := (((But.of_below (X := fun k => V0.heap.size ≤ k) HVV.out).row rb9 (flL F6 O6 exF3.p exF3.tm).toArray (.inr HRL.out))).below (Nat.le_refl _) fun k _ q => q
          have HBVA := Lib.hid (HV0.out.trans (hb9.mono HV0.out.size))
          refine hK.out _ _ (HS4.out _ HBVA.out) (fun hHeld => ?_)
          clear hK K hb9
          (try go_simp)
          refine wpAnyH_ready (rs := [11]) (by kernel_rfl) (by simp) (AllReadyH.cons rfl (fun K hK => ?_) AllReadyH.nil)
          go_simp
          refine hK.out _ _ hHeld (fun hHeld => ?_)
          clear hK K
          refine wpAnyH_done (by kernel_rfl) ?_ _
          have c0 := BF.c0 (Blk.below HBF.out HBVA.out (Blk.lt HBF.out))
          have h5 := H5.out.below HBVA.out
          have hr := OwnF.cells (ts := exF3.ts) (ow := exF3.ow) (g := g5) (cap := k5) h5 (i := 0) (x := ⟨0, 0, ⟨0, 0, 0, 0⟩, 2, 0⟩) rfl
          have n6 := hr 6 _ rfl
          have n7 := hr 7 _ rfl
          simp only [Nat.zero_mul, Nat.zero_add] at n6 n7
          have HFIN := Lib.hid (HB3.out.trans (HBVA.out.mono HB3.out.size))
          clear hr h5 hHeld
          generalize V.setRow rb9 (flL F6 O6 exF3.p exF3.tm).toArray = V4 at *
          go_wp2_with fail
          go_ret
          exact ⟨rfl, HFIN.out⟩
      · go_simp
        have hal := (Below.refl V.heap.size V).alloc (Nat.le_refl _) (.cells #[.slice none 0 0, .int .u64 0, .int .u64 0, .int .u64 0, .int .u64 0, .int .u64 0, .int .u64 0, .int .u64 0, .int .u64 0, .int .u64 0, .int .u64 0, .int .u64 0, .int .u64 0, .int .u64 0, .int .u64 0, .int .u64 0, .int .u64 0, .slice none 0 0, .int .i64 0] 30)
        have hrb := Blk.new V 30 #[.slice none 0 0, .int .u64 0, .int .u64 0, .int .u64 0, .int .u64 0, .int .u64 0, .int .u64 0, .int .u64 0, .int .u64 0, .int .u64 0, .int .u64 0, .int .u64 0, .int .u64 0, .int .u64 0, .int .u64 0, .int .u64 0, .int .u64 0, .slice none 0 0, .int .i64 0]
        have HBV := Lib.hid (HBV.out.trans (hal.mono HBV.out.size))
        have HRL : Hid (V0.heap.size ≤ V.heap.size) := HVV.out.size
        have HVV := Lib.hid (HVV.out.trans (hal.mono HVV.out.size))
        refine hK.out _ _ (HS4.out _ HBV.out) (fun hHeld => ?_)
        clear hK K hal
        obtain ⟨rb9, hrbe⟩ : ∃ rb9, V.heap.size = rb9 := ⟨_, rfl⟩
        rw [hrbe] at hrb HRL
        (try rw [hrbe])
        have HRB := Lib.hid hrb
        clear hrb hrbe
        generalize V.alloc (.cells #[.slice none 0 0, .int .u64 0, .int .u64 0, .int .u64 0, .int .u64 0, .int .u64 0, .int .u64 0, .int .u64 0, .int .u64 0, .int .u64 0, .int .u64 0, .int .u64 0, .int .u64 0, .int .u64 0, .int .u64 0, .int .u64 0, .int .u64 0, .slice none 0 0, .int .i64 0] 30) = V at *
        refine wpAnyH_ready (rs := [1]) (by kernel_rfl) (by simp) (AllReadyH.cons rfl (fun K hK => ?_) AllReadyH.nil)
        go_simp
        go_at_call 18
        (with_reducible refine (HON.out _ HBV.out).mono ?_)
        rintro er w4 ⟨A4, Q4, rfl, hg4, hb4⟩
        have HBV := Lib.hid (HBV.out.trans (hb4.mono HBV.out.size))
        have HVV := Lib.hid (HVV.out.trans (hb4.mono HVV.out.size))
        have HGN := Lib.hid hg4
        have HRB := Lib.hid (HRB.out.below hb4 HRB.out.lt)
        (try (go_wp2_with fail))
        refine hK.out _ _ (HS4.out _ HBV.out) (fun hHeld => ?_)
        clear hK K hg4 hb4
        obtain ⟨B4, hB4⟩ : ∃ B4, w4.heap.size = B4 := ⟨_, rfl⟩
        rw [hB4] at HGN
        clear hB4
        generalize w4 = V at *
        refine wpAnyH_ready (rs := [5]) (by kernel_rfl) (by simp) (AllReadyH.cons rfl (fun K hK => ?_) AllReadyH.nil)
        go_simp
        go_at_call 14
        (with_reducible refine (HNX.out V B4 A4 Q4 HBV.out HGN.out).mono ?_)
        rintro er w5 ⟨F6, O6, rfl, h6, hb6⟩
        obtain ⟨oF6, oO6⟩ := h6.one
        have HBV := Lib.hid (HBV.out.trans (hb6.mono HBV.out.size))
        have HVV := Lib.hid (HVV.out.trans (hb6.mono HVV.out.size))
        have HRB := Lib.hid (HRB.out.below hb6 HRB.out.lt)
        (try (go_wp2_with fail))
        refine hK.out _ _ (HS4.out _ HBV.out) (fun hHeld => ?_)
        clear hK K h6 hb6
        generalize w5 = V at *
        refine wpAnyH_take (i := 6) (v := ?_) rfl (by kernel_rfl) (by kernel_rfl) (by kernel_rfl) (fun _ _ _ h => h) (Or.inl ⟨by rfl, fun X hX => by (obtain ⟨⟨z0, z1, z2, z3, z4⟩, z5⟩ := hX; go_simp <;> with_reducible rfl)⟩) hHeld ?_
        go_simp
        refine wpAnyH_take (i := 7) (v := ?_) rfl (by kernel_rfl) (by kernel_rfl) (by kernel_rfl) (fun _ _ _ h => h) (Or.inl ⟨by rfl, fun X hX => by (obtain ⟨⟨z0, z1, z2, z3, z4⟩, z5⟩ := hX; go_simp <;> with_reducible rfl)⟩) hHeld ?_
        go_simp
        refine wpAnyH_take (i := 8) (v := ?_) rfl (by kernel_rfl) (by kernel_rfl) (by kernel_rfl) (fun _ _ _ h => h) (Or.inl ⟨by rfl, fun X hX => by (obtain ⟨⟨z0, z1, z2, z3, z4⟩, z5⟩ := hX; go_simp <;> with_reducible rfl)⟩) hHeld ?_
        go_simp
        refine wpAnyH_ready (rs := [10]) (by kernel_rfl) (by simp) (AllReadyH.cons rfl (fun K hK => ?_) AllReadyH.nil)
        refine step_st_flat rfl (.tmp 5) (.tmp 28) rfl rb9 rfl rfl oF6 oO6 _ HRB.out rfl ?_
        have hb9 := (((But.of_below (X := fun k => V0.heap.size ≤ k) HVV.out).row rb9 (flL F6 O6 exF3.p exF3.tm).toArray (.inr HRL.out))).below (Nat.le_refl _) fun k _ q => q
        have HBVA := Lib.hid (HV0.out.trans (hb9.mono HV0.out.size))
        refine hK.out _ _ (HS4.out _ HBVA.out) (fun hHeld => ?_)
        clear hK K hb9
        (try go_simp)
        refine wpAnyH_ready (rs := [11]) (by kernel_rfl) (by simp) (AllReadyH.cons rfl (fun K hK => ?_) AllReadyH.nil)
        go_simp
        refine hK.out _ _ hHeld (fun hHeld => ?_)
        clear hK K
        refine wpAnyH_done (by kernel_rfl) ?_ _
        have c0 := BF.c0 (Blk.below HBF.out HBVA.out (Blk.lt HBF.out))
        have h5 := H5.out.below HBVA.out
        have hr := OwnF.cells (ts := exF3.ts) (ow := exF3.ow) (g := g5) (cap := k5) h5 (i := 0) (x := ⟨0, 0, ⟨0, 0, 0, 0⟩, 2, 0⟩) rfl
        have n6 := hr 6 _ rfl
        have n7 := hr 7 _ rfl
        simp only [Nat.zero_mul, Nat.zero_add] at n6 n7
        have HFIN := Lib.hid (HB3.out.trans (HBVA.out.mono HB3.out.size))
        clear hr h5 hHeld
        generalize V.setRow rb9 (flL F6 O6 exF3.p exF3.tm).toArray = V4 at *
        go_wp2_with fail
        go_ret
        exact ⟨rfl, HFIN.out⟩
  · go_simp
    have hal := (Below.refl V.heap.size V).alloc (Nat.le_refl _) (.cells #[.slice none 0 0, .int .u64 0, .int .u64 0, .int .u64 0, .int .u64 0, .int .u64 0, .int .u64 0, .int .u64 0, .int .u64 0, .int .u64 0, .int .u64 0, .int .u64 0, .int .u64 0, .int .u64 0, .int .u64 0, .int .u64 0, .int .u64 0, .slice none 0 0, .int .i64 0] 30)
    have hrb := Blk.new V 30 #[.slice none 0 0, .int .u64 0, .int .u64 0, .int .u64 0, .int .u64 0, .int .u64 0, .int .u64 0, .int .u64 0, .int .u64 0, .int .u64 0, .int .u64 0, .int .u64 0, .int .u64 0, .int .u64 0, .int .u64 0, .int .u64 0, .int .u64 0, .slice none 0 0, .int .i64 0]
    have HBV := Lib.hid (HBV.out.trans (hal.mono HBV.out.size))
    have HRL : Hid (V0.heap.size ≤ V.heap.size) := HVV.out.size
    have HVV := Lib.hid (HVV.out.trans (hal.mono HVV.out.size))
    refine hK.out _ _ (HSR.out _ HBV.out) (fun hHeld => ?_)
    clear hK K hal
    obtain ⟨rb, hrbe⟩ : ∃ rb, V.heap.size = rb := ⟨_, rfl⟩
    rw [hrbe] at hrb HRL
    (try rw [hrbe])
    have HRB := Lib.hid hrb
    clear hrb hrbe
    generalize V.alloc (.cells #[.slice none 0 0, .int .u64 0, .int .u64 0, .int .u64 0, .int .u64 0, .int .u64 0, .int .u64 0, .int .u64 0, .int .u64 0, .int .u64 0, .int .u64 0, .int .u64 0, .int .u64 0, .int .u64 0, .int .u64 0, .int .u64 0, .int .u64 0, .slice none 0 0, .int .i64 0] 30) = V at *
    refine wpAnyH_ready (rs := [1]) (by kernel_rfl) (by simp) (AllReadyH.cons rfl (fun K hK => ?_) AllReadyH.nil)
    go_simp
    go_at_call 18
    (with_reducible refine (HON.out _ HBV.out).mono ?_)
    rintro er w4 ⟨A4, Q4, rfl, hg4, hb4⟩
    have HBV := Lib.hid (HBV.out.trans (hb4.mono HBV.out.size))
    have HVV := Lib.hid (HVV.out.trans (hb4.mono HVV.out.size))
    have HGN := Lib.hid hg4
    have HRB := Lib.hid (HRB.out.below hb4 HRB.out.lt)
    (try (go_wp2_with fail))
    refine hK.out _ _ (HSR.out _ HBV.out) (fun hHeld => ?_)
    clear hK K hg4 hb4
    obtain ⟨B4, hB4⟩ : ∃ B4, w4.heap.size = B4 := ⟨_, rfl⟩
    rw [hB4] at HGN
    clear hB4
    generalize w4 = V at *
    refine wpAnyH_ready (rs := [3]) (by kernel_rfl) (by simp) (AllReadyH.cons rfl (fun K hK => ?_) AllReadyH.nil)
    go_simp
    go_at_call 11
    (with_reducible refine (HPL.out V B4 A4 Q4 HBV.out HGN.out).mono ?_)
    rintro er w5 ⟨F5, O5, rfl, h5, hb5⟩
    obtain ⟨g5, k5, rfl⟩ : ∃ g5 k5, F5 = .slice (some ⟨g5, 0, none⟩) 1 k5 := (rowForm h5.tk).resolve_left (fun z => by have := z.2; cases this)
    obtain ⟨-, oO5⟩ := h5.one
    have HBV := Lib.hid (HBV.out.trans (hb5.mono HBV.out.size))
    have HNR : Hid (∀ k, OwnB (.slice (some ⟨g5, 0, none⟩) 1 k5) O5 k → k ≠ rb) := fun k hk => by have := (h5.lt hk).1; have := HRB.out.lt; omega
    have HRB := Lib.hid (HRB.out.below hb5 HRB.out.lt)
    have HC5 : Hid (V0.heap.size ≤ V.heap.size) := HVV.out.size
    have HVV := Lib.hid (HVV.out.trans (hb5.mono HVV.out.size))
    have H5 := Lib.hid h5
    (try (go_wp2_with fail))
    refine hK.out _ _ (HSR.out _ HBV.out) (fun hHeld => ?_)
    clear hK K h5 hb5
    obtain ⟨C5, hC5⟩ : ∃ C5, V.heap.size = C5 := ⟨_, rfl⟩
    rw [hC5] at H5 HC5
    clear hC5
    generalize w5 = V at *
    refine wpAnyH_take (i := 4) (v := ?_) rfl (by kernel_rfl) (by kernel_rfl) (by kernel_rfl) (fun _ _ _ h => h) (Or.inl ⟨by rfl, fun X hX => by (go_simp <;> with_reducible rfl)⟩) hHeld ?_
    go_simp
    refine wpAnyH_take (i := 5) (v := ?_) rfl (by kernel_rfl) (by kernel_rfl) (by kernel_rfl) (fun _ _ _ h => h) (Or.inl ⟨by rfl, fun X hX => by (go_simp <;> with_reducible rfl)⟩) hHeld ?_
    go_simp
    refine wpAnyH_take (i := 6) (v := ?_) rfl (by kernel_rfl) (by kernel_rfl) (by kernel_rfl) (fun _ _ _ h => h) (Or.inl ⟨by rfl, fun X hX => by (go_simp <;> with_reducible rfl)⟩) hHeld ?_
    go_simp
    refine wpAnyH_ready (rs := [8]) (by kernel_rfl) (by simp) (AllReadyH.cons rfl (fun K hK => ?_) AllReadyH.nil)
    refine step_st_flat rfl (.tmp 3) (.tmp 19) rfl rb rfl rfl rfl oO5 _ HRB.out rfl ?_
    have hb9 := (((But.of_below (X := fun k => V0.heap.size ≤ k) HVV.out).row rb (flL (.slice (some ⟨g5, 0, none⟩) 1 k5) O5 exF3.p exF3.tm).toArray (.inr HRL.out))).below (Nat.le_refl _) fun k _ q => q
    have HBV9 := Lib.hid (HV0.out.trans (hb9.mono HV0.out.size))
    have HBF : Hid (BF (V.setRow rb (flL (.slice (some ⟨g5, 0, none⟩) 1 k5) O5 exF3.p exF3.tm).toArray) rb (.slice (some ⟨g5, 0, none⟩) 1 k5) O5 exP 0) := BF.row (F := .slice (some ⟨g5, 0, none⟩) 1 k5) (O := O5) (p := exF3.p) (t := exF3.tm) HRB.out
    have H5 := Lib.hid (H5.out.row rb (flL (.slice (some ⟨g5, 0, none⟩) 1 k5) O5 exF3.p exF3.tm).toArray HNR.out)
    refine hK.out _ _ (HSR.out _ HBV9.out) (fun hHeld => ?_)
    clear hK K hb9
    generalize V.setRow rb (flL (.slice (some ⟨g5, 0, none⟩) 1 k5) O5 exF3.p exF3.tm).toArray = V3 at *
    (try go_simp)
    refine wpAnyH_ready (rs := [9]) (by kernel_rfl) (by simp) (AllReadyH.cons rfl (fun K hK => ?_) AllReadyH.nil)
    go_simp
    refine hK.out _ _ hHeld (fun hHeld => ?_)
    clear hK K
    refine wpAnyH_done (by kernel_rfl) ?_ _
    clear HVV HRB HNR HGN HBV HPL HRL HC5 HV0 hHeld
    go_upto_region 4 with fail
    have e10 : V3.cell? ⟨eb, 10, none⟩ = some (.int .i64 2) := (HBV9.out.cell (p := ⟨eb, 10, none⟩) HEB.out.lt).trans (HEB.out.cell 10)
    have HB3 := Lib.hid (HBB2.out.trans (HBV9.out.mono HBB2.out.size))
    have HON : Hid (∀ X, Below V3.heap.size V3 X → Calls Tryd.prog 18 #[] X (OneG X)) := fun X hX => one_any (HG.out.below ((HB3.out.mono HG.out.le).trans (hX.mono (Nat.le_trans HG.out.le HB3.out.size))))
    have HNX : Hid (∀ X B4 A Q, Below V3.heap.size V3 X → Gnd X B4 A [exQ Q] → Calls Tryd.prog 14 #[.agg (flL (.slice (some ⟨g5, 0, none⟩) 1 k5) O5 exP 0).toArray, .slice A 1 1, .agg #[.int .i64 2, .int .i64 0, .int .i64 0, .int .i64 1, .int .i64 0]] X (NexG X exF3 none)) := fun X B4 A Q hX hg => by
      have := next_any (f := exF3) (H5.out.below hX).inF 1 (by decide) (by decide) hg (by unfold In64F; decide) exE3 exOk.2.2.a
      rw [ex_next] at this; exact this
    have HS4 : Hid (∀ X, Below V3.heap.size V3 X → (X.cell? ⟨eb, 10, none⟩ = some (.int .i64 2) ∧ X.cell? ⟨eb, 11, none⟩ = some (.int .i64 0) ∧ X.cell? ⟨eb, 12, none⟩ = some (.int .i64 0) ∧ X.cell? ⟨eb, 13, none⟩ = some (.int .i64 1) ∧ X.cell? ⟨eb, 14, none⟩ = some (.int .i64 0)) ∧ X.rangeAt rb 0 (flL (.slice (some ⟨g5, 0, none⟩) 1 k5) O5 exP 0)) := fun X hX => by
      have he := (HEB.out.below HBV9.out HEB.out.lt)
      have he2 := he.below hX he.lt
      exact ⟨⟨he2.cell 10, he2.cell 11, he2.cell 12, he2.cell 13, he2.cell 14⟩, BF.all (Blk.below HBF.out hX (Blk.lt HBF.out))⟩
    clear e10
    refine wp_region_held_drew (S := fun X => (X.cell? ⟨eb, 10, none⟩ = some (.int .i64 2) ∧ X.cell? ⟨eb, 11, none⟩ = some (.int .i64 0) ∧ X.cell? ⟨eb, 12, none⟩ = some (.int .i64 0) ∧ X.cell? ⟨eb, 13, none⟩ = some (.int .i64 1) ∧ X.cell? ⟨eb, 14, none⟩ = some (.int .i64 0)) ∧ X.rangeAt rb 0 (flL (.slice (some ⟨g5, 0, none⟩) 1 k5) O5 exP 0)) (by kernel_rfl) (HS4.out _ ((Below.refl _ _).drew)) (fun hHeld => ?_)
    show wpAnyH _ _ _ _ _ _ _ _ _
    try dsimp only at hHeld
    have HBV := Lib.hid ((Below.refl V3.heap.size V3).drew)
    generalize V3.drew = V at *
    have HV0 := HBV
    have HVV := Lib.hid (Below.refl V.heap.size V)
    obtain ⟨V0, hV0⟩ : ∃ V0, V = V0 := ⟨_, rfl⟩
    have HVV : Hid (Below V0.heap.size V0 V) := by rw [← hV0]; exact HVV.out
    have HV0 : Hid (Below V3.heap.size V3 V0) := by rw [← hV0]; exact HV0.out
    clear hV0
    refine wpAnyH_take (i := 0) (v := .agg (flL (.slice (some ⟨g5, 0, none⟩) 1 k5) O5 exP 0).toArray) rfl (by kernel_rfl) (by kernel_rfl) (by kernel_rfl) (fun _ _ _ h => h) (yieldsIf_load_mid (by rfl) 30 (.tmp 3) rfl rb 0 rfl (flL (.slice (some ⟨g5, 0, none⟩) 1 k5) O5 exP 0) _ (fun X' h => h.2) under30 rfl (by rw [infoFlat, flL_len])) hHeld ?_
    go_simp
    refine wpAnyH_take (i := 2) (v := ?_) rfl (by kernel_rfl) (by kernel_rfl) (by kernel_rfl) (fun _ _ _ h => h) (Or.inl ⟨by rfl, fun X hX => by (obtain ⟨⟨z0, z1, z2, z3, z4⟩, z5⟩ := hX; go_simp <;> with_reducible rfl)⟩) hHeld ?_
    go_simp
    refine wpAnyH_take (i := 3) (v := ?_) rfl (by kernel_rfl) (by kernel_rfl) (by kernel_rfl) (fun _ _ _ h => h) (Or.inl ⟨by rfl, fun X hX => by (obtain ⟨⟨z0, z1, z2, z3, z4⟩, z5⟩ := hX; go_simp <;> with_reducible rfl)⟩) hHeld ?_
    go_simp
    refine wpAnyH_take (i := 4) (v := ?_) rfl (by kernel_rfl) (by kernel_rfl) (by kernel_rfl) (fun _ _ _ h => h) (Or.inl ⟨by rfl, fun X hX => by (obtain ⟨⟨z0, z1, z2, z3, z4⟩, z5⟩ := hX; go_simp <;> with_reducible rfl)⟩) hHeld ?_
    go_simp
    refine wpAnyH_ready (rs := [1, 9]) (by kernel_rfl) (by simp) (AllReadyH.cons rfl (fun K hK => ?_) (AllReadyH.cons rfl (fun K hK => ?_) AllReadyH.nil))
    · go_simp
      go_at_call 18
      (with_reducible refine (HON.out _ HBV.out).mono ?_)
      rintro er w4 ⟨A4, Q4, rfl, hg4, hb4⟩
      have HBV := Lib.hid (HBV.out.trans (hb4.mono HBV.out.size))
      have HVV := Lib.hid (HVV.out.trans (hb4.mono HVV.out.size))
      have HGN := Lib.hid hg4
      (try (go_wp2_with fail))
      refine hK.out _ _ (HS4.out _ HBV.out) (fun hHeld => ?_)
      clear hK K hg4 hb4
      obtain ⟨B4, hB4⟩ : ∃ B4, w4.heap.size = B4 := ⟨_, rfl⟩
      rw [hB4] at HGN
      clear hB4
      generalize w4 = V at *
      refine wpAnyH_ready (rs := [5, 9]) (by kernel_rfl) (by simp) (AllReadyH.cons rfl (fun K hK => ?_) (AllReadyH.cons rfl (fun K hK => ?_) AllReadyH.nil))
      · go_simp
        go_at_call 14
        (with_reducible refine (HNX.out V B4 A4 Q4 HBV.out HGN.out).mono ?_)
        rintro er w5 ⟨F6, O6, rfl, h6, hb6⟩
        obtain ⟨oF6, oO6⟩ := h6.one
        have HBV := Lib.hid (HBV.out.trans (hb6.mono HBV.out.size))
        have HVV := Lib.hid (HVV.out.trans (hb6.mono HVV.out.size))
        (try (go_wp2_with fail))
        refine hK.out _ _ (HS4.out _ HBV.out) (fun hHeld => ?_)
        clear hK K h6 hb6
        generalize w5 = V at *
        refine wpAnyH_take (i := 6) (v := ?_) rfl (by kernel_rfl) (by kernel_rfl) (by kernel_rfl) (fun _ _ _ h => h) (Or.inl ⟨by rfl, fun X hX => by (obtain ⟨⟨z0, z1, z2, z3, z4⟩, z5⟩ := hX; go_simp <;> with_reducible rfl)⟩) hHeld ?_
        go_simp
        refine wpAnyH_take (i := 7) (v := ?_) rfl (by kernel_rfl) (by kernel_rfl) (by kernel_rfl) (fun _ _ _ h => h) (Or.inl ⟨by rfl, fun X hX => by (obtain ⟨⟨z0, z1, z2, z3, z4⟩, z5⟩ := hX; go_simp <;> with_reducible rfl)⟩) hHeld ?_
        go_simp
        refine wpAnyH_take (i := 8) (v := ?_) rfl (by kernel_rfl) (by kernel_rfl) (by kernel_rfl) (fun _ _ _ h => h) (Or.inl ⟨by rfl, fun X hX => by (obtain ⟨⟨z0, z1, z2, z3, z4⟩, z5⟩ := hX; go_simp <;> with_reducible rfl)⟩) hHeld ?_
        go_simp
        refine wpAnyH_ready (rs := [9]) (by kernel_rfl) (by simp) (AllReadyH.cons rfl (fun K hK => ?_) AllReadyH.nil)
        go_simp
        have hal := (Below.refl V.heap.size V).alloc (Nat.le_refl _) (.cells #[.slice none 0 0, .int .u64 0, .int .u64 0, .int .u64 0, .int .u64 0, .int .u64 0, .int .u64 0, .int .u64 0, .int .u64 0, .int .u64 0, .int .u64 0, .int .u64 0, .int .u64 0, .int .u64 0, .int .u64 0, .int .u64 0, .int .u64 0, .slice none 0 0, .int .i64 0] 30)
        have hrb := Blk.new V 30 #[.slice none 0 0, .int .u64 0, .int .u64 0, .int .u64 0, .int .u64 0, .int .u64 0, .int .u64 0, .int .u64 0, .int .u64 0, .int .u64 0, .int .u64 0, .int .u64 0, .int .u64 0, .int .u64 0, .int .u64 0, .int .u64 0, .int .u64 0, .slice none 0 0, .int .i64 0]
        have HBV := Lib.hid (HBV.out.trans (hal.mono HBV.out.size))
        have HRL : Hid (V0.heap.size ≤ V.heap.size) := HVV.out.size
        have HVV := Lib.hid (HVV.out.trans (hal.mono HVV.out.size))
        refine hK.out _ _ (HS4.out _ HBV.out) (fun hHeld => ?_)
        clear hK K hal
        obtain ⟨rb9, hrbe⟩ : ∃ rb9, V.heap.size = rb9 := ⟨_, rfl⟩
        rw [hrbe] at hrb HRL
        (try rw [hrbe])
        have HRB := Lib.hid hrb
        clear hrb hrbe
        generalize V.alloc (.cells #[.slice none 0 0, .int .u64 0, .int .u64 0, .int .u64 0, .int .u64 0, .int .u64 0, .int .u64 0, .int .u64 0, .int .u64 0, .int .u64 0, .int .u64 0, .int .u64 0, .int .u64 0, .int .u64 0, .int .u64 0, .int .u64 0, .int .u64 0, .slice none 0 0, .int .i64 0] 30) = V at *
        refine wpAnyH_ready (rs := [10]) (by kernel_rfl) (by simp) (AllReadyH.cons rfl (fun K hK => ?_) AllReadyH.nil)
        refine step_st_flat rfl (.tmp 5) (.tmp 28) rfl rb9 rfl rfl oF6 oO6 _ HRB.out rfl ?_
        have hb9 := (((But.of_below (X := fun k => V0.heap.size ≤ k) HVV.out).row rb9 (flL F6 O6 exF3.p exF3.tm).toArray (.inr HRL.out))).below (Nat.le_refl _) fun k _ q => q
        have HBVA := Lib.hid (HV0.out.trans (hb9.mono HV0.out.size))
        refine hK.out _ _ (HS4.out _ HBVA.out) (fun hHeld => ?_)
        clear hK K hb9
        (try go_simp)
        refine wpAnyH_ready (rs := [11]) (by kernel_rfl) (by simp) (AllReadyH.cons rfl (fun K hK => ?_) AllReadyH.nil)
        go_simp
        refine hK.out _ _ hHeld (fun hHeld => ?_)
        clear hK K
        refine wpAnyH_done (by kernel_rfl) ?_ _
        have c0 := BF.c0 (Blk.below HBF.out HBVA.out (Blk.lt HBF.out))
        have h5 := H5.out.below HBVA.out
        have hr := OwnF.cells (ts := exF3.ts) (ow := exF3.ow) (g := g5) (cap := k5) h5 (i := 0) (x := ⟨0, 0, ⟨0, 0, 0, 0⟩, 2, 0⟩) rfl
        have n6 := hr 6 _ rfl
        have n7 := hr 7 _ rfl
        simp only [Nat.zero_mul, Nat.zero_add] at n6 n7
        have HFIN := Lib.hid (HB3.out.trans (HBVA.out.mono HB3.out.size))
        clear hr h5 hHeld
        generalize V.setRow rb9 (flL F6 O6 exF3.p exF3.tm).toArray = V4 at *
        go_wp2_with fail
        go_ret
        exact ⟨rfl, HFIN.out⟩
      · go_simp
        have hal := (Below.refl V.heap.size V).alloc (Nat.le_refl _) (.cells #[.slice none 0 0, .int .u64 0, .int .u64 0, .int .u64 0, .int .u64 0, .int .u64 0, .int .u64 0, .int .u64 0, .int .u64 0, .int .u64 0, .int .u64 0, .int .u64 0, .int .u64 0, .int .u64 0, .int .u64 0, .int .u64 0, .int .u64 0, .slice none 0 0, .int .i64 0] 30)
        have hrb := Blk.new V 30 #[.slice none 0 0, .int .u64 0, .int .u64 0, .int .u64 0, .int .u64 0, .int .u64 0, .int .u64 0, .int .u64 0, .int .u64 0, .int .u64 0, .int .u64 0, .int .u64 0, .int .u64 0, .int .u64 0, .int .u64 0, .int .u64 0, .int .u64 0, .slice none 0 0, .int .i64 0]
        have HBV := Lib.hid (HBV.out.trans (hal.mono HBV.out.size))
        have HGN := Lib.hid (HGN.out.below (hal.mono HGN.out.le))
        have HRL : Hid (V0.heap.size ≤ V.heap.size) := HVV.out.size
        have HVV := Lib.hid (HVV.out.trans (hal.mono HVV.out.size))
        refine hK.out _ _ (HS4.out _ HBV.out) (fun hHeld => ?_)
        clear hK K hal
        obtain ⟨rb9, hrbe⟩ : ∃ rb9, V.heap.size = rb9 := ⟨_, rfl⟩
        rw [hrbe] at hrb HRL
        (try rw [hrbe])
        have HRB := Lib.hid hrb
        clear hrb hrbe
        generalize V.alloc (.cells #[.slice none 0 0, .int .u64 0, .int .u64 0, .int .u64 0, .int .u64 0, .int .u64 0, .int .u64 0, .int .u64 0, .int .u64 0, .int .u64 0, .int .u64 0, .int .u64 0, .int .u64 0, .int .u64 0, .int .u64 0, .int .u64 0, .int .u64 0, .slice none 0 0, .int .i64 0] 30) = V at *
        refine wpAnyH_ready (rs := [5]) (by kernel_rfl) (by simp) (AllReadyH.cons rfl (fun K hK => ?_) AllReadyH.nil)
        go_simp
        go_at_call 14
        (with_reducible refine (HNX.out V B4 A4 Q4 HBV.out HGN.out).mono ?_)
        rintro er w5 ⟨F6, O6, rfl, h6, hb6⟩
        obtain ⟨oF6, oO6⟩ := h6.one
        have HBV := Lib.hid (HBV.out.trans (hb6.mono HBV.out.size))
        have HVV := Lib.hid (HVV.out.trans (hb6.mono HVV.out.size))
        have HRB := Lib.hid (HRB.out.below hb6 HRB.out.lt)
        (try (go_wp2_with fail))
        refine hK.out _ _ (HS4.out _ HBV.out) (fun hHeld => ?_)
        clear hK K h6 hb6
        generalize w5 = V at *
        refine wpAnyH_take (i := 6) (v := ?_) rfl (by kernel_rfl) (by kernel_rfl) (by kernel_rfl) (fun _ _ _ h => h) (Or.inl ⟨by rfl, fun X hX => by (obtain ⟨⟨z0, z1, z2, z3, z4⟩, z5⟩ := hX; go_simp <;> with_reducible rfl)⟩) hHeld ?_
        go_simp
        refine wpAnyH_take (i := 7) (v := ?_) rfl (by kernel_rfl) (by kernel_rfl) (by kernel_rfl) (fun _ _ _ h => h) (Or.inl ⟨by rfl, fun X hX => by (obtain ⟨⟨z0, z1, z2, z3, z4⟩, z5⟩ := hX; go_simp <;> with_reducible rfl)⟩) hHeld ?_
        go_simp
        refine wpAnyH_take (i := 8) (v := ?_) rfl (by kernel_rfl) (by kernel_rfl) (by kernel_rfl) (fun _ _ _ h => h) (Or.inl ⟨by rfl, fun X hX => by (obtain ⟨⟨z0, z1, z2, z3, z4⟩, z5⟩ := hX; go_simp <;> with_reducible rfl)⟩) hHeld ?_
        go_simp
        refine wpAnyH_ready (rs := [10]) (by kernel_rfl) (by simp) (AllReadyH.cons rfl (fun K hK => ?_) AllReadyH.nil)
        refine step_st_flat rfl (.tmp 5) (.tmp 28) rfl rb9 rfl rfl oF6 oO6 _ HRB.out rfl ?_
        have hb9 := (((But.of_below (X := fun k => V0.heap.size ≤ k) HVV.out).row rb9 (flL F6 O6 exF3.p exF3.tm).toArray (.inr HRL.out))).below (Nat.le_refl _) fun k _ q => q
        have HBVA := Lib.hid (HV0.out.trans (hb9.mono HV0.out.size))
        refine hK.out _ _ (HS4.out _ HBVA.out) (fun hHeld => ?_)
        clear hK K hb9
        (try go_simp)
        refine wpAnyH_ready (rs := [11]) (by kernel_rfl) (by simp) (AllReadyH.cons rfl (fun K hK => ?_) AllReadyH.nil)
        go_simp
        refine hK.out _ _ hHeld (fun hHeld => ?_)
        clear hK K
        refine wpAnyH_done (by kernel_rfl) ?_ _
        have c0 := BF.c0 (Blk.below HBF.out HBVA.out (Blk.lt HBF.out))
        have h5 := H5.out.below HBVA.out
        have hr := OwnF.cells (ts := exF3.ts) (ow := exF3.ow) (g := g5) (cap := k5) h5 (i := 0) (x := ⟨0, 0, ⟨0, 0, 0, 0⟩, 2, 0⟩) rfl
        have n6 := hr 6 _ rfl
        have n7 := hr 7 _ rfl
        simp only [Nat.zero_mul, Nat.zero_add] at n6 n7
        have HFIN := Lib.hid (HB3.out.trans (HBVA.out.mono HB3.out.size))
        clear hr h5 hHeld
        generalize V.setRow rb9 (flL F6 O6 exF3.p exF3.tm).toArray = V4 at *
        go_wp2_with fail
        go_ret
        exact ⟨rfl, HFIN.out⟩
    · go_simp
      have hal := (Below.refl V.heap.size V).alloc (Nat.le_refl _) (.cells #[.slice none 0 0, .int .u64 0, .int .u64 0, .int .u64 0, .int .u64 0, .int .u64 0, .int .u64 0, .int .u64 0, .int .u64 0, .int .u64 0, .int .u64 0, .int .u64 0, .int .u64 0, .int .u64 0, .int .u64 0, .int .u64 0, .int .u64 0, .slice none 0 0, .int .i64 0] 30)
      have hrb := Blk.new V 30 #[.slice none 0 0, .int .u64 0, .int .u64 0, .int .u64 0, .int .u64 0, .int .u64 0, .int .u64 0, .int .u64 0, .int .u64 0, .int .u64 0, .int .u64 0, .int .u64 0, .int .u64 0, .int .u64 0, .int .u64 0, .int .u64 0, .int .u64 0, .slice none 0 0, .int .i64 0]
      have HBV := Lib.hid (HBV.out.trans (hal.mono HBV.out.size))
      have HRL : Hid (V0.heap.size ≤ V.heap.size) := HVV.out.size
      have HVV := Lib.hid (HVV.out.trans (hal.mono HVV.out.size))
      refine hK.out _ _ (HS4.out _ HBV.out) (fun hHeld => ?_)
      clear hK K hal
      obtain ⟨rb9, hrbe⟩ : ∃ rb9, V.heap.size = rb9 := ⟨_, rfl⟩
      rw [hrbe] at hrb HRL
      (try rw [hrbe])
      have HRB := Lib.hid hrb
      clear hrb hrbe
      generalize V.alloc (.cells #[.slice none 0 0, .int .u64 0, .int .u64 0, .int .u64 0, .int .u64 0, .int .u64 0, .int .u64 0, .int .u64 0, .int .u64 0, .int .u64 0, .int .u64 0, .int .u64 0, .int .u64 0, .int .u64 0, .int .u64 0, .int .u64 0, .int .u64 0, .slice none 0 0, .int .i64 0] 30) = V at *
      refine wpAnyH_ready (rs := [1]) (by kernel_rfl) (by simp) (AllReadyH.cons rfl (fun K hK => ?_) AllReadyH.nil)
      go_simp
      go_at_call 18
      (with_reducible refine (HON.out _ HBV.out).mono ?_)
      rintro er w4 ⟨A4, Q4, rfl, hg4, hb4⟩
      have HBV := Lib.hid (HBV.out.trans (hb4.mono HBV.out.size))
      have HVV := Lib.hid (HVV.out.trans (hb4.mono HVV.out.size))
      have HGN := Lib.hid hg4
      have HRB := Lib.hid (HRB.out.below hb4 HRB.out.lt)
      (try (go_wp2_with fail))
      refine hK.out _ _ (HS4.out _ HBV.out) (fun hHeld => ?_)
      clear hK K hg4 hb4
      obtain ⟨B4, hB4⟩ : ∃ B4, w4.heap.size = B4 := ⟨_, rfl⟩
      rw [hB4] at HGN
      clear hB4
      generalize w4 = V at *
      refine wpAnyH_ready (rs := [5]) (by kernel_rfl) (by simp) (AllReadyH.cons rfl (fun K hK => ?_) AllReadyH.nil)
      go_simp
      go_at_call 14
      (with_reducible refine (HNX.out V B4 A4 Q4 HBV.out HGN.out).mono ?_)
      rintro er w5 ⟨F6, O6, rfl, h6, hb6⟩
      obtain ⟨oF6, oO6⟩ := h6.one
      have HBV := Lib.hid (HBV.out.trans (hb6.mono HBV.out.size))
      have HVV := Lib.hid (HVV.out.trans (hb6.mono HVV.out.size))
      have HRB := Lib.hid (HRB.out.below hb6 HRB.out.lt)
      (try (go_wp2_with fail))
      refine hK.out _ _ (HS4.out _ HBV.out) (fun hHeld => ?_)
      clear hK K h6 hb6
      generalize w5 = V at *
      refine wpAnyH_take (i := 6) (v := ?_) rfl (by kernel_rfl) (by kernel_rfl) (by kernel_rfl) (fun _ _ _ h => h) (Or.inl ⟨by rfl, fun X hX => by (obtain ⟨⟨z0, z1, z2, z3, z4⟩, z5⟩ := hX; go_simp <;> with_reducible rfl)⟩) hHeld ?_
      go_simp
      refine wpAnyH_take (i := 7) (v := ?_) rfl (by kernel_rfl) (by kernel_rfl) (by kernel_rfl) (fun _ _ _ h => h) (Or.inl ⟨by rfl, fun X hX => by (obtain ⟨⟨z0, z1, z2, z3, z4⟩, z5⟩ := hX; go_simp <;> with_reducible rfl)⟩) hHeld ?_
      go_simp
      refine wpAnyH_take (i := 8) (v := ?_) rfl (by kernel_rfl) (by kernel_rfl) (by kernel_rfl) (fun _ _ _ h => h) (Or.inl ⟨by rfl, fun X hX => by (obtain ⟨⟨z0, z1, z2, z3, z4⟩, z5⟩ := hX; go_simp <;> with_reducible rfl)⟩) hHeld ?_
      go_simp
      refine wpAnyH_ready (rs := [10]) (by kernel_rfl) (by simp) (AllReadyH.cons rfl (fun K hK => ?_) AllReadyH.nil)
      refine step_st_flat rfl (.tmp 5) (.tmp 28) rfl rb9 rfl rfl oF6 oO6 _ HRB.out rfl ?_
      have hb9 := (((But.of_below (X := fun k => V0.heap.size ≤ k) HVV.out).row rb9 (flL F6 O6 exF3.p exF3.tm).toArray (.inr HRL.out))).below (Nat.le_refl _) fun k _ q => q
      have HBVA := Lib.hid (HV0.out.trans (hb9.mono HV0.out.size))
      refine hK.out _ _ (HS4.out _ HBVA.out) (fun hHeld => ?_)
      clear hK K hb9
      (try go_simp)
      refine wpAnyH_ready (rs := [11]) (by kernel_rfl) (by simp) (AllReadyH.cons rfl (fun K hK => ?_) AllReadyH.nil)
      go_simp
      refine hK.out _ _ hHeld (fun hHeld => ?_)
      clear hK K
      refine wpAnyH_done (by kernel_rfl) ?_ _
      have c0 := BF.c0 (Blk.below HBF.out HBVA.out (Blk.lt HBF.out))
      have h5 := H5.out.below HBVA.out
      have hr := OwnF.cells (ts := exF3.ts) (ow := exF3.ow) (g := g5) (cap := k5) h5 (i := 0) (x := ⟨0, 0, ⟨0, 0, 0, 0⟩, 2, 0⟩) rfl
      have n6 := hr 6 _ rfl
      have n7 := hr 7 _ rfl
      simp only [Nat.zero_mul, Nat.zero_add] at n6 n7
      have HFIN := Lib.hid (HB3.out.trans (HBVA.out.mono HB3.out.size))
      clear hr h5 hHeld
      generalize V.setRow rb9 (flL F6 O6 exF3.p exF3.tm).toArray = V4 at *
      go_wp2_with fail
      go_ret
      exact ⟨rfl, HFIN.out⟩
end
end Go.Proofs.YtilaalleiiakoaaDoor
