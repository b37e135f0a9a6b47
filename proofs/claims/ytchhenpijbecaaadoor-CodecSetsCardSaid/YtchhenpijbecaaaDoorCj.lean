/- layer 31 (codec): the document's examples. -/
import Derived.Test.YtchhenpijbecaaaDoorCi
namespace Go.Proofs.YtchhenpijbecaaaDoor
open Go.RowKit
set_option maxRecDepth 100000

def z0 (i : Nat) : Int := if i = 4 then 8 else i
def S0 : Nat → Bool := ofP z0 5
theorem wpAnyH_weak {P : Program} {md : Region.Mode} {ops : Array Oper} {Q : Exit → Act → World → Prop} {S S' : World → Prop} (h : ∀ W, S' W → S W) : ∀ (fuel : Nat) (listed : Array Bool) (a : Act) (w : World), wpAnyH P md ops Q S' fuel listed a w → wpAnyH P md ops Q S fuel listed a w
  | 0, _, _, _, q => q
  | fuel + 1, _, _, _, q => ⟨q.1, fun i hi => wpOp_mono (fun a' w' q' => ⟨h _ q'.1, wpAnyH_weak h fuel _ a' w' q'.2⟩) (q.2 i hi)⟩
theorem vb_1 (u : Nat) (h : u < 128) : vb u = [UInt8.ofNat u] := vb_lo h
theorem intB_64 : intB 64 = [128, 1] := by
  have e : foldN 64 = 128 := by decide
  unfold intB
  rw [e, vb_hi (by omega), vb_lo (by omega)]; rfl
theorem intB_m1 : intB (-1) = [1] := by
  have e : foldN (-1) = 1 := by decide
  unfold intB
  rw [e, vb_lo (by omega)]; rfl
theorem rowsOf_S0 : rowsOf S0 = [2, 0, 3, 3, 0] := by
  have f1 : firstO S0 = some 0 := by decide +kernel
  have e1 : endOf S0 0 = 3 := by decide +kernel
  have f2 : firstO (fromP S0 ((3 + 2 : Nat) : Int)) = some 8 := by decide +kernel
  have e2 : endOf S0 8 = 8 := by decide +kernel
  have f3 : firstO (fromP S0 ((8 + 2 : Nat) : Int)) = none := by decide +kernel
  unfold rowsOf rowsT
  rw [f1, rowsF, e1, f2, rowsF, e2, f3, rowsF]
  decide
theorem rowsB_S0 : intsB (rowsOf S0) = [4, 0, 6, 6, 0] := by
  rw [rowsOf_S0]
  have a0 : foldN 0 = 0 := by decide
  have a2 : foldN 2 = 4 := by decide
  have a3 : foldN 3 = 6 := by decide
  simp only [intsB, intB, List.flatMap_cons, List.flatMap_nil, a0, a2, a3]
  rw [vb_lo (u := 0) (by omega), vb_lo (u := 4) (by omega), vb_lo (u := 6) (by omega)]; rfl
/-- a slice that holds these bytes. -/
def SBy (w : World) (v : Value) (l : List UInt8) : Prop := OwB 0 w v l
theorem SBy.below {w w' : World} {v : Value} {l : List UInt8} (h : SBy w v l) (hb : Below w.heap.size w w') : SBy w' v l := own_on h hb
def LvB (w : World) (L : List (Value × List UInt8)) (X : World) : Prop := Below w.heap.size w X ∧ Tabs X ∧ ∀ y ∈ L, SBy X y.1 y.2
theorem LvB.step {w X X' : World} {L : List (Value × List UInt8)} (h : LvB w L X) (hb : Below X.heap.size X X') : LvB w L X' :=
  ⟨h.1.trans (hb.mono h.1.size), h.2.1.on hb, fun y hy => (h.2.2 y hy).below hb⟩
theorem LvB.tail {w X : World} {y : Value × List UInt8} {L : List (Value × List UInt8)} (h : LvB w (y :: L) X) : LvB w L X := ⟨h.1, h.2.1, fun z hz => h.2.2 z (List.mem_cons_of_mem _ hz)⟩
theorem LvB.cons {w X : World} {v : Value} {l : List UInt8} {L : List (Value × List UInt8)} (h : LvB w L X) (hn : SBy X v l) : LvB w ((v, l) :: L) X := ⟨h.1, h.2.1, fun z hz => by
  rcases List.mem_cons.1 hz with rfl | hz
  · exact hn
  · exact h.2.2 z hz⟩
theorem nil_in (w : World) (B : Nat) : BysIn B w none [] := fun i hi => absurd hi (by simp)
theorem put64 (w : World) : Calls Tryd.prog 7 #[.slice none 0 0, .int .i64 64] w fun e w' => ∃ v, e = .returned v ∧ SBy w' v [128, 1] ∧ Below w.heap.size w w' :=
  (putInt_any none [] 0 0 rfl (Nat.le_refl _) (by omega) 64 (by unfold B64; omega) w (nil_in w _)).mono fun e w' ⟨v, h1, h2, h3⟩ => ⟨v, h1, own_mono (by rw [← intB_64]; exact h2) (Nat.zero_le _), h3⟩
theorem putm1 (w : World) : Calls Tryd.prog 7 #[.slice none 0 0, .int .i64 (-1)] w fun e w' => ∃ v, e = .returned v ∧ SBy w' v [1] ∧ Below w.heap.size w w' :=
  (putInt_any none [] 0 0 rfl (Nat.le_refl _) (by omega) (-1) (by unfold B64; omega) w (nil_in w _)).mono fun e w' ⟨v, h1, h2, h3⟩ => ⟨v, h1, own_mono (by rw [← intB_m1]; exact h2) (Nat.zero_le _), h3⟩
theorem putS0 (w : World) (hT : Tabs w) : Calls Tryd.prog 12 #[.slice none 0 0, .agg (cellsOf S0)] w fun e w' => ∃ v, e = .returned v ∧ SBy w' v [4, 0, 6, 6, 0] ∧ Below w.heap.size w w' :=
  (putSet_any none [] 0 0 rfl (Nat.le_refl _) (by omega) S0 w hT (nil_in w _)).mono fun e w' ⟨v, h1, h2, h3⟩ => ⟨v, h1, own_mono (by rw [← rowsB_S0]; exact h2) (Nat.zero_le _), h3⟩
theorem lv_intsB (W : World) : IntsAt (W.alloc (.cells #[.int .i64 0, .int .i64 1, .int .i64 2, .int .i64 3, .int .i64 8] 3)) (.slice (some ⟨W.heap.size, 0, none⟩) 5 5) z0 5 :=
  ⟨some ⟨W.heap.size, 0, none⟩, 5, rfl, .inr ⟨W.heap.size, 0, rfl, by simp, fun i hi => by
    rw [(Blk.new W _ _).cell]
    match i, hi with
    | 0, _ => rfl
    | 1, _ => rfl
    | 2, _ => rfl
    | 3, _ => rfl
    | 4, _ => rfl⟩⟩
theorem lv_bytes (W : World) : SBy (W.alloc (.cells #[.int .u8 4, .int .u8 0, .int .u8 6, .int .u8 6, .int .u8 0] 5)) (.slice (some ⟨W.heap.size, 0, none⟩) 5 5) [4, 0, 6, 6, 0] :=
  W.ownsRow_lit #[.int .u8 4, .int .u8 0, .int .u8 6, .int .u8 6, .int .u8 0] 5 (Nat.zero_le _) (by decide) rfl
theorem yieldsIf_conv {ops : Array Oper} {S : World → Prop} {o : Oper} {a : Act} (hw : Region.wanted o (yielded ops a.tmps) = true) (x : Operand) (ho : o.op = .convert 22 9 x) (v : Value) (l : List UInt8) (z : ByteArray) (hz : z = ⟨l.toArray⟩)
    (hx : a.eval x = v) (hS : ∀ w, S w → SBy w v l) : YieldsIf Tryd.prog ops S o (.string z) a :=
  .inl ⟨hw, fun w h => by
    subst hz
    unfold execOp
    simp only [ho, hx, Sem.run_bind, Sem.run_pure, Result.andThen_ok, conv_own (hS w h)]⟩
set_option maxHeartbeats 16000000 in
theorem lives31_any (w : World) (hT : Tabs w) :
    Calls Tryd.prog 11 #[] w fun e w' => e = .returned (.bool true) ∧ Below w.heap.size w w' := by
  have HS : Hid (LvB w [] w.drew) := ⟨(Below.refl _ _).drew, hT.on (Below.refl _ _).drew, fun y hy => by cases hy⟩
  clear hT
  go_enter Tryd.func11, Tryd.ntmps11
  go_upto_region 1 with fail
  refine wp_region_held_drew (S := LvB w []) (by kernel_rfl) HS.out (fun _ => ?_)
  show wpAnyH _ _ _ _ _ _ _ _ _
  refine wpAnyH_ready (rs := [0]) (by kernel_rfl) (by simp) (AllReadyH.cons rfl (fun K hK => ?_) AllReadyH.nil)
  go_simp
  refine (put64 w.drew).mono ?_
  rintro e w1 ⟨v1, rfl, h1, hb1⟩
  dsimp only
  have HN1 : Hid (SBy w1 v1 [128, 1]) := h1
  have HS' := Lib.hid (HS.out.step hb1)
  clear HS; have HS := HS'; clear HS'
  clear h1 hb1
  refine hK.out _ _ HS.out (fun _ => ?_)
  clear hK K
  refine wpAnyH_weak (S' := LvB w ((v1, [128, 1]) :: [])) (fun X h => h.tail) _ _ _ _ ?_
  have HS' := Lib.hid (HS.out.cons HN1.out)
  clear HS; have HS := HS'; clear HS'
  refine wpAnyH_take (i := 1) (v := _) rfl (by kernel_rfl) (by kernel_rfl) (by kernel_rfl) (fun _ _ _ h => h) (yieldsIf_conv (by rfl) _ rfl (v1) [128, 1] { data := #[128, 1] } rfl rfl (fun X h => h.2.2 (v1, [128, 1]) (List.mem_cons_self))) HS.out ?_
  go_simp
  refine wpAnyH_take (i := 2) (v := ?_) rfl (by kernel_rfl) (by kernel_rfl) (by kernel_rfl) (fun _ _ _ h => h) (Or.inl ⟨by rfl, fun W hW => by go_simp <;> with_reducible rfl⟩) HS.out ?_
  go_simp
  refine wpAnyH_take (i := 3) (v := ?_) rfl (by kernel_rfl) (by kernel_rfl) (by kernel_rfl) (fun _ _ _ h => h) (Or.inl ⟨by rfl, fun W hW => by go_simp <;> with_reducible rfl⟩) HS.out ?_
  go_simp
  refine wpAnyH_ready (rs := [4]) (by kernel_rfl) (by simp) (AllReadyH.cons rfl (fun K hK => ?_) AllReadyH.nil)
  go_simp
  refine (putm1 w1).mono ?_
  rintro e w2 ⟨v2, rfl, h2, hb2⟩
  dsimp only
  have HN2 : Hid (SBy w2 v2 [1]) := h2
  have HS' := Lib.hid (HS.out.step hb2)
  clear HS; have HS := HS'; clear HS'
  clear h2 hb2
  refine hK.out _ _ HS.out (fun _ => ?_)
  clear hK K
  refine wpAnyH_weak (S' := LvB w ((v2, [1]) :: [(v1, [128, 1])])) (fun X h => h.tail) _ _ _ _ ?_
  have HS' := Lib.hid (HS.out.cons HN2.out)
  clear HS; have HS := HS'; clear HS'
  refine wpAnyH_take (i := 5) (v := _) rfl (by kernel_rfl) (by kernel_rfl) (by kernel_rfl) (fun _ _ _ h => h) (yieldsIf_conv (by rfl) _ rfl (v2) [1] { data := #[1] } rfl rfl (fun X h => h.2.2 (v2, [1]) (List.mem_cons_self))) HS.out ?_
  go_simp
  refine wpAnyH_take (i := 6) (v := ?_) rfl (by kernel_rfl) (by kernel_rfl) (by kernel_rfl) (fun _ _ _ h => h) (Or.inl ⟨by rfl, fun W hW => by go_simp <;> with_reducible rfl⟩) HS.out ?_
  go_simp
  refine wpAnyH_take (i := 7) (v := ?_) rfl (by kernel_rfl) (by kernel_rfl) (by kernel_rfl) (fun _ _ _ h => h) (Or.inl ⟨by rfl, fun W hW => by go_simp <;> with_reducible rfl⟩) HS.out ?_
  go_simp
  refine wpAnyH_take (i := 8) (v := ?_) rfl (by kernel_rfl) (by kernel_rfl) (by kernel_rfl) (fun _ _ _ h => h) (Or.inl ⟨by rfl, fun W hW => by go_simp <;> with_reducible rfl⟩) HS.out ?_
  go_simp
  refine wpAnyH_ready (rs := [9, 13]) (by kernel_rfl) (by simp) (AllReadyH.cons rfl (fun K hK => ?_) (AllReadyH.cons rfl (fun K hK => ?_) AllReadyH.nil))
  · go_simp
    have hI := lv_intsB w2
    have hS := HS.out.step ((Below.refl w2.heap.size w2).alloc (Nat.le_refl _) (.cells #[.int .i64 0, .int .i64 1, .int .i64 2, .int .i64 3, .int .i64 8] 3))
    clear HS
    generalize w2.alloc (.cells #[.int .i64 0, .int .i64 1, .int .i64 2, .int .i64 3, .int .i64 8] 3) = w3 at *
    generalize w2.heap.size = q3 at *
    have HI := Lib.hid hI; have HS := Lib.hid hS; clear hI hS
    refine hK.out _ _ HS.out (fun _ => ?_)
    clear hK K
    refine wpAnyH_ready (rs := [10, 13]) (by kernel_rfl) (by simp) (AllReadyH.cons rfl (fun K hK => ?_) (AllReadyH.cons rfl (fun K hK => ?_) AllReadyH.nil))
    · go_simp
      refine (make_any z0 5 _ w3 (by omega) HI.out).mono ?_
      rintro e w4 ⟨rfl, hb4⟩
      dsimp only
      have HS' := Lib.hid (HS.out.step hb4)
      clear HS; have HS := HS'; clear HS' hb4
      refine hK.out _ _ HS.out (fun _ => ?_)
      clear hK K
      refine wpAnyH_ready (rs := [11, 13]) (by kernel_rfl) (by simp) (AllReadyH.cons rfl (fun K hK => ?_) (AllReadyH.cons rfl (fun K hK => ?_) AllReadyH.nil))
      · go_simp
        refine (putS0 w4 HS.out.2.1).mono ?_
        rintro e w5 ⟨v5, rfl, h5, hb5⟩
        dsimp only
        have HN5 : Hid (SBy w5 v5 [4, 0, 6, 6, 0]) := h5
        have HS' := Lib.hid (HS.out.step hb5)
        clear HS; have HS := HS'; clear HS'
        clear h5 hb5
        refine hK.out _ _ HS.out (fun _ => ?_)
        clear hK K
        refine wpAnyH_weak (S' := LvB w ((v5, [4, 0, 6, 6, 0]) :: [(v2, [1]), (v1, [128, 1])])) (fun X h => h.tail) _ _ _ _ ?_
        have HS' := Lib.hid (HS.out.cons HN5.out)
        clear HS; have HS := HS'; clear HS'
        refine wpAnyH_take (i := 12) (v := _) rfl (by kernel_rfl) (by kernel_rfl) (by kernel_rfl) (fun _ _ _ h => h) (yieldsIf_conv (by rfl) _ rfl (v5) [4, 0, 6, 6, 0] { data := #[4, 0, 6, 6, 0] } rfl rfl (fun X h => h.2.2 (v5, [4, 0, 6, 6, 0]) (List.mem_cons_self))) HS.out ?_
        go_simp
        refine wpAnyH_ready (rs := [13]) (by kernel_rfl) (by simp) (AllReadyH.cons rfl (fun K hK => ?_) AllReadyH.nil)
        go_simp
        have hN := lv_bytes w5
        have hB := (Below.refl w5.heap.size w5).alloc (Nat.le_refl _) (.cells #[.int .u8 4, .int .u8 0, .int .u8 6, .int .u8 6, .int .u8 0] 5)
        have hS := HS.out.step hB
        clear HS hB
        generalize w5.alloc (.cells #[.int .u8 4, .int .u8 0, .int .u8 6, .int .u8 6, .int .u8 0] 5) = w6 at *
        generalize w5.heap.size = q6 at *
        have HN6 := Lib.hid hN; have HS := Lib.hid hS; clear hN hS
        refine hK.out _ _ HS.out (fun _ => ?_)
        clear hK K
        refine wpAnyH_weak (S' := LvB w ((.slice (some ⟨q6, 0, none⟩) 5 5, [4, 0, 6, 6, 0]) :: [(v5, [4, 0, 6, 6, 0]), (v2, [1]), (v1, [128, 1])])) (fun X h => h.tail) _ _ _ _ ?_
        have HS' := Lib.hid (HS.out.cons HN6.out)
        clear HS; have HS := HS'; clear HS'
        refine wpAnyH_take (i := 14) (v := _) rfl (by kernel_rfl) (by kernel_rfl) (by kernel_rfl) (fun _ _ _ h => h) (yieldsIf_conv (by rfl) _ rfl (.slice (some ⟨q6, 0, none⟩) 5 5) [4, 0, 6, 6, 0] { data := #[4, 0, 6, 6, 0] } rfl rfl (fun X h => h.2.2 (.slice (some ⟨q6, 0, none⟩) 5 5, [4, 0, 6, 6, 0]) (List.mem_cons_self))) HS.out ?_
        go_simp
        refine wpAnyH_take (i := 15) (v := ?_) rfl (by kernel_rfl) (by kernel_rfl) (by kernel_rfl) (fun _ _ _ h => h) (Or.inl ⟨by rfl, fun W hW => by go_simp <;> with_reducible rfl⟩) HS.out ?_
        go_simp
        refine wpAnyH_take (i := 16) (v := ?_) rfl (by kernel_rfl) (by kernel_rfl) (by kernel_rfl) (fun _ _ _ h => h) (Or.inl ⟨by rfl, fun W hW => by go_simp <;> with_reducible rfl⟩) HS.out ?_
        go_simp
        refine wpAnyH_take (i := 17) (v := ?_) rfl (by kernel_rfl) (by kernel_rfl) (by kernel_rfl) (fun _ _ _ h => h) (Or.inl ⟨by rfl, fun W hW => by go_simp <;> with_reducible rfl⟩) HS.out ?_
        go_simp
        refine wpAnyH_done (by kernel_rfl) ?_ _
        go_wp2_with fail
        go_ret
        exact ⟨rfl, HS.out.1⟩
      · go_simp
        have hN := lv_bytes w4
        have hB := (Below.refl w4.heap.size w4).alloc (Nat.le_refl _) (.cells #[.int .u8 4, .int .u8 0, .int .u8 6, .int .u8 6, .int .u8 0] 5)
        have hS := HS.out.step hB
        clear HS hB
        generalize w4.alloc (.cells #[.int .u8 4, .int .u8 0, .int .u8 6, .int .u8 6, .int .u8 0] 5) = w5 at *
        generalize w4.heap.size = q5 at *
        have HN5 := Lib.hid hN; have HS := Lib.hid hS; clear hN hS
        refine hK.out _ _ HS.out (fun _ => ?_)
        clear hK K
        refine wpAnyH_weak (S' := LvB w ((.slice (some ⟨q5, 0, none⟩) 5 5, [4, 0, 6, 6, 0]) :: [(v2, [1]), (v1, [128, 1])])) (fun X h => h.tail) _ _ _ _ ?_
        have HS' := Lib.hid (HS.out.cons HN5.out)
        clear HS; have HS := HS'; clear HS'
        refine wpAnyH_take (i := 14) (v := _) rfl (by kernel_rfl) (by kernel_rfl) (by kernel_rfl) (fun _ _ _ h => h) (yieldsIf_conv (by rfl) _ rfl (.slice (some ⟨q5, 0, none⟩) 5 5) [4, 0, 6, 6, 0] { data := #[4, 0, 6, 6, 0] } rfl rfl (fun X h => h.2.2 (.slice (some ⟨q5, 0, none⟩) 5 5, [4, 0, 6, 6, 0]) (List.mem_cons_self))) HS.out ?_
        go_simp
        refine wpAnyH_ready (rs := [11]) (by kernel_rfl) (by simp) (AllReadyH.cons rfl (fun K hK => ?_) AllReadyH.nil)
        go_simp
        refine (putS0 w5 HS.out.2.1).mono ?_
        rintro e w6 ⟨v6, rfl, h6, hb6⟩
        dsimp only
        have HN6 : Hid (SBy w6 v6 [4, 0, 6, 6, 0]) := h6
        have HS' := Lib.hid (HS.out.step hb6)
        clear HS; have HS := HS'; clear HS'
        clear h6 hb6
        refine hK.out _ _ HS.out (fun _ => ?_)
        clear hK K
        refine wpAnyH_weak (S' := LvB w ((v6, [4, 0, 6, 6, 0]) :: [(.slice (some ⟨q5, 0, none⟩) 5 5, [4, 0, 6, 6, 0]), (v2, [1]), (v1, [128, 1])])) (fun X h => h.tail) _ _ _ _ ?_
        have HS' := Lib.hid (HS.out.cons HN6.out)
        clear HS; have HS := HS'; clear HS'
        refine wpAnyH_take (i := 12) (v := _) rfl (by kernel_rfl) (by kernel_rfl) (by kernel_rfl) (fun _ _ _ h => h) (yieldsIf_conv (by rfl) _ rfl (v6) [4, 0, 6, 6, 0] { data := #[4, 0, 6, 6, 0] } rfl rfl (fun X h => h.2.2 (v6, [4, 0, 6, 6, 0]) (List.mem_cons_self))) HS.out ?_
        go_simp
        refine wpAnyH_take (i := 15) (v := ?_) rfl (by kernel_rfl) (by kernel_rfl) (by kernel_rfl) (fun _ _ _ h => h) (Or.inl ⟨by rfl, fun W hW => by go_simp <;> with_reducible rfl⟩) HS.out ?_
        go_simp
        refine wpAnyH_take (i := 16) (v := ?_) rfl (by kernel_rfl) (by kernel_rfl) (by kernel_rfl) (fun _ _ _ h => h) (Or.inl ⟨by rfl, fun W hW => by go_simp <;> with_reducible rfl⟩) HS.out ?_
        go_simp
        refine wpAnyH_take (i := 17) (v := ?_) rfl (by kernel_rfl) (by kernel_rfl) (by kernel_rfl) (fun _ _ _ h => h) (Or.inl ⟨by rfl, fun W hW => by go_simp <;> with_reducible rfl⟩) HS.out ?_
        go_simp
        refine wpAnyH_done (by kernel_rfl) ?_ _
        go_wp2_with fail
        go_ret
        exact ⟨rfl, HS.out.1⟩
    · go_simp
      have hN := lv_bytes w3
      have hB := (Below.refl w3.heap.size w3).alloc (Nat.le_refl _) (.cells #[.int .u8 4, .int .u8 0, .int .u8 6, .int .u8 6, .int .u8 0] 5)
      have hS := HS.out.step hB
      have hI := HI.out.below hB
      clear HI
      clear HS hB
      generalize w3.alloc (.cells #[.int .u8 4, .int .u8 0, .int .u8 6, .int .u8 6, .int .u8 0] 5) = w4 at *
      generalize w3.heap.size = q4 at *
      have HN4 := Lib.hid hN; have HS := Lib.hid hS; clear hN hS
      have HI := Lib.hid hI; clear hI
      refine hK.out _ _ HS.out (fun _ => ?_)
      clear hK K
      refine wpAnyH_weak (S' := LvB w ((.slice (some ⟨q4, 0, none⟩) 5 5, [4, 0, 6, 6, 0]) :: [(v2, [1]), (v1, [128, 1])])) (fun X h => h.tail) _ _ _ _ ?_
      have HS' := Lib.hid (HS.out.cons HN4.out)
      clear HS; have HS := HS'; clear HS'
      refine wpAnyH_take (i := 14) (v := _) rfl (by kernel_rfl) (by kernel_rfl) (by kernel_rfl) (fun _ _ _ h => h) (yieldsIf_conv (by rfl) _ rfl (.slice (some ⟨q4, 0, none⟩) 5 5) [4, 0, 6, 6, 0] { data := #[4, 0, 6, 6, 0] } rfl rfl (fun X h => h.2.2 (.slice (some ⟨q4, 0, none⟩) 5 5, [4, 0, 6, 6, 0]) (List.mem_cons_self))) HS.out ?_
      go_simp
      refine wpAnyH_ready (rs := [10]) (by kernel_rfl) (by simp) (AllReadyH.cons rfl (fun K hK => ?_) AllReadyH.nil)
      go_simp
      refine (make_any z0 5 _ w4 (by omega) HI.out).mono ?_
      rintro e w5 ⟨rfl, hb5⟩
      dsimp only
      have HS' := Lib.hid (HS.out.step hb5)
      clear HS; have HS := HS'; clear HS' hb5
      refine hK.out _ _ HS.out (fun _ => ?_)
      clear hK K
      refine wpAnyH_ready (rs := [11]) (by kernel_rfl) (by simp) (AllReadyH.cons rfl (fun K hK => ?_) AllReadyH.nil)
      go_simp
      refine (putS0 w5 HS.out.2.1).mono ?_
      rintro e w6 ⟨v6, rfl, h6, hb6⟩
      dsimp only
      have HN6 : Hid (SBy w6 v6 [4, 0, 6, 6, 0]) := h6
      have HS' := Lib.hid (HS.out.step hb6)
      clear HS; have HS := HS'; clear HS'
      clear h6 hb6
      refine hK.out _ _ HS.out (fun _ => ?_)
      clear hK K
      refine wpAnyH_weak (S' := LvB w ((v6, [4, 0, 6, 6, 0]) :: [(.slice (some ⟨q4, 0, none⟩) 5 5, [4, 0, 6, 6, 0]), (v2, [1]), (v1, [128, 1])])) (fun X h => h.tail) _ _ _ _ ?_
      have HS' := Lib.hid (HS.out.cons HN6.out)
      clear HS; have HS := HS'; clear HS'
      refine wpAnyH_take (i := 12) (v := _) rfl (by kernel_rfl) (by kernel_rfl) (by kernel_rfl) (fun _ _ _ h => h) (yieldsIf_conv (by rfl) _ rfl (v6) [4, 0, 6, 6, 0] { data := #[4, 0, 6, 6, 0] } rfl rfl (fun X h => h.2.2 (v6, [4, 0, 6, 6, 0]) (List.mem_cons_self))) HS.out ?_
      go_simp
      refine wpAnyH_take (i := 15) (v := ?_) rfl (by kernel_rfl) (by kernel_rfl) (by kernel_rfl) (fun _ _ _ h => h) (Or.inl ⟨by rfl, fun W hW => by go_simp <;> with_reducible rfl⟩) HS.out ?_
      go_simp
      refine wpAnyH_take (i := 16) (v := ?_) rfl (by kernel_rfl) (by kernel_rfl) (by kernel_rfl) (fun _ _ _ h => h) (Or.inl ⟨by rfl, fun W hW => by go_simp <;> with_reducible rfl⟩) HS.out ?_
      go_simp
      refine wpAnyH_take (i := 17) (v := ?_) rfl (by kernel_rfl) (by kernel_rfl) (by kernel_rfl) (fun _ _ _ h => h) (Or.inl ⟨by rfl, fun W hW => by go_simp <;> with_reducible rfl⟩) HS.out ?_
      go_simp
      refine wpAnyH_done (by kernel_rfl) ?_ _
      go_wp2_with fail
      go_ret
      exact ⟨rfl, HS.out.1⟩
  · go_simp
    have hN := lv_bytes w2
    have hB := (Below.refl w2.heap.size w2).alloc (Nat.le_refl _) (.cells #[.int .u8 4, .int .u8 0, .int .u8 6, .int .u8 6, .int .u8 0] 5)
    have hS := HS.out.step hB
    clear HS hB
    generalize w2.alloc (.cells #[.int .u8 4, .int .u8 0, .int .u8 6, .int .u8 6, .int .u8 0] 5) = w3 at *
    generalize w2.heap.size = q3 at *
    have HN3 := Lib.hid hN; have HS := Lib.hid hS; clear hN hS
    refine hK.out _ _ HS.out (fun _ => ?_)
    clear hK K
    refine wpAnyH_weak (S' := LvB w ((.slice (some ⟨q3, 0, none⟩) 5 5, [4, 0, 6, 6, 0]) :: [(v2, [1]), (v1, [128, 1])])) (fun X h => h.tail) _ _ _ _ ?_
    have HS' := Lib.hid (HS.out.cons HN3.out)
    clear HS; have HS := HS'; clear HS'
    refine wpAnyH_take (i := 14) (v := _) rfl (by kernel_rfl) (by kernel_rfl) (by kernel_rfl) (fun _ _ _ h => h) (yieldsIf_conv (by rfl) _ rfl (.slice (some ⟨q3, 0, none⟩) 5 5) [4, 0, 6, 6, 0] { data := #[4, 0, 6, 6, 0] } rfl rfl (fun X h => h.2.2 (.slice (some ⟨q3, 0, none⟩) 5 5, [4, 0, 6, 6, 0]) (List.mem_cons_self))) HS.out ?_
    go_simp
    refine wpAnyH_ready (rs := [9]) (by kernel_rfl) (by simp) (AllReadyH.cons rfl (fun K hK => ?_) AllReadyH.nil)
    go_simp
    have hI := lv_intsB w3
    have hS := HS.out.step ((Below.refl w3.heap.size w3).alloc (Nat.le_refl _) (.cells #[.int .i64 0, .int .i64 1, .int .i64 2, .int .i64 3, .int .i64 8] 3))
    clear HS
    generalize w3.alloc (.cells #[.int .i64 0, .int .i64 1, .int .i64 2, .int .i64 3, .int .i64 8] 3) = w4 at *
    generalize w3.heap.size = q4 at *
    have HI := Lib.hid hI; have HS := Lib.hid hS; clear hI hS
    refine hK.out _ _ HS.out (fun _ => ?_)
    clear hK K
    refine wpAnyH_ready (rs := [10]) (by kernel_rfl) (by simp) (AllReadyH.cons rfl (fun K hK => ?_) AllReadyH.nil)
    go_simp
    refine (make_any z0 5 _ w4 (by omega) HI.out).mono ?_
    rintro e w5 ⟨rfl, hb5⟩
    dsimp only
    have HS' := Lib.hid (HS.out.step hb5)
    clear HS; have HS := HS'; clear HS' hb5
    refine hK.out _ _ HS.out (fun _ => ?_)
    clear hK K
    refine wpAnyH_ready (rs := [11]) (by kernel_rfl) (by simp) (AllReadyH.cons rfl (fun K hK => ?_) AllReadyH.nil)
    go_simp
    refine (putS0 w5 HS.out.2.1).mono ?_
    rintro e w6 ⟨v6, rfl, h6, hb6⟩
    dsimp only
    have HN6 : Hid (SBy w6 v6 [4, 0, 6, 6, 0]) := h6
    have HS' := Lib.hid (HS.out.step hb6)
    clear HS; have HS := HS'; clear HS'
    clear h6 hb6
    refine hK.out _ _ HS.out (fun _ => ?_)
    clear hK K
    refine wpAnyH_weak (S' := LvB w ((v6, [4, 0, 6, 6, 0]) :: [(.slice (some ⟨q3, 0, none⟩) 5 5, [4, 0, 6, 6, 0]), (v2, [1]), (v1, [128, 1])])) (fun X h => h.tail) _ _ _ _ ?_
    have HS' := Lib.hid (HS.out.cons HN6.out)
    clear HS; have HS := HS'; clear HS'
    refine wpAnyH_take (i := 12) (v := _) rfl (by kernel_rfl) (by kernel_rfl) (by kernel_rfl) (fun _ _ _ h => h) (yieldsIf_conv (by rfl) _ rfl (v6) [4, 0, 6, 6, 0] { data := #[4, 0, 6, 6, 0] } rfl rfl (fun X h => h.2.2 (v6, [4, 0, 6, 6, 0]) (List.mem_cons_self))) HS.out ?_
    go_simp
    refine wpAnyH_take (i := 15) (v := ?_) rfl (by kernel_rfl) (by kernel_rfl) (by kernel_rfl) (fun _ _ _ h => h) (Or.inl ⟨by rfl, fun W hW => by go_simp <;> with_reducible rfl⟩) HS.out ?_
    go_simp
    refine wpAnyH_take (i := 16) (v := ?_) rfl (by kernel_rfl) (by kernel_rfl) (by kernel_rfl) (fun _ _ _ h => h) (Or.inl ⟨by rfl, fun W hW => by go_simp <;> with_reducible rfl⟩) HS.out ?_
    go_simp
    refine wpAnyH_take (i := 17) (v := ?_) rfl (by kernel_rfl) (by kernel_rfl) (by kernel_rfl) (fun _ _ _ h => h) (Or.inl ⟨by rfl, fun W hW => by go_simp <;> with_reducible rfl⟩) HS.out ?_
    go_simp
    refine wpAnyH_done (by kernel_rfl) ?_ _
    go_wp2_with fail
    go_ret
    exact ⟨rfl, HS.out.1⟩

end Go.Proofs.YtchhenpijbecaaaDoor
