/- layer 31 (codec): CodecBack's walk. -/
import Derived.Test.YtchhenpijbecaaaDoorCu
import Derived.Test.YtchhenpijbecaaaDoorCv
import Derived.Test.YtchhenpijbecaaaDoorCm
namespace Go.Proofs.YtchhenpijbecaaaDoor
open Go.RowKit
set_option maxRecDepth 100000

set_option maxHeartbeats 16000000 in
theorem back31_any (A1 A2 A3 : Option Addr) (L1 L2 : List I5) (l3 : List UInt8) (n1 n2 n3 c1 c2 c3 : Nat) (h1 : L1.length = n1) (h2 : L2.length = n2) (h3 : l3.length = n3) (d1 : n1 ≤ c1) (d2 : n2 ≤ c2) (d3 : n3 ≤ c3)
    (f1 : ∀ x ∈ L1, Fit5 x) (f2 : ∀ x ∈ L2, Fit5 x) (w : World) (hT : Tabs w) (r1 : RowsV w.heap.size w A1 L1) (r2 : RowsV w.heap.size w A2 L2) (r3 : BysIn w.heap.size w A3 l3) :
    Calls Tryd.prog 6 #[.slice A1 n1 c1, .slice A2 n2 c2, .slice A3 n3 c3] w fun e w' => e = .returned (.bool true) ∧ Below w.heap.size w w' := by
  obtain ⟨i1, hi1⟩ : ∃ i1, (if 40 < (n1 : Int) then (40 : Int) else (n1 : Int)) = i1 := ⟨_, rfl⟩
  obtain ⟨i2, hi2⟩ : ∃ i2, (if 40 < (n2 : Int) then (40 : Int) else (n2 : Int)) = i2 := ⟨_, rfl⟩
  obtain ⟨i3, hi3⟩ : ∃ i3, (if 400 < (n3 : Int) then (400 : Int) else (n3 : Int)) = i3 := ⟨_, rfl⟩
  obtain ⟨n, hn⟩ : ∃ n : Nat, i1 = n := ⟨i1.toNat, by rw [← hi1]; split <;> omega⟩
  obtain ⟨m, hm⟩ : ∃ m : Nat, i2 = m := ⟨i2.toNat, by rw [← hi2]; split <;> omega⟩
  obtain ⟨k, hk⟩ : ∃ k : Nat, i3 = k := ⟨i3.toNat, by rw [← hi3]; split <;> omega⟩
  subst hn hm hk
  have zn : n = min n1 40 := by split at hi1 <;> omega
  have zm : m = min n2 40 := by split at hi2 <;> omega
  have zk : k = min n3 400 := by split at hi3 <;> omega
  obtain ⟨L, hL⟩ : ∃ L, L1.take n = L := ⟨_, rfl⟩
  obtain ⟨M, hM⟩ : ∃ M, L2.take m = M := ⟨_, rfl⟩
  obtain ⟨l, hl⟩ : ∃ l, l3.take k = l := ⟨_, rfl⟩
  have HN1 : Hid (L.length = n) := by show _ = _; rw [← hL, List.length_take]; omega
  have HN2 : Hid (M.length = m) := by show _ = _; rw [← hM, List.length_take]; omega
  have HN3 : Hid (l.length = k) := by show _ = _; rw [← hl, List.length_take]; omega
  have HF1 : Hid (∀ x ∈ L, Fit5 x) := fun x hx => f1 x (by rw [← hL] at hx; exact List.mem_of_mem_take hx)
  have HF2 : Hid (∀ x ∈ M, Fit5 x) := fun x hx => f2 x (by rw [← hM] at hx; exact List.mem_of_mem_take hx)
  have HRA : Hid (RowsV w.heap.size w A1 L) := by rw [← hL]; exact r1.take n
  have HRB : Hid (RowsV w.heap.size w A2 M) := by rw [← hM]; exact r2.take m
  have HRC : Hid (BysIn w.heap.size w A3 l) := by rw [← hl]; exact r3.take k
  have HT := Lib.hid hT
  have n40 : n ≤ 40 := by omega
  have m40 : m ≤ 40 := by omega
  have k400 : k ≤ 400 := by omega
  have q1 : n ≤ c1 := by omega
  have q2 : m ≤ c2 := by omega
  have q3 : k ≤ c3 := by omega
  clear hL hM hl hT r1 r2 r3 f1 f2 h1 h2 h3 zn zm zk
  go_enter Tryd.func6, Tryd.ntmps6
  go_upto_region 1 with fail
  refine wp_region_cls (by kernel_rfl) (by kernel_rfl) ?_
  repeat
    first
    | go_big_quiet_skip
    | (go_big_quiet_want
       first
       | (go_big_quiet_op
          first
          | go_big_quiet_on
          | (refine ⟨_, fun _ _ => rfl, ?_⟩; go_big_quiet_on)))
  refine wpQuiet_nil ?_
  intro w0 h0
  have HB0 := Lib.hid h0.bl
  clear h0 hi1 hi2 hi3
  obtain ⟨x7, hx7⟩ : ∃ x7, (fivesB L).length = x7 := ⟨_, rfl⟩
  obtain ⟨x8, hx8⟩ : ∃ x8, (fivesB M).length = x8 := ⟨_, rfl⟩
  have b7 : x7 ≤ 2000 := by have := fivesB_len L HF1.out; have := HN1.out; omega
  have b8 : x8 ≤ 2000 := by have := fivesB_len M HF2.out; have := HN2.out; omega
  have HX7 := Lib.hid hx7; have HX8 := Lib.hid hx8
  clear hx7 hx8
  have HE1 := Lib.hid (events_any A1 L n c1 HN1.out (by omega) HF1.out w0 ((HRA.out.below HB0.out).mono HB0.out.size))
  have HE2 : Hid (∀ X, Below w.heap.size w X → Calls Tryd.prog 21 #[.slice A2 m c2] X fun e w' => ∃ v, e = .returned v ∧ OwB X.heap.size w' v (fivesB M) ∧ Below X.heap.size X w') := fun X hX => events_any A2 M m c2 HN2.out (by omega) HF2.out X ((HRB.out.below hX).mono hX.size)
  go_upto_region 3 with (first
    | (go_at_call 21; (with_reducible refine HE1.out.mono ?_); rintro e w1 ⟨v7, rfl, g7, gb7⟩; obtain ⟨A7, c7, hv7, hc7, hB7⟩ := own_bys g7; rw [HX7.out] at hv7 hc7; subst hv7; have G7 := Lib.hid g7; have GB7 := Lib.hid gb7; have HB7 := Lib.hid hB7; clear g7 gb7 hB7)
    | (go_at_call 21; (with_reducible refine (HE2.out _ (HB0.out.trans (GB7.out.mono HB0.out.size))).mono ?_); rintro e w2 ⟨v8, rfl, g8, gb8⟩; obtain ⟨A8, c8, hv8, hc8, hB8⟩ := own_bys g8; rw [HX8.out] at hv8 hc8; subst hv8; have G8 := Lib.hid g8; have GB8 := Lib.hid gb8; clear g8 gb8 hB8))
  have HB2 := Lib.hid (HB0.out.trans ((GB7.out.mono HB0.out.size).trans (GB8.out.mono (Nat.le_trans HB0.out.size GB7.out.size))))
  have hp9 := peV_any A7 (fivesB L) x7 c7 HX7.out hc7 (by omega) w2 ((HB7.out.below GB8.out).mono GB8.out.size)
  rw [parseAll_fivesB L HF1.out] at hp9
  have HP9 := Lib.hid hp9
  clear hp9 HE1 HE2
  go_upto_region 4 with (go_at_call 19; (with_reducible refine HP9.out.mono ?_); rintro e w3 ⟨v9, rfl, g9, gb9⟩; obtain ⟨A9, c9, hv9, hc9, hR9⟩ := own5V g9; rw [HN1.out] at hv9; subst hv9; have GB9 := Lib.hid gb9; have HR9 := Lib.hid hR9; clear g9 gb9 hR9 hc9)
  have HBW := Lib.hid (HB2.out.trans (GB9.out.mono HB2.out.size))
  have HS7 : Hid (SBy w3 (.slice A7 x7 c7) (fivesB L)) := own_on (own_on (own_mono G7.out (Nat.zero_le _)) GB8.out) GB9.out
  have HS8 : Hid (SBy w3 (.slice A8 x8 c8) (fivesB M)) := own_on (own_mono G8.out (Nat.zero_le _)) GB9.out
  have HTW := Lib.hid (HT.out.on HBW.out)
  have HR1 : Hid (RowsV w3.heap.size w3 A1 L) := (HRA.out.below HBW.out).mono HBW.out.size
  have HR2 : Hid (RowsV w3.heap.size w3 A2 M) := (HRB.out.below HBW.out).mono HBW.out.size
  have HB3 : Hid (BysIn w3.heap.size w3 A3 l) := (HRC.out.below HBW.out).mono HBW.out.size
  clear HP9 G7 G8 GB7 GB8 GB9 HB7 HB2 HB0 HRA HRB HRC HT
  generalize w3 = W at *
  obtain ⟨R, hR⟩ : ∃ R, decide (L = M) = R := ⟨_, rfl⟩
  have HRR := Lib.hid hR
  obtain ⟨X1, hX1⟩ : ∃ X1 : ByteArray, ⟨(fivesB L).toArray⟩ = X1 := ⟨_, rfl⟩
  obtain ⟨X2, hX2⟩ : ∃ X2 : ByteArray, ⟨(fivesB M).toArray⟩ = X2 := ⟨_, rfl⟩
  have teq : (X1.toList == X2.toList) = R := by
    rw [← hR, ← hX1, ← hX2, ByteArray.toList_eq, ByteArray.toList_eq, Bool.eq_iff_iff, beq_iff_eq, decide_eq_true_eq]
    exact ⟨fun h => fivesB_inj HF1.out HF2.out h, fun h => by rw [h]⟩
  have HX1 := Lib.hid hX1; have HX2 := Lib.hid hX2
  clear hR hX1 hX2
  have HS : Hid (LvB W [(.slice A7 x7 c7, fivesB L), (.slice A8 x8 c8, fivesB M)] W.drew) := ⟨(Below.refl _ _).drew, HTW.out.on (Below.refl _ _).drew, fun y hy => by
    simp only [List.mem_cons, List.not_mem_nil, or_false] at hy
    rcases hy with rfl | rfl
    · exact HS7.out.below (Below.refl _ _).drew
    · exact HS8.out.below (Below.refl _ _).drew⟩
  refine wp_region_held_drew (S := LvB W [(.slice A7 x7 c7, fivesB L), (.slice A8 x8 c8, fivesB M)]) (by kernel_rfl) HS.out (fun _ => ?_)
  show wpAnyH _ _ _ _ _ _ _ _ _
  refine wpAnyH_take (i := 0) (v := ?_) rfl (by kernel_rfl) (by kernel_rfl) (by kernel_rfl) (fun _ _ _ h => h) (Or.inl ⟨by rfl, fun W hW => by go_simp <;> with_reducible rfl⟩) HS.out ?_
  go_simp
  refine wpAnyH_take (i := 1) (v := ?_) rfl (by kernel_rfl) (by kernel_rfl) (by kernel_rfl) (fun _ _ _ h => h) (Or.inl ⟨by rfl, fun W hW => by go_simp <;> with_reducible rfl⟩) HS.out ?_
  go_simp
  refine wpAnyH_take (i := 2) (v := ?_) rfl (by kernel_rfl) (by kernel_rfl) (by kernel_rfl) (fun _ _ _ h => h) (Or.inl ⟨by rfl, fun W hW => by go_simp <;> with_reducible rfl⟩) HS.out ?_
  go_simp
  refine wpAnyH_take (i := 3) (v := ?_) rfl (by kernel_rfl) (by kernel_rfl) (by kernel_rfl) (fun _ _ _ h => h) (Or.inl ⟨by rfl, fun W hW => by go_simp <;> with_reducible rfl⟩) HS.out ?_
  go_simp
  refine wpAnyH_take (i := 4) (v := ?_) rfl (by kernel_rfl) (by kernel_rfl) (by kernel_rfl) (fun _ _ _ h => h) (Or.inl ⟨by rfl, fun W hW => by go_simp <;> with_reducible rfl⟩) HS.out ?_
  go_simp
  refine wpAnyH_ready (rs := [5]) (by kernel_rfl) (by simp) (AllReadyH.cons rfl (fun K hK => ?_) AllReadyH.nil)
  go_simp
  refine (same5V_any A9 A1 L L n n c9 c1 _ ((HR9.out.below HS.out.1).mono HS.out.1.size) ((HR1.out.below HS.out.1).mono HS.out.1.size) HN1.out HN1.out (by omega) HF1.out HF1.out).mono ?_
  rintro e wa ⟨rfl, hba⟩
  dsimp only
  have HS' := Lib.hid (HS.out.step hba)
  clear HS; have HS := HS'; clear HS'
  clear hba
  refine hK.out _ _ HS.out (fun _ => ?_)
  clear hK K
  rw [show decide (L = L) = true from decide_eq_true rfl]
  refine wpAnyH_take (i := 6) (v := ?_) rfl (by kernel_rfl) (by kernel_rfl) (by kernel_rfl) (fun _ _ _ h => h) (Or.inl ⟨by rfl, fun W hW => by go_simp <;> with_reducible rfl⟩) HS.out ?_
  go_simp
  refine wpAnyH_take (i := 7) (v := ?_) rfl (by kernel_rfl) (by kernel_rfl) (by kernel_rfl) (fun _ _ _ h => h) (Or.inl ⟨by rfl, fun W hW => by go_simp <;> with_reducible rfl⟩) HS.out ?_
  go_simp
  refine wpAnyH_take (i := 8) (v := ?_) rfl (by kernel_rfl) (by kernel_rfl) (by kernel_rfl) (fun _ _ _ h => h) (Or.inl ⟨by rfl, fun W hW => by go_simp <;> with_reducible rfl⟩) HS.out ?_
  go_simp
  refine wpAnyH_take (i := 9) (v := ?_) rfl (by kernel_rfl) (by kernel_rfl) (by kernel_rfl) (fun _ _ _ h => h) (Or.inl ⟨by rfl, fun W hW => by go_simp <;> with_reducible rfl⟩) HS.out ?_
  go_simp
  refine wpAnyH_take (i := 10) (v := _) rfl (by kernel_rfl) (by kernel_rfl) (by kernel_rfl) (fun _ _ _ h => h) (yieldsIf_convR (by rfl) _ rfl (.slice A7 x7 c7) X1 rfl (fun X h => by rw [← HX1.out]; exact conv_own (h.2.2 (.slice A7 x7 c7, fivesB L) List.mem_cons_self))) HS.out ?_
  go_simp
  refine wpAnyH_take (i := 11) (v := ?_) rfl (by kernel_rfl) (by kernel_rfl) (by kernel_rfl) (fun _ _ _ h => h) (Or.inl ⟨by rfl, fun W hW => by go_simp <;> with_reducible rfl⟩) HS.out ?_
  go_simp
  refine wpAnyH_take (i := 12) (v := _) rfl (by kernel_rfl) (by kernel_rfl) (by kernel_rfl) (fun _ _ _ h => h) (yieldsIf_convR (by rfl) _ rfl (.slice A8 x8 c8) X2 rfl (fun X h => by rw [← HX2.out]; exact conv_own (h.2.2 (.slice A8 x8 c8, fivesB M) (by simp)))) HS.out ?_
  go_simp
  refine wpAnyH_take (i := 13) (v := ?_) rfl (by kernel_rfl) (by kernel_rfl) (by kernel_rfl) (fun _ _ _ h => h) (Or.inl ⟨by rfl, fun W hW => by go_simp <;> with_reducible rfl⟩) HS.out ?_
  go_simp
  refine wpAnyH_take (i := 14) (v := ?_) rfl (by kernel_rfl) (by kernel_rfl) (by kernel_rfl) (fun _ _ _ h => h) (Or.inl ⟨by rfl, fun W hW => by go_simp <;> with_reducible rfl⟩) HS.out ?_
  go_simp
  refine wpAnyH_take (i := 15) (v := ?_) rfl (by kernel_rfl) (by kernel_rfl) (by kernel_rfl) (fun _ _ _ h => h) (Or.inl ⟨by rfl, fun W hW => by go_simp <;> with_reducible rfl⟩) HS.out ?_
  go_simp
  refine wpAnyH_ready (rs := [16]) (by kernel_rfl) (by simp) (AllReadyH.cons rfl (fun K hK => ?_) AllReadyH.nil)
  go_simp
  refine (same5V_any A1 A2 L M n m c1 c2 _ ((HR1.out.below HS.out.1).mono HS.out.1.size) ((HR2.out.below HS.out.1).mono HS.out.1.size) HN1.out HN2.out (by omega) HF1.out HF2.out).mono ?_
  rintro e wb ⟨rfl, hbb⟩
  dsimp only
  have HS' := Lib.hid (HS.out.step hbb)
  clear HS; have HS := HS'; clear HS'
  clear hbb
  refine hK.out _ _ HS.out (fun _ => ?_)
  clear hK K
  rw [HRR.out]
  refine wpAnyH_take (i := 17) (v := ?_) rfl (by kernel_rfl) (by kernel_rfl) (by kernel_rfl) (fun _ _ _ h => h) (Or.inl ⟨by rfl, fun W hW => by go_simp <;> with_reducible rfl⟩) HS.out ?_
  go_simp
  refine wpAnyH_take (i := 18) (v := ?_) rfl (by kernel_rfl) (by kernel_rfl) (by kernel_rfl) (fun _ _ _ h => h) (Or.inl ⟨by rfl, fun W hW => by go_simp <;> with_reducible rfl⟩) HS.out ?_
  go_simp
  refine wpAnyH_done (by kernel_rfl) ?_ _
  have HS4 := HS
  clear HS
  clear teq HX1 HX2 HS7 HS8 HR9 HR1 HR2
  have HB4 := Lib.hid HS4.out.1
  have HT4 := Lib.hid HS4.out.2.1
  clear HS4
  have HBY4 : Hid (BysIn wb.heap.size wb A3 l) := (HB3.out.below HB4.out).mono HB4.out.size
  obtain ⟨P, bad, hpb⟩ : ∃ P bad, parseAll l = (P, bad) := ⟨_, _, rfl⟩
  have hback := parseAll_back l P bad hpb
  have hp5 := peV_any A3 l k c3 HN3.out q3 (by omega) wb HBY4.out
  have hp6 : ∀ X, Below wb.heap.size wb X → Calls Tryd.prog 20 #[.slice A3 k c3] X fun e w' => ∃ v, e = .returned (.tuple #[v, .int .i64 (parseAll l).2]) ∧ OwnN X.heap.size w' v (parseAll l).1 ∧ Below X.heap.size X w' := fun X hX => peN_any A3 l k c3 HN3.out q3 (by omega) X ((HBY4.out.below hX).mono hX.size)
  rw [hpb] at hp5 hp6
  have HP5 := Lib.hid hp5; have HP6 := Lib.hid hp6
  have HBK := Lib.hid hback
  obtain ⟨p, hp⟩ : ∃ p, P.length = p := ⟨_, rfl⟩
  have HNP := Lib.hid hp
  clear hp5 hp6 hback hpb hp
  go_upto_region 8 with (first
    | (go_at_call 19; (with_reducible refine HP5.out.mono ?_); rintro e w5 ⟨v11, rfl, g11, gb11⟩; obtain ⟨A11, c11, hv11, hc11, hR11⟩ := own5V g11; rw [HNP.out] at hv11; subst hv11; have GB11 := Lib.hid gb11; have HR11 := Lib.hid hR11; clear g11 gb11 hR11 hc11)
    | (go_at_call 20; (with_reducible refine (HP6.out _ GB11.out).mono ?_); rintro e w6 ⟨v12, rfl, g12, gb12⟩; obtain ⟨A12, c12, hv12, hc12, hR12⟩ := own5N g12; rw [HNP.out] at hv12; subst hv12; have GB12 := Lib.hid gb12; have HR12 := Lib.hid hR12; clear g12 gb12 hR12 hc12))
  have HR11' : Hid (RowsV w6.heap.size w6 A11 P) := (HR11.out.below GB12.out).mono GB12.out.size
  have HVW0 := Lib.hid (HB4.out.trans ((GB11.out.mono HB4.out.size).trans (GB12.out.mono (Nat.le_trans HB4.out.size GB11.out.size))))
  have HVW := Lib.hid (HBW.out.trans (HVW0.out.mono HBW.out.size))
  have HTV := Lib.hid (HTW.out.on HVW0.out)
  have HBV : Hid (BysIn w6.heap.size w6 A3 l) := (HB3.out.below HVW0.out).mono HVW0.out.size
  clear HP5 HP6 HR11
  have HR11 := HR11'
  clear HR11' GB11 GB12 HVW0 HB4 HT4 HBY4 HB3 HTW HBW
  generalize w6 = V at *
  rcases HBK.out with ⟨rfl, hfp, hlp⟩ | ⟨hP, hb0, hbl⟩
  · have HFP := Lib.hid hfp
    obtain ⟨X3, hX3⟩ : ∃ X3 : ByteArray, ⟨(fivesB P).toArray⟩ = X3 := ⟨_, rfl⟩
    have HX3 := Lib.hid hX3
    have HLP := Lib.hid hlp
    have hpk : p ≤ 400 := by have := fives_many P; rw [← hlp, HN3.out, HNP.out] at this; omega
    clear hfp hlp hX3 HBK
    have HS : Hid (LvB V [] V.drew) := ⟨(Below.refl _ _).drew, HTV.out.on (Below.refl _ _).drew, fun y hy => by cases hy⟩
    go_upto_region 12 with fail
    refine wp_region_held_drew (S := LvB V []) (by kernel_rfl) HS.out (fun _ => ?_)
    show wpAnyH _ _ _ _ _ _ _ _ _
    refine wpAnyH_take (i := 0) (v := ?_) rfl (by kernel_rfl) (by kernel_rfl) (by kernel_rfl) (fun _ _ _ h => h) (Or.inl ⟨by rfl, fun W hW => by go_simp <;> with_reducible rfl⟩) HS.out ?_
    go_simp
    refine wpAnyH_take (i := 3) (v := ?_) rfl (by kernel_rfl) (by kernel_rfl) (by kernel_rfl) (fun _ _ _ h => h) (Or.inl ⟨by rfl, fun W hW => by go_simp <;> with_reducible rfl⟩) HS.out ?_
    go_simp
    refine wpAnyH_take (i := 4) (v := _) rfl (by kernel_rfl) (by kernel_rfl) (by kernel_rfl) (fun _ _ _ h => h) (yieldsIf_convR (by rfl) _ rfl (.slice A3 k c3) X3 rfl (fun X h => by rw [← HX3.out, ← HLP.out]; exact conv_in (HBV.out.below h.1) HN3.out)) HS.out ?_
    go_simp
    refine wpAnyH_ready (rs := [1]) (by kernel_rfl) (by simp) (AllReadyH.cons rfl (fun K hK => ?_) AllReadyH.nil)
    go_simp
    refine (events_any A11 P p c11 HNP.out (by omega) HFP.out _ ((HR11.out.below HS.out.1).mono HS.out.1.size)).mono ?_
    rintro e wc ⟨vc, rfl, hc1, hbc⟩
    dsimp only
    have HNC : Hid (SBy wc vc (fivesB P)) := own_mono hc1 (Nat.zero_le _)
    have HS' := Lib.hid (HS.out.step hbc)
    clear HS; have HS := HS'; clear HS'
    clear hc1 hbc
    refine hK.out _ _ HS.out (fun _ => ?_)
    clear hK K
    refine wpAnyH_weak (S' := LvB V ((vc, fivesB P) :: [])) (fun X h => h.tail) _ _ _ _ ?_
    have HS' := Lib.hid (HS.out.cons HNC.out)
    clear HS; have HS := HS'; clear HS'
    refine wpAnyH_take (i := 2) (v := _) rfl (by kernel_rfl) (by kernel_rfl) (by kernel_rfl) (fun _ _ _ h => h) (yieldsIf_convR (by rfl) _ rfl vc X3 rfl (fun X h => by rw [← HX3.out]; exact conv_own (h.2.2 (vc, fivesB P) List.mem_cons_self))) HS.out ?_
    go_simp
    refine wpAnyH_take (i := 5) (v := ?_) rfl (by kernel_rfl) (by kernel_rfl) (by kernel_rfl) (fun _ _ _ h => h) (Or.inl ⟨by rfl, fun W hW => by go_simp <;> with_reducible rfl⟩) HS.out ?_
    go_simp
    refine wpAnyH_take (i := 6) (v := ?_) rfl (by kernel_rfl) (by kernel_rfl) (by kernel_rfl) (fun _ _ _ h => h) (Or.inl ⟨by rfl, fun W hW => by go_simp <;> with_reducible rfl⟩) HS.out ?_
    go_simp
    refine wpAnyH_take (i := 7) (v := ?_) rfl (by kernel_rfl) (by kernel_rfl) (by kernel_rfl) (fun _ _ _ h => h) (Or.inl ⟨by rfl, fun W hW => by go_simp <;> with_reducible rfl⟩) HS.out ?_
    go_simp
    refine wpAnyH_take (i := 10) (v := ?_) rfl (by kernel_rfl) (by kernel_rfl) (by kernel_rfl) (fun _ _ _ h => h) (Or.inl ⟨by rfl, fun W hW => by go_simp <;> with_reducible rfl⟩) HS.out ?_
    go_simp
    refine wpAnyH_take (i := 11) (v := _) rfl (by kernel_rfl) (by kernel_rfl) (by kernel_rfl) (fun _ _ _ h => h) (yieldsIf_convR (by rfl) _ rfl (.slice A3 k c3) X3 rfl (fun X h => by rw [← HX3.out, ← HLP.out]; exact conv_in (HBV.out.below h.1) HN3.out)) HS.out ?_
    go_simp
    refine wpAnyH_ready (rs := [8]) (by kernel_rfl) (by simp) (AllReadyH.cons rfl (fun K hK => ?_) AllReadyH.nil)
    go_simp
    refine (entries_any A12 P p c12 HNP.out (by omega) HFP.out _ ((HR12.out.below HS.out.1).mono HS.out.1.size)).mono ?_
    rintro e wd ⟨vd, rfl, hd1, hbd⟩
    dsimp only
    have HND : Hid (SBy wd vd (fivesB P)) := own_mono hd1 (Nat.zero_le _)
    have HS' := Lib.hid (HS.out.step hbd)
    clear HS; have HS := HS'; clear HS'
    clear hd1 hbd
    refine hK.out _ _ HS.out (fun _ => ?_)
    clear hK K
    refine wpAnyH_weak (S' := LvB V ((vd, fivesB P) :: [(vc, fivesB P)])) (fun X h => h.tail) _ _ _ _ ?_
    have HS' := Lib.hid (HS.out.cons HND.out)
    clear HS; have HS := HS'; clear HS'
    refine wpAnyH_take (i := 9) (v := _) rfl (by kernel_rfl) (by kernel_rfl) (by kernel_rfl) (fun _ _ _ h => h) (yieldsIf_convR (by rfl) _ rfl vd X3 rfl (fun X h => by rw [← HX3.out]; exact conv_own (h.2.2 (vd, fivesB P) List.mem_cons_self))) HS.out ?_
    go_simp
    refine wpAnyH_take (i := 12) (v := ?_) rfl (by kernel_rfl) (by kernel_rfl) (by kernel_rfl) (fun _ _ _ h => h) (Or.inl ⟨by rfl, fun W hW => by go_simp <;> with_reducible rfl⟩) HS.out ?_
    go_simp
    refine wpAnyH_take (i := 13) (v := ?_) rfl (by kernel_rfl) (by kernel_rfl) (by kernel_rfl) (fun _ _ _ h => h) (Or.inl ⟨by rfl, fun W hW => by go_simp <;> with_reducible rfl⟩) HS.out ?_
    go_simp
    refine wpAnyH_take (i := 14) (v := ?_) rfl (by kernel_rfl) (by kernel_rfl) (by kernel_rfl) (fun _ _ _ h => h) (Or.inl ⟨by rfl, fun W hW => by go_simp <;> with_reducible rfl⟩) HS.out ?_
    go_simp
    refine wpAnyH_ready (rs := [15]) (by kernel_rfl) (by simp) (AllReadyH.cons rfl (fun K hK => ?_) AllReadyH.nil)
    go_simp
    refine (lives31_any _ HS.out.2.1).mono ?_
    rintro e we ⟨rfl, hbe⟩
    dsimp only
    have HS' := Lib.hid (HS.out.step hbe)
    clear HS; have HS := HS'; clear HS'
    clear hbe
    refine hK.out _ _ HS.out (fun _ => ?_)
    clear hK K
    refine wpAnyH_take (i := 16) (v := ?_) rfl (by kernel_rfl) (by kernel_rfl) (by kernel_rfl) (fun _ _ _ h => h) (Or.inl ⟨by rfl, fun W hW => by go_simp <;> with_reducible rfl⟩) HS.out ?_
    go_simp
    refine wpAnyH_take (i := 17) (v := ?_) rfl (by kernel_rfl) (by kernel_rfl) (by kernel_rfl) (fun _ _ _ h => h) (Or.inl ⟨by rfl, fun W hW => by go_simp <;> with_reducible rfl⟩) HS.out ?_
    go_simp
    refine wpAnyH_done (by kernel_rfl) ?_ _
    go_wp2_with fail
    go_ret
    exact ⟨rfl, HVW.out.trans (HS.out.1.mono HVW.out.size)⟩
  · have hp0 : p = 0 := by rw [← HNP.out, hP]; rfl
    have hbk : bad < (k : Int) := by rw [← HN3.out]; exact hbl
    subst hp0
    clear hP hbl HBK
    go_wp2_with (go_at_call 11; (with_reducible refine (lives31_any _ HTV.out).mono ?_); rintro e w7 ⟨rfl, hb7⟩; have HB7 := Lib.hid hb7; clear hb7)
    go_ret
    exact ⟨rfl, HVW.out.trans (HB7.out.mono HVW.out.size)⟩
end Go.Proofs.YtchhenpijbecaaaDoor
