/- layer 31 (codec): CodecRows' walk. -/
import Derived.Test.YtchhenpijbecaaaDoorCw
import Derived.Test.YtchhenpijbecaaaDoorDa
import Derived.Test.YtchhenpijbecaaaDoorDc
namespace Go.Proofs.YtchhenpijbecaaaDoor
open Go.RowKit
set_option maxRecDepth 100000

set_option maxHeartbeats 32000000 in
theorem rows31_any (A1 A2 A3 : Option Addr) (L1 L2 : List I5) (l3 : List UInt8) (n1 n2 n3 c1 c2 c3 : Nat) (h1 : L1.length = n1) (h2 : L2.length = n2) (h3 : l3.length = n3) (d1 : n1 ≤ c1) (d2 : n2 ≤ c2) (d3 : n3 ≤ c3)
    (f1 : ∀ x ∈ L1, Fit5 x) (f2 : ∀ x ∈ L2, Fit5 x) (w : World) (hT : Tabs w) (r1 : RowsV w.heap.size w A1 L1) (r2 : RowsN w.heap.size w A2 L2) (r3 : BysIn w.heap.size w A3 l3) :
    Calls Tryd.prog 5 #[.slice A1 n1 c1, .slice A2 n2 c2, .slice A3 n3 c3] w fun e w' => e = .returned (.bool true) ∧ Below w.heap.size w w' := by
  obtain ⟨i1, hi1⟩ : ∃ i1, (if 40 < (n1 : Int) then (40 : Int) else (n1 : Int)) = i1 := ⟨_, rfl⟩
  obtain ⟨i2, hi2⟩ : ∃ i2, (if 40 < (n2 : Int) then (40 : Int) else (n2 : Int)) = i2 := ⟨_, rfl⟩
  obtain ⟨i3, hi3⟩ : ∃ i3, (if 400 < (n3 : Int) then (400 : Int) else (n3 : Int)) = i3 := ⟨_, rfl⟩
  obtain ⟨n, hn⟩ : ∃ n : Nat, i1 = n := ⟨i1.toNat, by rw [← hi1]; split <;> omega⟩
  obtain ⟨m, hm⟩ : ∃ m : Nat, i2 = m := ⟨i2.toNat, by rw [← hi2]; split <;> omega⟩
  obtain ⟨k, hk⟩ : ∃ k : Nat, i3 = k := ⟨i3.toNat, by rw [← hi3]; split <;> omega⟩
  subst hn hm hk
  have zn : n = min n1 40 := by split at hi1 <;> omega
  have zm : m = min n2 40 := by split at hi2 <;> omega
  have zk : k = min n3 400 := by split at hi3 <;> omega
  obtain ⟨L, hL⟩ : ∃ L, L1.take n = L := ⟨_, rfl⟩
  obtain ⟨M, hM⟩ : ∃ M, L2.take m = M := ⟨_, rfl⟩
  obtain ⟨l, hl⟩ : ∃ l, l3.take k = l := ⟨_, rfl⟩
  have HN1 : Hid (L.length = n) := by show _ = _; rw [← hL, List.length_take]; omega
  have HN2 : Hid (M.length = m) := by show _ = _; rw [← hM, List.length_take]; omega
  have HN3 : Hid (l.length = k) := by show _ = _; rw [← hl, List.length_take]; omega
  have HF1 : Hid (∀ x ∈ L, Fit5 x) := fun x hx => f1 x (by rw [← hL] at hx; exact List.mem_of_mem_take hx)
  have HF2 : Hid (∀ x ∈ M, Fit5 x) := fun x hx => f2 x (by rw [← hM] at hx; exact List.mem_of_mem_take hx)
  have HRA : Hid (RowsV w.heap.size w A1 L) := by rw [← hL]; exact r1.take n
  have HRB : Hid (RowsN w.heap.size w A2 M) := by rw [← hM]; exact r2.take m
  have HRC : Hid (BysIn w.heap.size w A3 l) := by rw [← hl]; exact r3.take k
  have HT := Lib.hid hT
  have n40 : n ≤ 40 := by omega
  have m40 : m ≤ 40 := by omega
  have k400 : k ≤ 400 := by omega
  have q1 : n ≤ c1 := by omega
  have q2 : m ≤ c2 := by omega
  have q3 : k ≤ c3 := by omega
  clear hL hM hl hT r1 r2 r3 f1 f2 h1 h2 h3 zn zm zk
  go_enter Tryd.func5, Tryd.ntmps5
  go_upto_region 1 with fail
  refine wp_region_cls (by kernel_rfl) (by kernel_rfl) ?_
  repeat
    first
    | go_big_quiet_skip
    | (go_big_quiet_want
       first
       | (go_big_quiet_op
          first
          | go_big_quiet_on
          | (refine ⟨_, fun _ _ => rfl, ?_⟩; go_big_quiet_on)))
  refine wpQuiet_nil ?_
  intro w0 h0
  have HB0 := Lib.hid h0.bl
  clear h0 hi1 hi2 hi3
  go_wp2_with fail
  have HERV : Hid (∀ X, Below w0.heap.size w0 X → RowsV w.heap.size X A1 L) := fun X hX => HRA.out.below (HB0.out.trans (hX.mono HB0.out.size))
  go_loopw [7, 38] (fun s iv wr => ∃ (k : Nat) (X : ByteArray), iv = .int .i64 k ∧ k ≤ n ∧ s = .string X ∧ X = ⟨(fivesB (L.take k)).toArray⟩ ∧ Below w0.heap.size w0 wr) (fun _ iv _ => n - (intOf iv).toNat)
  case atStart => exact ⟨0, ⟨#[]⟩, rfl, Nat.zero_le _, rfl, by simp [fivesB], Below.refl _ _⟩
  case round =>
    obtain ⟨i, X, rfl, hk, rfl, hX, hb⟩ := hrel
    have HXX := Lib.hid hX; have HBR := Lib.hid hb
    clear hX hb
    by_cases hlt : i < n
    · obtain ⟨x, hx⟩ : ∃ x, L[i]? = some x := ⟨_, List.getElem?_eq_getElem (by rw [HN1.out]; omega)⟩
      obtain ⟨b, o, rfl, -, hr⟩ := (HERV.out wr HBR.out) i x hx
      have HRG := Lib.hid hr
      have HID : Hid ((Tryd.prog.info? 42).map (·.size) = some (clV x).length) := by show _ = _; rw [info5V, clV_len]
      have k0 : (0 : Int) ≤ (i : Int) := by omega
      have k1 : (i : Int) < (n : Int) := by omega
      have HFX := Lib.hid (HF1.out x (List.mem_of_getElem? hx))
      have HE : Hid (fivesB (L.take (i + 1)) = fivesB (L.take i) ++ fiveB x) := by
        show _ = _
        have hkl : i < L.length := (List.getElem?_eq_some_iff.1 hx).1
        rw [List.take_succ_eq_append_getElem hkl, fivesB_app, (List.getElem?_eq_some_iff.1 hx).2]
        simp [fivesB]
      have HLN := Lib.hid (fivesB_len (L.take i) fun y hy => HF1.out y (List.mem_of_mem_take hy))
      have HTL := Lib.hid (show (L.take i).length ≤ 40 by rw [List.length_take]; omega)
      have HL5 := Lib.hid (fiveB_len HFX.out)
      clear hr hx
      go_upto_region 6 with (first
        | (with_reducible (show wpList _ _ _ _ _ _); refine wpList_load_mid rfl 42 (.tmp 40) rfl b (o + i * 5) rfl (clV x) _ HRG.out Tryd.underlying42 rfl HID.out ?_)
        | (with_reducible (show wpList _ _ _ _ _ _); refine st5V rfl (.tmp 10) (.tmp 41) rfl wr.heap.size rfl rfl _ (Blk.new wr _ _) rfl ?_))
      have hbx : Blk ((wr.alloc (.cells #[.int .i64 0, .int .i64 0, .int .i64 0, .int .i64 0, .int .i64 0] 42)).setRow wr.heap.size (clV x).toArray) wr.heap.size 42 (clV x).toArray := setRow_heap _ _ _ _ _ _ (Blk.new wr _ _)
      have hbw : Below wr.heap.size wr ((wr.alloc (.cells #[.int .i64 0, .int .i64 0, .int .i64 0, .int .i64 0, .int .i64 0] 42)).setRow wr.heap.size (clV x).toArray) := (((But.of_below (X := fun k => wr.heap.size ≤ k) (Below.refl _ _)).alloc _).row _ _ (.inl (Nat.le_refl _))).below (Nat.le_refl _) fun k _ z => z
      generalize (wr.alloc (.cells #[.int .i64 0, .int .i64 0, .int .i64 0, .int .i64 0, .int .i64 0] 42)).setRow wr.heap.size (clV x).toArray = V at *
      have HBV := Lib.hid (HBR.out.trans (hbw.mono HBR.out.size))
      clear hbw HRG
      generalize wr.heap.size = g at *
      have HRV : Hid (V.rangeAt g 0 (clV x)) := fun j u hj => by
        rw [Nat.zero_add, hbx.cell, List.getElem?_toArray]; exact hj
      clear hbx
      obtain ⟨E, hE⟩ : ∃ E : ByteArray, ⟨(fiveB x).toArray⟩ = E := ⟨_, rfl⟩
      obtain ⟨X', hX'⟩ : ∃ X' : ByteArray, ⟨(fivesB (L.take (i + 1))).toArray⟩ = X' := ⟨_, rfl⟩
      have HEE := Lib.hid hE; have HX' := Lib.hid hX'
      have sadd : ∀ Y, (Op.stringOp .add X E).run Tryd.prog Y = .ok (.string X') Y := fun Y => by
        rw [HXX.out, ← hE, ← hX', HE.out]
        exact str_add _ _ (by have := HLN.out; have := HTL.out; have := HL5.out; omega) Y
      clear hE hX'
      go_wp2_with (first
        | (with_reducible (show wpList _ _ _ _ _ _); refine wpList_load_mid rfl 42 (.tmp 10) rfl g 0 rfl (clV x) _ HRV.out Tryd.underlying42 rfl HID.out ?_)
        | (go_at_call 15; (with_reducible refine (ref5V_any x HFX.out V).mono ?_); rintro e w4 ⟨v4, rfl, h4, hb4⟩; have cv := conv_own h4; rw [HEE.out] at cv; have HB4 := Lib.hid hb4; clear h4 hb4))
      go_roundw
      case rel => exact ⟨i + 1, X', by go_num, by omega, rfl, HX'.out.symm, HBV.out.trans (HB4.out.mono HBV.out.size)⟩
      case measure => simp [intOf]; omega
    · obtain rfl : n = i := by omega
      have k1 : ¬ (n : Int) < (n : Int) := by omega
      have HXL : Hid (⟨(fivesB L).toArray⟩ = X) := by
        show _ = _
        rw [HXX.out]; congr 3; rw [← HN1.out]; exact List.take_length.symm
      clear HXX
      have HX1 := HXL
      have HBR1 := HBR
      clear HBR
      go_wp2_with fail
      have HERN : Hid (∀ X, Below w0.heap.size w0 X → RowsN w.heap.size X A2 M) := fun X hX => HRB.out.below (HB0.out.trans (hX.mono HB0.out.size))
      go_loopw [8, 50] (fun s iv wr => ∃ (k : Nat) (X : ByteArray), iv = .int .i64 k ∧ k ≤ m ∧ s = .string X ∧ X = ⟨(fivesB (M.take k)).toArray⟩ ∧ Below w0.heap.size w0 wr) (fun _ iv _ => m - (intOf iv).toNat)
      case atStart => exact ⟨0, ⟨#[]⟩, rfl, Nat.zero_le _, rfl, by simp [fivesB], HBR1.out⟩
      case round =>
        obtain ⟨i, X, rfl, hk, rfl, hX, hb⟩ := hrel
        have HXX := Lib.hid hX; have HBR := Lib.hid hb
        clear hX hb
        by_cases hlt : i < m
        · obtain ⟨x, hx⟩ : ∃ x, M[i]? = some x := ⟨_, List.getElem?_eq_getElem (by rw [HN2.out]; omega)⟩
          obtain ⟨b, o, rfl, -, hr⟩ := (HERN.out wr HBR.out) i x hx
          have HRG := Lib.hid hr
          have HID : Hid ((Tryd.prog.info? 46).map (·.size) = some (clN x).length) := by show _ = _; rw [info5N, clN_len]
          have k0 : (0 : Int) ≤ (i : Int) := by omega
          have k1 : (i : Int) < (m : Int) := by omega
          have HFX := Lib.hid (HF2.out x (List.mem_of_getElem? hx))
          have HE : Hid (fivesB (M.take (i + 1)) = fivesB (M.take i) ++ fiveB x) := by
            show _ = _
            have hkl : i < M.length := (List.getElem?_eq_some_iff.1 hx).1
            rw [List.take_succ_eq_append_getElem hkl, fivesB_app, (List.getElem?_eq_some_iff.1 hx).2]
            simp [fivesB]
          have HLN := Lib.hid (fivesB_len (M.take i) fun y hy => HF2.out y (List.mem_of_mem_take hy))
          have HTL := Lib.hid (show (M.take i).length ≤ 40 by rw [List.length_take]; omega)
          have HL5 := Lib.hid (fiveB_len HFX.out)
          clear hr hx
          go_upto_region 11 with (first
            | (with_reducible (show wpList _ _ _ _ _ _); refine wpList_load_mid rfl 46 (.tmp 52) rfl b (o + i * 5) rfl (clN x) _ HRG.out Tryd.underlying46 rfl HID.out ?_)
            | (with_reducible (show wpList _ _ _ _ _ _); refine st5N rfl (.tmp 12) (.tmp 53) rfl wr.heap.size rfl rfl _ (Blk.new wr _ _) rfl ?_))
          have hbx : Blk ((wr.alloc (.cells #[.int .i64 0, .int .i64 0, .int .i64 0, .int .i64 0, .int .u64 0] 46)).setRow wr.heap.size (clN x).toArray) wr.heap.size 46 (clN x).toArray := setRow_heap _ _ _ _ _ _ (Blk.new wr _ _)
          have hbw : Below wr.heap.size wr ((wr.alloc (.cells #[.int .i64 0, .int .i64 0, .int .i64 0, .int .i64 0, .int .u64 0] 46)).setRow wr.heap.size (clN x).toArray) := (((But.of_below (X := fun k => wr.heap.size ≤ k) (Below.refl _ _)).alloc _).row _ _ (.inl (Nat.le_refl _))).below (Nat.le_refl _) fun k _ z => z
          generalize (wr.alloc (.cells #[.int .i64 0, .int .i64 0, .int .i64 0, .int .i64 0, .int .u64 0] 46)).setRow wr.heap.size (clN x).toArray = V at *
          have HBV := Lib.hid (HBR.out.trans (hbw.mono HBR.out.size))
          clear hbw HRG
          generalize wr.heap.size = g at *
          have HRV : Hid (V.rangeAt g 0 (clN x)) := fun j u hj => by
            rw [Nat.zero_add, hbx.cell, List.getElem?_toArray]; exact hj
          clear hbx
          obtain ⟨E, hE⟩ : ∃ E : ByteArray, ⟨(fiveB x).toArray⟩ = E := ⟨_, rfl⟩
          obtain ⟨X', hX'⟩ : ∃ X' : ByteArray, ⟨(fivesB (M.take (i + 1))).toArray⟩ = X' := ⟨_, rfl⟩
          have HEE := Lib.hid hE; have HX' := Lib.hid hX'
          have sadd : ∀ Y, (Op.stringOp .add X E).run Tryd.prog Y = .ok (.string X') Y := fun Y => by
            rw [HXX.out, ← hE, ← hX', HE.out]
            exact str_add _ _ (by have := HLN.out; have := HTL.out; have := HL5.out; omega) Y
          clear hE hX'
          go_wp2_with (first
            | (with_reducible (show wpList _ _ _ _ _ _); refine wpList_load_mid rfl 46 (.tmp 12) rfl g 0 rfl (clN x) _ HRV.out Tryd.underlying46 rfl HID.out ?_)
            | (go_at_call 16; (with_reducible refine (ref5N_any x HFX.out V).mono ?_); rintro e w4 ⟨v4, rfl, h4, hb4⟩; have cv := conv_own h4; rw [HEE.out] at cv; have HB4 := Lib.hid hb4; clear h4 hb4))
          go_roundw
          case rel => exact ⟨i + 1, X', by go_num, by omega, rfl, HX'.out.symm, HBV.out.trans (HB4.out.mono HBV.out.size)⟩
          case measure => simp [intOf]; omega
        · obtain rfl : m = i := by omega
          have k1 : ¬ (m : Int) < (m : Int) := by omega
          have HXL : Hid (⟨(fivesB M).toArray⟩ = X) := by
            show _ = _
            rw [HXX.out]; congr 3; rw [← HN2.out]; exact List.take_length.symm
          clear HXX
          have HX2 := HXL
          generalize wr = W0 at *
          have HBW0 := Lib.hid (HB0.out.trans (HBR.out.mono HB0.out.size))
          clear HBR HERV HERN HB0
          have HY3 : Hid (BysIn W0.heap.size W0 A3 l) := (HRC.out.below HBW0.out).mono HBW0.out.size
          obtain ⟨P, bad, hpb⟩ : ∃ P bad, parseAll l = (P, bad) := ⟨_, _, rfl⟩
          have hback := parseAll_back l P bad hpb
          have hfp : ∀ x ∈ P, Fit5 x := by
            rcases hback with ⟨_, h, _⟩ | ⟨h, _, _⟩
            · exact h
            · rw [h]; intro x hx; cases hx
          have hpk : P.length ≤ 400 := by
            rcases hback with ⟨_, _, h⟩ | ⟨h, _, _⟩
            · have := fives_many P; rw [← h, HN3.out] at this; omega
            · rw [h]; simp
          have h13 := refFives_any A3 l k c3 HN3.out (by omega) W0 HY3.out
          rw [hpb] at h13
          have H13 := Lib.hid h13
          have HPB := Lib.hid hpb
          have HFP := Lib.hid hfp
          obtain ⟨p, hp⟩ : ∃ p, P.length = p := ⟨_, rfl⟩
          have HNP := Lib.hid hp
          rw [hp] at hpk
          clear h13 hpb hfp hback hp
          go_upto_region 14 with (go_at_call 17; (with_reducible refine H13.out.mono ?_); rintro e w13 ⟨v13, rfl, g13, gb13⟩; obtain ⟨A13, c13, hv13, hc13, hR13⟩ := own5A g13; rw [HNP.out] at hv13; subst hv13; have GB13 := Lib.hid gb13; have HR13 := Lib.hid hR13; clear g13 gb13 hR13 hc13)
          go_upto_region 15 with (go_at_call 18; (with_reducible refine (fives_any A13 P p c13 HNP.out (by omega) HFP.out w13 HR13.out).mono ?_); rintro e w14 ⟨v15, v16, rfl, g15, g16, gb14⟩; obtain ⟨A15, c15, hv15, hc15, hR15⟩ := own5V g15; obtain ⟨A16, c16, hv16, hc16, hR16⟩ := own5N g16; rw [HNP.out] at hv15 hv16; subst hv15 hv16; have GB14 := Lib.hid gb14; have HR15 := Lib.hid hR15; have HR16 := Lib.hid hR16; clear g15 g16 gb14 hR15 hR16 hc15 hc16)
          have HB14 := Lib.hid (GB13.out.trans (GB14.out.mono GB13.out.size))
          have h17 := peV_any A3 l k c3 HN3.out q3 (by omega) w14 ((HY3.out.below HB14.out).mono HB14.out.size)
          have h19 : ∀ X, Below w14.heap.size w14 X → Calls Tryd.prog 20 #[.slice A3 k c3] X fun e w' => ∃ v, e = .returned (.tuple #[v, .int .i64 (parseAll l).2]) ∧ OwnN X.heap.size w' v (parseAll l).1 ∧ Below X.heap.size X w' := fun X hX => peN_any A3 l k c3 HN3.out q3 (by omega) X ((HY3.out.below (HB14.out.trans (hX.mono HB14.out.size))).mono (Nat.le_trans HB14.out.size hX.size))
          rw [HPB.out] at h17 h19
          have H17 := Lib.hid h17; have H19 := Lib.hid h19
          clear h17 h19
          go_upto_region 17 with (first
            | (go_at_call 19; (with_reducible refine H17.out.mono ?_); rintro e w15 ⟨v17, rfl, g17, gb15⟩; obtain ⟨A17, c17, hv17, hc17, hR17⟩ := own5V g17; rw [HNP.out] at hv17; subst hv17; have GB15 := Lib.hid gb15; have HR17 := Lib.hid hR17; clear g17 gb15 hR17 hc17)
            | (go_at_call 20; (with_reducible refine (H19.out _ GB15.out).mono ?_); rintro e w16 ⟨v19, rfl, g19, gb16⟩; obtain ⟨A19, c19, hv19, hc19, hR19⟩ := own5N g19; rw [HNP.out] at hv19; subst hv19; have GB16 := Lib.hid gb16; have HR19 := Lib.hid hR19; clear g19 gb16 hR19 hc19))
          have HB16 := Lib.hid (GB15.out.trans (GB16.out.mono GB15.out.size))
          have HBW := Lib.hid (HBW0.out.trans ((HB14.out.mono HBW0.out.size).trans (HB16.out.mono (Nat.le_trans HBW0.out.size HB14.out.size))))
          have HRA1 : Hid (RowsV w16.heap.size w16 A1 L) := (HRA.out.below HBW.out).mono HBW.out.size
          have HRB1 : Hid (RowsN w16.heap.size w16 A2 M) := (HRB.out.below HBW.out).mono HBW.out.size
          have HR15' : Hid (RowsV w16.heap.size w16 A15 P) := (HR15.out.below HB16.out).mono HB16.out.size
          have HR16' : Hid (RowsN w16.heap.size w16 A16 P) := (HR16.out.below HB16.out).mono HB16.out.size
          have HR17' : Hid (RowsV w16.heap.size w16 A17 P) := (HR17.out.below GB16.out).mono GB16.out.size
          have HTW := Lib.hid (HT.out.on HBW.out)
          clear H13 H17 H19 HR13 HR15 HR16 HR17 GB13 GB14 GB15 GB16 HB14 HB16 HY3 HBW0 HRA HRB HRC HT HPB
          generalize w16 = W at *
          have HS1 : Hid (∀ X, Below W.heap.size W X → Calls Tryd.prog 21 #[.slice A1 n c1] X fun e w' => ∃ v, e = .returned v ∧ OwB X.heap.size w' v (fivesB L) ∧ Below X.heap.size X w') := fun X hX => events_any A1 L n c1 HN1.out (by omega) HF1.out X ((HRA1.out.below hX).mono hX.size)
          have HS2 : Hid (∀ X, Below W.heap.size W X → Calls Tryd.prog 22 #[.slice A2 m c2] X fun e w' => ∃ v, e = .returned v ∧ OwB X.heap.size w' v (fivesB M) ∧ Below X.heap.size X w') := fun X hX => entries_any A2 M m c2 HN2.out (by omega) HF2.out X ((HRB1.out.below hX).mono hX.size)
          have HS3 : Hid (∀ X, Below W.heap.size W X → Calls Tryd.prog 23 #[.slice A17 p c17, .slice A15 p c15] X fun e w' => e = .returned (.bool true) ∧ Below X.heap.size X w') := fun X hX => by
            have := same5V_any A17 A15 P P p p c17 c15 X ((HR17'.out.below hX).mono hX.size) ((HR15'.out.below hX).mono hX.size) HNP.out HNP.out (by omega) HFP.out HFP.out
            rw [decide_eq_true rfl] at this; exact this
          have HS4 : Hid (∀ X, Below W.heap.size W X → Calls Tryd.prog 24 #[.slice A19 p c19, .slice A16 p c16] X fun e w' => e = .returned (.bool true) ∧ Below X.heap.size X w') := fun X hX => by
            have := same5N_any A19 A16 P P p p c19 c16 X ((HR19.out.below hX).mono hX.size) ((HR16'.out.below hX).mono hX.size) HNP.out HNP.out (by omega) HFP.out HFP.out
            rw [decide_eq_true rfl] at this; exact this
          have HCB := Lib.hid (Below.refl W.heap.size W)
          go_wp2_with (first
            | (go_at_call 21; (with_reducible refine (HS1.out _ HCB.out).mono ?_); rintro e wa ⟨va, rfl, ha, hba⟩; have cv := conv_own ha; rw [HX1.out] at cv; have HBA := Lib.hid (HCB.out.trans (hba.mono HCB.out.size)); clear ha hba)
            | (go_at_call 22; (with_reducible refine (HS2.out _ HBA.out).mono ?_); rintro e wb ⟨vb, rfl, hvb, hbb⟩; have cw := conv_own hvb; rw [HX2.out] at cw; have HBB := Lib.hid (HBA.out.trans (hbb.mono HBA.out.size)); clear hvb hbb)
            | (go_at_call 23; (with_reducible refine (HS3.out _ HBB.out).mono ?_); rintro e wc ⟨rfl, hbc⟩; have HBC := Lib.hid (HBB.out.trans (hbc.mono HBB.out.size)); clear hbc)
            | (go_at_call 24; (with_reducible refine (HS4.out _ HBC.out).mono ?_); rintro e wd ⟨rfl, hbd⟩; have HBD := Lib.hid (HBC.out.trans (hbd.mono HBC.out.size)); clear hbd)
            | (go_at_call 11; (with_reducible refine (lives31_any _ (HTW.out.on HBD.out)).mono ?_); rintro e we ⟨rfl, hbe⟩; have HBE := Lib.hid (HBD.out.trans (hbe.mono HBD.out.size)); clear hbe))
          go_ret
          exact ⟨rfl, HBW.out.trans (HBE.out.mono HBW.out.size)⟩
end Go.Proofs.YtchhenpijbecaaaDoor
