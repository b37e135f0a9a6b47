/- layer 27 (stuck): those; Rounds, Stuck. -/
import Derived.Test.YtogplndhciaoeaaQi
namespace Go.Proofs.Ytogplndhciaoeaa
open Go.RowKit Go.Maps
set_option maxRecDepth 100000

def isRounds (f : Nat) : Bool := f == 4
def isStuck (f : Nat) : Bool := f == 4 || f == 3
/-- the tasks whose chains go on so, in the row's order. -/
noncomputable def thoseF (p : Nat → Bool) (l r : List (Int × Int)) : List Int := (r.filter fun x => p (fateP l x.1)).map (·.1)
theorem clRounds_any (f : Nat) (w : World) : Calls Try.prog 39 #[.int .i64 (f : Int)] w fun e w' => e = .returned (.bool (isRounds f)) ∧ w = w' := by
  go_enter Try.func39, Try.ntmps39
  by_cases h : f = 4
  · subst h
    go_wp2_with fail
    go_ret
    exact ⟨rfl, rfl⟩
  · have c : ((f : Int) == 4) = false := by rw [beq_eq_false_iff_ne]; omega
    go_wp2_with fail
    go_ret
    have : isRounds f = false := by unfold isRounds; rw [beq_eq_false_iff_ne]; exact h
    rw [this]; exact ⟨rfl, rfl⟩
theorem clStuck_any (f : Nat) (w : World) : Calls Try.prog 42 #[.int .i64 (f : Int)] w fun e w' => e = .returned (.bool (isStuck f)) ∧ w = w' := by
  go_enter Try.func42, Try.ntmps42
  by_cases h : f = 4
  · subst h
    go_wp2_with fail
    go_ret
    exact ⟨rfl, rfl⟩
  · have c : ((f : Int) == 4) = false := by rw [beq_eq_false_iff_ne]; omega
    have h4 : (f == 4) = false := by rw [beq_eq_false_iff_ne]; exact h
    by_cases h3 : f = 3
    · subst h3
      go_wp2_with fail
      go_ret
      exact ⟨rfl, rfl⟩
    · have c3 : ((f : Int) == 3) = false := by rw [beq_eq_false_iff_ne]; omega
      go_wp2_with fail
      go_ret
      have : isStuck f = false := by unfold isStuck; rw [h4, beq_eq_false_iff_ne.2 h3]; rfl
      rw [this]; exact ⟨rfl, rfl⟩
theorem thoseF_len (p : Nat → Bool) (l r : List (Int × Int)) : (thoseF p l r).length ≤ r.length := by unfold thoseF; rw [List.length_map]; exact List.length_filter_le _ _
theorem thoseF_snoc (p : Nat → Bool) (l r : List (Int × Int)) (x : Int × Int) : thoseF p l (r ++ [x]) = thoseF p l r ++ if p (fateP l x.1) then [x.1] else [] := by
  unfold thoseF
  rw [List.filter_append, List.map_append]
  congr 1
  by_cases h : p (fateP l x.1) = true
  · rw [if_pos h]; simp [h]
  · rw [if_neg h]; simp [h]
set_option maxHeartbeats 16000000 in
theorem thoseRounds_any (A : Option Addr) (l : List (Int × Int)) (n cap : Nat) (hn : l.length = n) (hl : n ≤ 1000) (hf : ∀ x ∈ l, W64 x.1 ∧ W64 x.2) (h1 : (l.map (·.1)).Nodup) (w : World) (h : RowW w.heap.size w A l) :
    Calls Try.prog 38 #[.slice A n cap, .func (.func 39) #[] #[]] w fun e w' => ∃ v, e = .returned v ∧ OwnN w.heap.size w' v (risingL (thoseF isRounds l l)) ∧ Below w.heap.size w w' := by
  have HR := Lib.hid h; have HN := Lib.hid hn; have HF := Lib.hid hf
  have HFT := Lib.hid (fates_any A l n cap hn hl hf h1 w h)
  have HCL := Lib.hid clRounds_any
  clear h hn hf h1
  go_enter Try.func38, Try.ntmps38
  go_upto_region 2 with (go_at_call 44; (with_reducible refine HFT.out.mono ?_); rintro e w1 ⟨bk, nk, k, rfl, hb1, hb2, hm, hka, hbw⟩; have HM := Lib.hid hm; have HKA := Lib.hid hka; have HBW := Lib.hid hbw; have HS := Lib.hid hb2; clear hm hka hbw hb2)
  clear HFT
  go_wp2_with fail
  go_loopw [6, 13] (fun rv iv wr => ∃ i : Nat, iv = .int .i64 i ∧ i ≤ n ∧ OwnN w1.heap.size wr rv (thoseF isRounds l (l.take i)) ∧ Below w1.heap.size w1 wr) (fun _ iv _ => n - (intOf iv).toNat)
  case atStart => exact ⟨0, rfl, Nat.zero_le _, World.ownsRow_nil _ _ _ _, Below.refl _ _⟩
  case round =>
    obtain ⟨i, rfl, hi, ho, hb⟩ := hrel
    have HO := Lib.hid ho; have HB := Lib.hid hb
    clear ho hb
    have HLT : Hid ((thoseF isRounds l (l.take i)).length ≤ n) := by
      show _ ≤ _
      have h1 := thoseF_len isRounds l (l.take i)
      rw [List.length_take, HN.out] at h1; omega
    by_cases hlt : i < n
    · obtain ⟨x, hx⟩ : ∃ x, l[i]? = some x := ⟨_, List.getElem?_eq_getElem (by rw [HN.out]; omega)⟩
      obtain ⟨b, o, rfl, -, hr⟩ := ((HR.out.below HBW.out).below (HB.out.mono HBW.out.size)) i x hx
      have HRG := Lib.hid hr
      have HID : Hid ((Try.prog.info? 62).map (·.size) = some [Value.int .i64 x.1, Value.int .i64 x.2].length) := infoW
      have k0 : (0 : Int) ≤ (i : Int) := by omega
      have k1 : (i : Int) < (n : Int) := by omega
      have HFX := Lib.hid (HF.out x (List.mem_of_getElem? hx))
      have HTK : Hid (thoseF isRounds l (l.take (i + 1)) = thoseF isRounds l (l.take i) ++ if isRounds (fateP l x.1) then [x.1] else []) := by
        show _ = _
        have hkl : i < l.length := (List.getElem?_eq_some_iff.1 hx).1
        rw [List.take_succ_eq_append_getElem hkl, (List.getElem?_eq_some_iff.1 hx).2, thoseF_snoc]
      have HKX : Hid ((k x.1 : Nat) = fateP l x.1) := (HKA.out.1 x.1 (HKA.out.2 x.1 (List.mem_map.2 ⟨x, List.mem_of_getElem? hx, rfl⟩))).1
      obtain ⟨c, d⟩ := x
      dsimp only at HRG HFX HTK HID HKX
      clear hr hx
      go_upto_region 6 with (first
        | (with_reducible (show wpList _ _ _ _ _ _); refine wpList_load_mid rfl 62 (.tmp 15) rfl b (o + i * 2) rfl [.int .i64 c, .int .i64 d] _ HRG.out Try.underlying62 rfl HID.out ?_)
        | (with_reducible (show wpList _ _ _ _ _ _); refine stW rfl (.tmp 8) (.tmp 16) rfl wr.heap.size c d rfl rfl _ (heap_alloc_new _ _) rfl ?_))
      have hgg : (wr.alloc (.cells #[.int .i64 0, .int .i64 0] 62)).heap[wr.heap.size]? = some (.cells #[.int .i64 0, .int .i64 0] 62 (0, 0)) := heap_alloc_new _ _
      have hbx : Blk ((wr.alloc (.cells #[.int .i64 0, .int .i64 0] 62)).setRow wr.heap.size #[.int .i64 c, .int .i64 d]) wr.heap.size 62 #[.int .i64 c, .int .i64 d] := setRow_heap _ _ _ _ _ _ hgg
      have hbw : Below wr.heap.size wr ((wr.alloc (.cells #[.int .i64 0, .int .i64 0] 62)).setRow wr.heap.size #[.int .i64 c, .int .i64 d]) := (((But.refl (fun b => b = wr.heap.size) wr).alloc _).row wr.heap.size _ (.inl rfl)).below (Nat.le_refl _) fun b _ h => Nat.le_of_eq h.symm
      clear hgg
      generalize (wr.alloc (.cells #[.int .i64 0, .int .i64 0] 62)).setRow wr.heap.size #[.int .i64 c, .int .i64 d] = V2 at *
      have HBV := Lib.hid (HB.out.trans (hbw.mono HB.out.size))
      have HOV : Hid (OwnN w1.heap.size V2 u6 (thoseF isRounds l (l.take i))) := HO.out.kept (row := none) ⟨hbw.os, hbw.tape, hbw.output, hbw.size, fun j hj _ => hbw.block j hj⟩ (by cases u6.ownBlock <;> simp)
      have HMV : Hid (MapI 68 V2 bk nk (kO k)) := HM.out.blk (HBV.out.block bk HS.out)
      clear hbw HRG HID
      generalize wr.heap.size = g at *
      have e0 : V2.cell? ⟨g, 0, none⟩ = some (.int .i64 c) := hbx.cell 0
      clear hbx
      have lk := HMV.out.look false Try.underlying73 Try.underlying68 (zeroF V2) HFX.out.1
      rw [kO_get, HKX.out] at lk
      simp only [Bool.false_eq_true, if_false] at lk
      generalize fateP l c = f at *
      generalize thoseF isRounds l (l.take i) = S at *
      have HCF := Lib.hid (HCL.out f V2)
      generalize isRounds f = bf at *
      cases bf with
      | true =>
        go_wp2_with (first
          | (go_at_call 39; (with_reducible refine HCF.out.mono ?_); rintro e w3 ⟨rfl, rfl⟩)
          | (with_reducible (show wpList _ _ _ _ _ _); refine app_n rfl (.tmp 23) (.tmp 26) rfl w1.heap.size u6 S rfl (HOV.out.alloc _) V2.heap.size 1 c rfl ((Blk.new V2 _ _).cell 0) (Nat.le_trans HLT.out (by omega)) (by have := HBV.out.size; simp; omega) ?_; intro v5 w5 ho5 hg5; have HO5 := Lib.hid ho5; have HB5 := Lib.hid ((HBV.out.alloc HBV.out.size _).grown hg5 (by have := HBV.out.size; simp; omega) (fun r e => (HOV.out.lt r e).1)); clear ho5 hg5))
        go_roundw
        case rel => exact ⟨i + 1, by first | rfl | go_num, by omega, by rw [HTK.out]; exact HO5.out, HB5.out⟩
        case measure => simp [intOf]; omega
      | false =>
        go_wp2_with (go_at_call 39; (with_reducible refine HCF.out.mono ?_); rintro e w3 ⟨rfl, rfl⟩)
        go_roundw
        case rel => exact ⟨i + 1, by first | rfl | go_num, by omega, by rw [HTK.out]; simpa using HOV.out, HBV.out⟩
        case measure => simp [intOf]; omega
    · obtain rfl : i = n := by omega
      have HT : Hid (l.take i = l) := by show _ = _; rw [← HN.out, List.take_length]
      rw [HT.out] at HO HLT
      have HSO := Lib.hid (sort_any HO.out (Nat.le_trans HLT.out (by omega)))
      go_wp2_with (go_at_call 45; (with_reducible refine HSO.out.mono ?_); rintro e w4 ⟨rfl, ho4, hg4⟩; have HO4 := Lib.hid ho4; have HG4 := Lib.hid hg4; clear ho4 hg4)
      go_ret
      refine ⟨_, rfl, ?_, HBW.out.trans ((HB.out.grown HG4.out HB.out.size (fun r e => (HO.out.lt r e).1)).mono HBW.out.size)⟩
      have := HO4.out
      rw [sortL_rising] at this
      exact ownN_base this HBW.out.size
theorem Rounds27_any (A : Option Addr) (l : List (Int × Int)) (n cap : Nat) (hn : l.length = n) (hl : n ≤ 1000) (hf : ∀ x ∈ l, W64 x.1 ∧ W64 x.2) (h1 : (l.map (·.1)).Nodup) (w : World) (h : RowW w.heap.size w A l) :
    Calls Try.prog 25 #[.slice A n cap] w fun e w' => ∃ v, e = .returned v ∧ OwnN w.heap.size w' v (risingL (thoseF isRounds l l)) ∧ Below w.heap.size w w' := by
  have HT := Lib.hid (thoseRounds_any A l n cap hn hl hf h1 w h)
  clear h hn hf h1
  go_enter Try.func25, Try.ntmps25
  go_wp2_with (go_at_call 38; (with_reducible refine HT.out.mono ?_); rintro e w1 ⟨v, rfl, ho, hb⟩)
  go_ret
  exact ⟨_, rfl, ho, hb⟩
set_option maxHeartbeats 16000000 in
theorem thoseStuck_any (A : Option Addr) (l : List (Int × Int)) (n cap : Nat) (hn : l.length = n) (hl : n ≤ 1000) (hf : ∀ x ∈ l, W64 x.1 ∧ W64 x.2) (h1 : (l.map (·.1)).Nodup) (w : World) (h : RowW w.heap.size w A l) :
    Calls Try.prog 38 #[.slice A n cap, .func (.func 42) #[] #[]] w fun e w' => ∃ v, e = .returned v ∧ OwnN w.heap.size w' v (risingL (thoseF isStuck l l)) ∧ Below w.heap.size w w' := by
  have HR := Lib.hid h; have HN := Lib.hid hn; have HF := Lib.hid hf
  have HFT := Lib.hid (fates_any A l n cap hn hl hf h1 w h)
  have HCL := Lib.hid clStuck_any
  clear h hn hf h1
  go_enter Try.func38, Try.ntmps38
  go_upto_region 2 with (go_at_call 44; (with_reducible refine HFT.out.mono ?_); rintro e w1 ⟨bk, nk, k, rfl, hb1, hb2, hm, hka, hbw⟩; have HM := Lib.hid hm; have HKA := Lib.hid hka; have HBW := Lib.hid hbw; have HS := Lib.hid hb2; clear hm hka hbw hb2)
  clear HFT
  go_wp2_with fail
  go_loopw [6, 13] (fun rv iv wr => ∃ i : Nat, iv = .int .i64 i ∧ i ≤ n ∧ OwnN w1.heap.size wr rv (thoseF isStuck l (l.take i)) ∧ Below w1.heap.size w1 wr) (fun _ iv _ => n - (intOf iv).toNat)
  case atStart => exact ⟨0, rfl, Nat.zero_le _, World.ownsRow_nil _ _ _ _, Below.refl _ _⟩
  case round =>
    obtain ⟨i, rfl, hi, ho, hb⟩ := hrel
    have HO := Lib.hid ho; have HB := Lib.hid hb
    clear ho hb
    have HLT : Hid ((thoseF isStuck l (l.take i)).length ≤ n) := by
      show _ ≤ _
      have h1 := thoseF_len isStuck l (l.take i)
      rw [List.length_take, HN.out] at h1; omega
    by_cases hlt : i < n
    · obtain ⟨x, hx⟩ : ∃ x, l[i]? = some x := ⟨_, List.getElem?_eq_getElem (by rw [HN.out]; omega)⟩
      obtain ⟨b, o, rfl, -, hr⟩ := ((HR.out.below HBW.out).below (HB.out.mono HBW.out.size)) i x hx
      have HRG := Lib.hid hr
      have HID : Hid ((Try.prog.info? 62).map (·.size) = some [Value.int .i64 x.1, Value.int .i64 x.2].length) := infoW
      have k0 : (0 : Int) ≤ (i : Int) := by omega
      have k1 : (i : Int) < (n : Int) := by omega
      have HFX := Lib.hid (HF.out x (List.mem_of_getElem? hx))
      have HTK : Hid (thoseF isStuck l (l.take (i + 1)) = thoseF isStuck l (l.take i) ++ if isStuck (fateP l x.1) then [x.1] else []) := by
        show _ = _
        have hkl : i < l.length := (List.getElem?_eq_some_iff.1 hx).1
        rw [List.take_succ_eq_append_getElem hkl, (List.getElem?_eq_some_iff.1 hx).2, thoseF_snoc]
      have HKX : Hid ((k x.1 : Nat) = fateP l x.1) := (HKA.out.1 x.1 (HKA.out.2 x.1 (List.mem_map.2 ⟨x, List.mem_of_getElem? hx, rfl⟩))).1
      obtain ⟨c, d⟩ := x
      dsimp only at HRG HFX HTK HID HKX
      clear hr hx
      go_upto_region 6 with (first
        | (with_reducible (show wpList _ _ _ _ _ _); refine wpList_load_mid rfl 62 (.tmp 15) rfl b (o + i * 2) rfl [.int .i64 c, .int .i64 d] _ HRG.out Try.underlying62 rfl HID.out ?_)
        | (with_reducible (show wpList _ _ _ _ _ _); refine stW rfl (.tmp 8) (.tmp 16) rfl wr.heap.size c d rfl rfl _ (heap_alloc_new _ _) rfl ?_))
      have hgg : (wr.alloc (.cells #[.int .i64 0, .int .i64 0] 62)).heap[wr.heap.size]? = some (.cells #[.int .i64 0, .int .i64 0] 62 (0, 0)) := heap_alloc_new _ _
      have hbx : Blk ((wr.alloc (.cells #[.int .i64 0, .int .i64 0] 62)).setRow wr.heap.size #[.int .i64 c, .int .i64 d]) wr.heap.size 62 #[.int .i64 c, .int .i64 d] := setRow_heap _ _ _ _ _ _ hgg
      have hbw : Below wr.heap.size wr ((wr.alloc (.cells #[.int .i64 0, .int .i64 0] 62)).setRow wr.heap.size #[.int .i64 c, .int .i64 d]) := (((But.refl (fun b => b = wr.heap.size) wr).alloc _).row wr.heap.size _ (.inl rfl)).below (Nat.le_refl _) fun b _ h => Nat.le_of_eq h.symm
      clear hgg
      generalize (wr.alloc (.cells #[.int .i64 0, .int .i64 0] 62)).setRow wr.heap.size #[.int .i64 c, .int .i64 d] = V2 at *
      have HBV := Lib.hid (HB.out.trans (hbw.mono HB.out.size))
      have HOV : Hid (OwnN w1.heap.size V2 u6 (thoseF isStuck l (l.take i))) := HO.out.kept (row := none) ⟨hbw.os, hbw.tape, hbw.output, hbw.size, fun j hj _ => hbw.block j hj⟩ (by cases u6.ownBlock <;> simp)
      have HMV : Hid (MapI 68 V2 bk nk (kO k)) := HM.out.blk (HBV.out.block bk HS.out)
      clear hbw HRG HID
      generalize wr.heap.size = g at *
      have e0 : V2.cell? ⟨g, 0, none⟩ = some (.int .i64 c) := hbx.cell 0
      clear hbx
      have lk := HMV.out.look false Try.underlying73 Try.underlying68 (zeroF V2) HFX.out.1
      rw [kO_get, HKX.out] at lk
      simp only [Bool.false_eq_true, if_false] at lk
      generalize fateP l c = f at *
      generalize thoseF isStuck l (l.take i) = S at *
      have HCF := Lib.hid (HCL.out f V2)
      generalize isStuck f = bf at *
      cases bf with
      | true =>
        go_wp2_with (first
          | (go_at_call 42; (with_reducible refine HCF.out.mono ?_); rintro e w3 ⟨rfl, rfl⟩)
          | (with_reducible (show wpList _ _ _ _ _ _); refine app_n rfl (.tmp 23) (.tmp 26) rfl w1.heap.size u6 S rfl (HOV.out.alloc _) V2.heap.size 1 c rfl ((Blk.new V2 _ _).cell 0) (Nat.le_trans HLT.out (by omega)) (by have := HBV.out.size; simp; omega) ?_; intro v5 w5 ho5 hg5; have HO5 := Lib.hid ho5; have HB5 := Lib.hid ((HBV.out.alloc HBV.out.size _).grown hg5 (by have := HBV.out.size; simp; omega) (fun r e => (HOV.out.lt r e).1)); clear ho5 hg5))
        go_roundw
        case rel => exact ⟨i + 1, by first | rfl | go_num, by omega, by rw [HTK.out]; exact HO5.out, HB5.out⟩
        case measure => simp [intOf]; omega
      | false =>
        go_wp2_with (go_at_call 42; (with_reducible refine HCF.out.mono ?_); rintro e w3 ⟨rfl, rfl⟩)
        go_roundw
        case rel => exact ⟨i + 1, by first | rfl | go_num, by omega, by rw [HTK.out]; simpa using HOV.out, HBV.out⟩
        case measure => simp [intOf]; omega
    · obtain rfl : i = n := by omega
      have HT : Hid (l.take i = l) := by show _ = _; rw [← HN.out, List.take_length]
      rw [HT.out] at HO HLT
      have HSO := Lib.hid (sort_any HO.out (Nat.le_trans HLT.out (by omega)))
      go_wp2_with (go_at_call 45; (with_reducible refine HSO.out.mono ?_); rintro e w4 ⟨rfl, ho4, hg4⟩; have HO4 := Lib.hid ho4; have HG4 := Lib.hid hg4; clear ho4 hg4)
      go_ret
      refine ⟨_, rfl, ?_, HBW.out.trans ((HB.out.grown HG4.out HB.out.size (fun r e => (HO.out.lt r e).1)).mono HBW.out.size)⟩
      have := HO4.out
      rw [sortL_rising] at this
      exact ownN_base this HBW.out.size
theorem Stuck27_any (A : Option Addr) (l : List (Int × Int)) (n cap : Nat) (hn : l.length = n) (hl : n ≤ 1000) (hf : ∀ x ∈ l, W64 x.1 ∧ W64 x.2) (h1 : (l.map (·.1)).Nodup) (w : World) (h : RowW w.heap.size w A l) :
    Calls Try.prog 27 #[.slice A n cap] w fun e w' => ∃ v, e = .returned v ∧ OwnN w.heap.size w' v (risingL (thoseF isStuck l l)) ∧ Below w.heap.size w w' := by
  have HT := Lib.hid (thoseStuck_any A l n cap hn hl hf h1 w h)
  clear h hn hf h1
  go_enter Try.func27, Try.ntmps27
  go_wp2_with (go_at_call 38; (with_reducible refine HT.out.mono ?_); rintro e w1 ⟨v, rfl, ho, hb⟩)
  go_ret
  exact ⟨_, rfl, ho, hb⟩
end Go.Proofs.Ytogplndhciaoeaa
