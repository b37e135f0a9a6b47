/- layer 31 (codec): the document's Event, Entry. -/
import Derived.Test.YtchhenpijbecaaaDoorCk
import Derived.Test.YtchhenpijbecaaaDoorCr
namespace Go.Proofs.YtchhenpijbecaaaDoor
open Go.RowKit
set_option maxRecDepth 100000

/-- append of bytes of the call's own, told once. -/
theorem app_bs {ops : Array Oper} {rest : List Oper} {o : Oper} {a : Act} {w : World} {Q : Exit → Act → World → Prop} (hgd : o.guard = none) (s x : Operand) (ho : o.op = .call { callee := .builtin .append, args := #[s, x], argTypes := #[22, 22] })
    (B B6 : Nat) (v v6 : Value) (l l6 : List UInt8) (hs : a.eval s = v) (h : OwB B w v l) (hx : a.eval x = v6) (h6 : OwB B6 w v6 l6) (hne : 0 < l6.length) (hl : l.length + l6.length ≤ 1000000) (hB : B ≤ w.heap.size)
    (K : ∀ v' w', OwB B w' v' (l ++ l6) → Below B w w' → wpList Tryd.prog ops Q rest (a.put o.dst v') w') : wpList Tryd.prog ops Q (o :: rest) a w := by
  obtain ⟨i0, hi0, hz0, hz1, hz2⟩ := info_parts infoByte
  have h6' := h6
  rcases h6.2 with ⟨rfl, hn⟩ | ⟨g, cap, cur, rfl, hg, hh, hc⟩
  · omega
  · refine wpList_append_own w hgd s x 22 ho B 5 i0 (.int .u8 0) 1 1 Tryd.underlying22 hi0 hz0 hz1 hz2 rfl (by decide) v l.length _ hs h ⟨g, 0, none⟩ l6.length cap (Lib.byteCells l6) hx (by simp [Lib.byteCells]) (h6'.cells (g := g) rfl) (fun u hu => Lib.byteCells_one l6 u hu) (by unfold maxLen; omega) (by omega) hB ?_
    intro v' w' h1 h2 _
    rw [cells_app] at h1
    have hbut : But (fun k => v.ownBlock = some k) w w' := (But.refl _ _).grown h2 fun k hk => .inl hk
    exact K v' w' (by unfold OwB; rw [List.length_append]; exact h1) (hbut.below hB fun k _ hk => (h.lt k hk).1)

set_option maxHeartbeats 8000000 in
theorem ref5V_any (x : I5) (hf : Fit5 x) (w : World) : Calls Tryd.prog 15 #[.agg (clV x).toArray] w fun e w' => ∃ v, e = .returned v ∧ OwB w.heap.size w' v (fiveB x) ∧ Below w.heap.size w w' := by
  have hbl : Below w.heap.size w (w.alloc (.cells (clV x).toArray 42)) := (Below.refl _ _).alloc (Nat.le_refl _) _
  have hbk := Blk.new w 42 (clV x).toArray
  have HF := Lib.hid hf
  go_enter Tryd.func15, Tryd.ntmps15
  go_upto_region 1 with fail
  generalize w.alloc (.cells (clV x).toArray 42) = V at *
  have HB := Lib.hid hbl
  have e0 : V.cell? ⟨w.heap.size, 0, none⟩ = some (.int .i64 x.a) := hbk.cell 0
  have e1 : V.cell? ⟨w.heap.size, 1, none⟩ = some (.int .i64 x.b) := hbk.cell 1
  have e2 : V.cell? ⟨w.heap.size, 2, none⟩ = some (.int .i64 x.c) := hbk.cell 2
  have e3 : V.cell? ⟨w.heap.size, 3, none⟩ = some (.int .i64 x.d) := hbk.cell 3
  have e4 : V.cell? ⟨w.heap.size, 4, none⟩ = some (.int .i64 x.e) := hbk.cell 4
  have HNB : Hid (NumsB (V.alloc (.cells #[.int .i64 x.a, .int .i64 x.b, .int .i64 x.c, .int .i64 x.d, .int .i64 x.e] 3)) V.heap.size (nums5 x)) :=
    ⟨_, Blk.new V _ _, fun i hi => by match i, hi with | 0, _ => rfl | 1, _ => rfl | 2, _ => rfl | 3, _ => rfl | 4, _ => rfl⟩
  have hb2 : Below w.heap.size w (V.alloc (.cells #[.int .i64 x.a, .int .i64 x.b, .int .i64 x.c, .int .i64 x.d, .int .i64 x.e] 3)) := HB.out.alloc HB.out.size _
  have hs2 : (V.alloc (.cells #[.int .i64 x.a, .int .i64 x.b, .int .i64 x.c, .int .i64 x.d, .int .i64 x.e] 3)).heap.size = V.heap.size + 1 := by simp
  clear hbk hbl hf
  go_upto_region 3 with fail
  generalize V.alloc (.cells #[.int .i64 x.a, .int .i64 x.b, .int .i64 x.c, .int .i64 x.d, .int .i64 x.e] 3) = W at *
  have HB2 := Lib.hid hb2; have HS2 := Lib.hid hs2; have HVS := Lib.hid HB.out.size
  clear hb2 hs2 e0 e1 e2 e3 e4 HB
  generalize V.heap.size = q at *
  go_loopw [3, 18] (fun a iv wr => ∃ i : Nat, iv = .int .i64 i ∧ i ≤ 5 ∧ OwB (q + 1) wr a (intsB ((nums5 x).take i)) ∧ NumsB wr q (nums5 x) ∧ Below (q + 1) W wr) (fun _ iv _ => 5 - (intOf iv).toNat)
  case atStart => exact ⟨0, rfl, by omega, World.ownsRow_nil _ _ _ _, HNB.out, Below.refl _ _⟩
  case round =>
    obtain ⟨i, rfl, hi, ho, hnb, hb⟩ := hrel
    have HO := Lib.hid ho; have HNR := Lib.hid hnb; have HBR := Lib.hid hb
    clear ho hnb hb
    by_cases hlt : i < 5
    · have hlx : i < (nums5 x).length := hlt
      have c0 := HNR.out.cell i hlx
      have hx64 := fit_nums HF.out (nums5 x)[i] (List.getElem_mem hlx)
      have HE : Hid (intsB ((nums5 x).take (i + 1)) = intsB ((nums5 x).take i) ++ intB (nums5 x)[i]) := by
        show _ = _
        rw [List.take_succ_eq_append_getElem hlx, intsB_app]; simp [intsB]
      have HLN := Lib.hid (intsB_len ((nums5 x).take i) fun y hy => fit_nums HF.out y (List.mem_of_mem_take hy))
      have HTL := Lib.hid (show ((nums5 x).take i).length ≤ 5 by rw [List.length_take]; omega)
      generalize (nums5 x)[i] = y at *
      have HRI := Lib.hid (refInt_any y hx64 wr)
      have HLY := Lib.hid (intB_len hx64)
      have HPY := Lib.hid (intB_pos y)
      have i0 : (0 : Int) ≤ (i : Int) := by omega
      have i1 : (i : Int) < 5 := by omega
      have HSR : Hid (q + 1 ≤ wr.heap.size) := by have := HBR.out.size; have := HS2.out; show _ ≤ _; omega
      clear hx64
      go_wp2_with (first
        | (go_at_call 10; (with_reducible refine HRI.out.mono ?_); rintro e w3 ⟨v3, rfl, h3, hb3⟩; have H3 := Lib.hid h3; have HB3 := Lib.hid hb3; clear h3 hb3)
        | (at_builtin; refine app_bs rfl (.tmp 22) (.tmp 24) rfl (q + 1) wr.heap.size _ v3 (intsB ((nums5 x).take i)) (intB y) rfl (own_on HO.out HB3.out) rfl H3.out HPY.out (by have := HLN.out; have := HTL.out; have := HLY.out; omega) (Nat.le_trans HSR.out HB3.out.size) ?_; intro v4 w4 h4 hb4; have H4 := Lib.hid h4; have HB4 := Lib.hid hb4; clear h4 hb4))
      go_roundw
      case rel =>
        have hbb : Below (q + 1) wr w4 := (HB3.out.mono HSR.out).trans HB4.out
        refine ⟨i + 1, by go_num, by omega, by rw [HE.out]; exact H4.out, ?_, HBR.out.trans hbb⟩
        obtain ⟨cs, hc, hcs⟩ := HNR.out
        exact ⟨cs, hc.below hbb (by omega), hcs⟩
      case measure => simp [intOf]; omega
    · obtain rfl : i = 5 := by omega
      go_wp2_with fail
      go_ret
      exact ⟨_, rfl, own_mono (by have := HO.out; simpa [nums5, fiveB] using this) (by have := HVS.out; omega), HB2.out.trans (HBR.out.mono (by have := HVS.out; omega))⟩

set_option maxHeartbeats 8000000 in
theorem ref5N_any (x : I5) (hf : Fit5 x) (w : World) : Calls Tryd.prog 16 #[.agg (clN x).toArray] w fun e w' => ∃ v, e = .returned v ∧ OwB w.heap.size w' v (fiveB x) ∧ Below w.heap.size w w' := by
  have hbl : Below w.heap.size w (w.alloc (.cells (clN x).toArray 46)) := (Below.refl _ _).alloc (Nat.le_refl _) _
  have hbk := Blk.new w 46 (clN x).toArray
  have HF := Lib.hid hf
  go_enter Tryd.func16, Tryd.ntmps16
  go_upto_region 1 with fail
  generalize w.alloc (.cells (clN x).toArray 46) = V at *
  have HB := Lib.hid hbl
  have e0 : V.cell? ⟨w.heap.size, 0, none⟩ = some (.int .i64 x.a) := hbk.cell 0
  have e1 : V.cell? ⟨w.heap.size, 1, none⟩ = some (.int .i64 x.b) := hbk.cell 1
  have e2 : V.cell? ⟨w.heap.size, 2, none⟩ = some (.int .i64 x.c) := hbk.cell 2
  have e3 : V.cell? ⟨w.heap.size, 3, none⟩ = some (.int .i64 x.d) := hbk.cell 3
  have e4 : V.cell? ⟨w.heap.size, 4, none⟩ = some (.int .u64 (toU x.e : Int)) := hbk.cell 4
  have hwe : wrap64 (toU x.e : Int) = x.e := toU_back hf.2.2.2.2
  have HNB : Hid (NumsB (V.alloc (.cells #[.int .i64 x.a, .int .i64 x.b, .int .i64 x.c, .int .i64 x.d, .int .i64 (wrap64 (toU x.e : Int))] 3)) V.heap.size (nums5 x)) :=
    ⟨_, Blk.new V _ _, fun i hi => by match i, hi with | 0, _ => rfl | 1, _ => rfl | 2, _ => rfl | 3, _ => rfl | 4, _ => exact congrArg (fun z => some (Value.int .i64 z)) hwe⟩
  have hb2 : Below w.heap.size w (V.alloc (.cells #[.int .i64 x.a, .int .i64 x.b, .int .i64 x.c, .int .i64 x.d, .int .i64 (wrap64 (toU x.e : Int))] 3)) := HB.out.alloc HB.out.size _
  have hs2 : (V.alloc (.cells #[.int .i64 x.a, .int .i64 x.b, .int .i64 x.c, .int .i64 x.d, .int .i64 (wrap64 (toU x.e : Int))] 3)).heap.size = V.heap.size + 1 := by simp
  clear hbk hbl hf hwe
  go_upto_region 3 with fail
  generalize V.alloc (.cells #[.int .i64 x.a, .int .i64 x.b, .int .i64 x.c, .int .i64 x.d, .int .i64 (wrap64 (toU x.e : Int))] 3) = W at *
  have HB2 := Lib.hid hb2; have HS2 := Lib.hid hs2; have HVS := Lib.hid HB.out.size
  clear hb2 hs2 e0 e1 e2 e3 e4 HB
  generalize V.heap.size = q at *
  go_loopw [3, 19] (fun a iv wr => ∃ i : Nat, iv = .int .i64 i ∧ i ≤ 5 ∧ OwB (q + 1) wr a (intsB ((nums5 x).take i)) ∧ NumsB wr q (nums5 x) ∧ Below (q + 1) W wr) (fun _ iv _ => 5 - (intOf iv).toNat)
  case atStart => exact ⟨0, rfl, by omega, World.ownsRow_nil _ _ _ _, HNB.out, Below.refl _ _⟩
  case round =>
    obtain ⟨i, rfl, hi, ho, hnb, hb⟩ := hrel
    have HO := Lib.hid ho; have HNR := Lib.hid hnb; have HBR := Lib.hid hb
    clear ho hnb hb
    by_cases hlt : i < 5
    · have hlx : i < (nums5 x).length := hlt
      have c0 := HNR.out.cell i hlx
      have hx64 := fit_nums HF.out (nums5 x)[i] (List.getElem_mem hlx)
      have HE : Hid (intsB ((nums5 x).take (i + 1)) = intsB ((nums5 x).take i) ++ intB (nums5 x)[i]) := by
        show _ = _
        rw [List.take_succ_eq_append_getElem hlx, intsB_app]; simp [intsB]
      have HLN := Lib.hid (intsB_len ((nums5 x).take i) fun y hy => fit_nums HF.out y (List.mem_of_mem_take hy))
      have HTL := Lib.hid (show ((nums5 x).take i).length ≤ 5 by rw [List.length_take]; omega)
      generalize (nums5 x)[i] = y at *
      have HRI := Lib.hid (refInt_any y hx64 wr)
      have HLY := Lib.hid (intB_len hx64)
      have HPY := Lib.hid (intB_pos y)
      have i0 : (0 : Int) ≤ (i : Int) := by omega
      have i1 : (i : Int) < 5 := by omega
      have HSR : Hid (q + 1 ≤ wr.heap.size) := by have := HBR.out.size; have := HS2.out; show _ ≤ _; omega
      clear hx64
      go_wp2_with (first
        | (go_at_call 10; (with_reducible refine HRI.out.mono ?_); rintro e w3 ⟨v3, rfl, h3, hb3⟩; have H3 := Lib.hid h3; have HB3 := Lib.hid hb3; clear h3 hb3)
        | (at_builtin; refine app_bs rfl (.tmp 23) (.tmp 25) rfl (q + 1) wr.heap.size _ v3 (intsB ((nums5 x).take i)) (intB y) rfl (own_on HO.out HB3.out) rfl H3.out HPY.out (by have := HLN.out; have := HTL.out; have := HLY.out; omega) (Nat.le_trans HSR.out HB3.out.size) ?_; intro v4 w4 h4 hb4; have H4 := Lib.hid h4; have HB4 := Lib.hid hb4; clear h4 hb4))
      go_roundw
      case rel =>
        have hbb : Below (q + 1) wr w4 := (HB3.out.mono HSR.out).trans HB4.out
        refine ⟨i + 1, by go_num, by omega, by rw [HE.out]; exact H4.out, ?_, HBR.out.trans hbb⟩
        obtain ⟨cs, hc, hcs⟩ := HNR.out
        exact ⟨cs, hc.below hbb (by omega), hcs⟩
      case measure => simp [intOf]; omega
    · obtain rfl : i = 5 := by omega
      go_wp2_with fail
      go_ret
      exact ⟨_, rfl, own_mono (by have := HO.out; simpa [nums5, fiveB] using this) (by have := HVS.out; omega), HB2.out.trans (HBR.out.mono (by have := HVS.out; omega))⟩
end Go.Proofs.YtchhenpijbecaaaDoor
