/- layer 27 (stuck): fates. -/
import Derived.Test.YtogplndhciaoeaaQf
import Derived.Deep.RegionWith
namespace Go.Proofs.Ytogplndhciaoeaa
open Go.RowKit Go.Maps
set_option maxRecDepth 100000

theorem RowW.take {B : Nat} {w : World} {A : Option Addr} {l : List (Int × Int)} (h : RowW B w A l) (n : Nat) : RowW B w A (l.take n) := fun i d hd => h i d (by
  rw [List.getElem?_take] at hd; split at hd; exact hd; cases hd)
/-- what is known of all tasks of the row. -/
def KnownAll (l : List (Int × Int)) (k : Int → Nat) : Prop := Good l k ∧ ∀ x ∈ l.map (·.1), k x ≠ 0
set_option maxHeartbeats 8000000 in
theorem fates_any (A : Option Addr) (l : List (Int × Int)) (n cap : Nat) (hn : l.length = n) (hl : n ≤ 1000) (hf : ∀ x ∈ l, W64 x.1 ∧ W64 x.2) (h1 : (l.map (·.1)).Nodup) (w : World) (h : RowW w.heap.size w A l) :
    Calls Try.prog 44 #[.slice A n cap] w fun e w' => ∃ b nk k, e = .returned (.map (some b)) ∧ w.heap.size ≤ b ∧ b < w'.heap.size ∧ MapI 68 w' b nk (kO k) ∧ KnownAll l k ∧ Below w.heap.size w w' := by
  have HR := Lib.hid h; have HN := Lib.hid hn; have HF := Lib.hid hf; have H1 := Lib.hid h1
  clear h hn hf h1
  have hmk : ∀ W, (Instr.makeMap 73 (some (.int .i64 (n : Int)))).run Try.prog W = .ok (.map (some W.heap.size)) (W.alloc (.map #[] 0)) := fun W => run_mkF W n
  go_enter Try.func44, Try.ntmps44
  go_upto_region 1 with fail
  go_cut [3, 4] (fun ov kv wx => ∃ bo bk : Nat, ov = .map (some bo) ∧ kv = .map (some bk) ∧ bo ≠ bk ∧ w.heap.size ≤ bo ∧ w.heap.size ≤ bk ∧ bo < wx.heap.size ∧ bk < wx.heap.size ∧ MapI 3 wx bo n (nxt l) ∧ MapI 68 wx bk 0 (fun _ => none) ∧ Below w.heap.size w wx)
  case first =>
    have HWH : Hid (∀ W, Below w.heap.size w W → Calls Try.prog 37 #[.slice A n cap] W fun e w' => e = .returned (.map (some W.heap.size)) ∧ MapI 3 w' W.heap.size n (nxt l) ∧ Below W.heap.size W w' ∧ W.heap.size < w'.heap.size) := fun W h => by
      have := whom_any A l n cap HN.out hl HF.out W ((HR.out.below h).mono h.size)
      rw [show putL (fun _ => none) l = nxt l from funext fun x => put_one H1.out x] at this
      exact this
    have HD := Lib.hid (Below.refl w.heap.size w).drew
    have HD2 := Lib.hid ((Below.refl w.heap.size w).alloc (Nat.le_refl _) (.map #[] 0)).drew
    go_region_with (go_at_call 37; (with_reducible first | refine (HWH.out _ HD.out).mono ?_ | refine (HWH.out _ HD2.out).mono ?_); rintro e w2 ⟨rfl, hm2, hb2, hs2⟩; have HM2 := Lib.hid hm2; have HB2 := Lib.hid hb2; have HS2 := Lib.hid hs2; clear hm2 hb2 hs2)
    · go_simp
      go_wp2_with fail
      go_meet
      have hs2 : w.heap.size < w2.heap.size := HS2.out
      have hb2 : Below w.heap.size w w2 := HD.out.trans HB2.out
      have hbl : Below w2.heap.size w2 (w2.alloc (.map #[] 0)) := (Below.refl _ _).alloc (Nat.le_refl _) _
      exact ⟨w.heap.size, w2.heap.size, rfl, rfl, by omega, Nat.le_refl _, by omega, by simp; omega, by simp, HM2.out.blk (hbl.block _ hs2), mapI_made _ w2, hb2.trans (hbl.mono hb2.size)⟩
    · go_simp
      go_wp2_with fail
      go_meet
      have hs2 : w.heap.size + 1 < w2.heap.size := by have := HS2.out; simpa using this
      have hm2 : MapI 3 w2 (w.heap.size + 1) n (nxt l) := by have := HM2.out; simpa using this
      have hb2 : Below (w.heap.size + 1) (w.alloc (.map #[] 0)) w2 := by
        have := HB2.out
        refine ⟨this.os, this.tape, this.output, this.size, fun k hk => this.block k (by simpa using hk)⟩
      have hmk0 : MapI 68 (w.alloc (.map #[] 0)) w.heap.size 0 (fun _ => none) := mapI_made _ w
      exact ⟨w.heap.size + 1, w.heap.size, rfl, rfl, by omega, by omega, Nat.le_refl _, hs2, by omega, hm2, hmk0.blk (hb2.block _ (by omega)), ((Below.refl _ w).alloc (Nat.le_refl _) _).trans (hb2.mono (by omega))⟩
  case rest =>
    obtain ⟨bo, bk, rfl, rfl, hbb, hb1, hb2, hs1, hs2, hmo, hmk2, hbw⟩ := hcut
    clear hmk
    have HMO := Lib.hid hmo; have HMK := Lib.hid hmk2; have HBW := Lib.hid hbw; have HS1 := Lib.hid hs1; have HS2 := Lib.hid hs2
    clear hmo hmk2 hbw hs1 hs2
    go_wp2_with fail
    go_loopw [14] (fun iv wr => ∃ (i nk : Nat) (k : Int → Nat), iv = .int .i64 i ∧ i ≤ n ∧ nk ≤ 2000 * i ∧ Good l k ∧ (∀ x ∈ (l.take i).map (·.1), k x ≠ 0) ∧ MapI 68 wr bk nk (kO k) ∧ MapI 3 wr bo n (nxt l) ∧ Below w.heap.size w wr ∧ bo < wr.heap.size ∧ bk < wr.heap.size) (fun iv _ => n - (intOf iv).toNat)
    case atStart => exact ⟨0, 0, fun _ => 0, rfl, Nat.zero_le _, Nat.zero_le _, good_none l, fun x h => by simp at h, HMK.out, HMO.out, HBW.out, HS1.out, HS2.out⟩
    case round =>
      obtain ⟨i, nk, k, rfl, hi, hnk, hG, hkn, hmk, hmo, hb, hs1, hs2⟩ := hrel
      have HG := Lib.hid hG; have HKN := Lib.hid hkn; have HM := Lib.hid hmk; have HO := Lib.hid hmo; have HB := Lib.hid hb; have HSO := Lib.hid hs1; have HSK := Lib.hid hs2
      clear hG hkn hmk hmo hb hs1 hs2
      by_cases hlt : i < n
      · obtain ⟨x, hx⟩ : ∃ x, l[i]? = some x := ⟨_, List.getElem?_eq_getElem (by rw [HN.out]; omega)⟩
        obtain ⟨b, o, rfl, -, hr⟩ := (HR.out.below HB.out) i x hx
        have HRG := Lib.hid hr
        have HID : Hid ((Try.prog.info? 62).map (·.size) = some [Value.int .i64 x.1, Value.int .i64 x.2].length) := infoW
        have k0 : (0 : Int) ≤ (i : Int) := by omega
        have k1 : (i : Int) < (n : Int) := by omega
        have HFX := Lib.hid (HF.out x (List.mem_of_getElem? hx))
        have HTK : Hid ((l.take (i + 1)).map (·.1) = (l.take i).map (·.1) ++ [x.1]) := by
          show _ = _
          have hkl : i < l.length := (List.getElem?_eq_some_iff.1 hx).1
          rw [List.take_succ_eq_append_getElem hkl, (List.getElem?_eq_some_iff.1 hx).2, List.map_append]; rfl
        have HW : Hid (nxt l x.1 ≠ none) := nxt_some (List.mem_map.2 ⟨x, List.mem_of_getElem? hx, rfl⟩)
        obtain ⟨c, d⟩ := x
        dsimp only at HRG HFX HTK HID HW
        clear hr hx
        go_upto_region 5 with (first
          | (with_reducible (show wpList _ _ _ _ _ _); refine wpList_load_mid rfl 62 (.tmp 16) rfl b (o + i * 2) rfl [.int .i64 c, .int .i64 d] _ HRG.out Try.underlying62 rfl HID.out ?_)
          | (with_reducible (show wpList _ _ _ _ _ _); refine stW rfl (.tmp 6) (.tmp 17) rfl wr.heap.size c d rfl rfl _ (heap_alloc_new _ _) rfl ?_))
        have hgg : (wr.alloc (.cells #[.int .i64 0, .int .i64 0] 62)).heap[wr.heap.size]? = some (.cells #[.int .i64 0, .int .i64 0] 62 (0, 0)) := heap_alloc_new _ _
        have hbx : Blk ((wr.alloc (.cells #[.int .i64 0, .int .i64 0] 62)).setRow wr.heap.size #[.int .i64 c, .int .i64 d]) wr.heap.size 62 #[.int .i64 c, .int .i64 d] := setRow_heap _ _ _ _ _ _ hgg
        have hbw : Below wr.heap.size wr ((wr.alloc (.cells #[.int .i64 0, .int .i64 0] 62)).setRow wr.heap.size #[.int .i64 c, .int .i64 d]) := (((But.refl (fun b => b = wr.heap.size) wr).alloc _).row wr.heap.size _ (.inl rfl)).below (Nat.le_refl _) fun b _ h => Nat.le_of_eq h.symm
        clear hgg
        generalize (wr.alloc (.cells #[.int .i64 0, .int .i64 0] 62)).setRow wr.heap.size #[.int .i64 c, .int .i64 d] = V2 at *
        have HMV : Hid (MapI 68 V2 bk nk (kO k)) := HM.out.blk (hbw.block bk HSK.out)
        have HOV : Hid (MapI 3 V2 bo n (nxt l)) := HO.out.blk (hbw.block bo HSO.out)
        have HBV := Lib.hid (HB.out.trans (hbw.mono HB.out.size))
        have HSOV : Hid (bo < V2.heap.size) := Nat.lt_of_lt_of_le HSO.out hbw.size
        have HSKV : Hid (bk < V2.heap.size) := Nat.lt_of_lt_of_le HSK.out hbw.size
        clear hbw HRG HID
        generalize wr.heap.size = g at *
        have e0 : V2.cell? ⟨g, 0, none⟩ = some (.int .i64 c) := hbx.cell 0
        clear hbx
        have HFO := Lib.hid (follow_any l k HG.out HF.out (by rw [HN.out]; exact hl) bo bk n nk hbb (by omega) c HFX.out.1 V2 HOV.out HMV.out HSOV.out HSKV.out)
        go_wp2_with (go_at_call 46; (with_reducible refine HFO.out.mono ?_); rintro e w3 ⟨rfl, a, s, hfol, hen, hm3, hb3⟩; have HFL := Lib.hid hfol; have HEN := Lib.hid hen; have HM3 := Lib.hid hm3; have HB3 := Lib.hid hb3; clear hfol hen hm3 hb3)
        go_roundw
        case rel =>
          have hal : a.length ≤ 1000 := Nat.le_trans HFL.out.len (by rw [HN.out]; exact hl)
          refine ⟨i + 1, nk + 2 * a.length, endK l k a, by first | rfl | go_num, by omega, by omega, HFL.out.good HG.out HEN.out, fun x hx => ?_, HM3.out, HOV.out.blk (HB3.out.block bo HSOV.out (fun e => hbb e)), HBV.out.trans (HB3.out.below HBV.out.size (fun b _ e => by rw [e]; exact hb2)), Nat.lt_of_lt_of_le HSOV.out HB3.out.size, Nat.lt_of_lt_of_le HSKV.out HB3.out.size⟩
          rw [HTK.out] at hx
          rcases List.mem_append.1 hx with h | h
          · rw [HFL.out.kept (HKN.out x h)]; exact HKN.out x h
          · obtain rfl : x = c := by simpa using h
            exact HFL.out.known HW.out HEN.out
        case measure => simp [intOf]; omega
      · obtain rfl : i = n := by omega
        have HT : Hid (l.take i = l) := by show _ = _; rw [← HN.out, List.take_length]
        go_wp2_with fail
        go_ret
        refine ⟨bk, nk, k, rfl, hb2, HSK.out, HM.out, ⟨HG.out, fun x hx => HKN.out x (by rw [HT.out]; exact hx)⟩, HB.out⟩
end Go.Proofs.Ytogplndhciaoeaa
