/- layer 33 (fair): the document's Is, Gap; Same of two rows that are alike. -/
import Derived.Test.YtogplndhciaoeaaFk
namespace Go.Proofs.Ytogplndhciaoeaa
open Go.RowKit
set_option maxRecDepth 100000

theorem is_any (x : En) (cpu : Int) (w : World) : Calls Try.prog 14 #[.agg (clE x).toArray, .int .i64 cpu] w fun e w' => e = .returned (.bool (isS cpu x)) ∧ Below w.heap.size w w' := by
  obtain ⟨xk, xa, xb, xc, xd⟩ := x
  have hbx : Blk (w.alloc (.cells (clE ⟨xk, xa, xb, xc, xd⟩).toArray 34)) w.heap.size 34 (clE ⟨xk, xa, xb, xc, xd⟩).toArray := Blk.new w _ _
  have hbl : Below w.heap.size w (w.alloc (.cells (clE ⟨xk, xa, xb, xc, xd⟩).toArray 34)) := (Below.refl _ _).alloc (Nat.le_refl _) _
  have e0 : (w.alloc (.cells (clE ⟨xk, xa, xb, xc, xd⟩).toArray 34)).cell? ⟨w.heap.size, 0, none⟩ = some (.int .i64 xk) := hbx.cell 0
  have e1 : (w.alloc (.cells (clE ⟨xk, xa, xb, xc, xd⟩).toArray 34)).cell? ⟨w.heap.size, 1, none⟩ = some (.int .i64 xa) := hbx.cell 1
  clear hbx
  have HBL := Lib.hid hbl
  clear hbl
  show Calls Try.prog 14 #[.agg #[.int .i64 xk, .int .i64 xa, .int .i64 xb, .int .i64 xc, .int .u64 xd], .int .i64 cpu] w _
  change (w.alloc (.cells #[.int .i64 xk, .int .i64 xa, .int .i64 xb, .int .i64 xc, .int .u64 xd] 34)).cell? ⟨w.heap.size, 0, none⟩ = some (.int .i64 xk) at e0
  change (w.alloc (.cells #[.int .i64 xk, .int .i64 xa, .int .i64 xb, .int .i64 xc, .int .u64 xd] 34)).cell? ⟨w.heap.size, 1, none⟩ = some (.int .i64 xa) at e1
  go_enter Try.func14, Try.ntmps14
  by_cases h1 : xk = 1
  · by_cases h2 : xa = cpu
    · subst h1; subst h2
      go_wp2_with fail
      go_ret
      exact ⟨by simp [isS], HBL.out⟩
    · subst h1
      have c2 : (xa == cpu) = false := by rw [beq_eq_false_iff_ne]; exact h2
      go_wp2_with fail
      go_ret
      refine ⟨?_, HBL.out⟩
      simp [isS, h2]
  · have c1 : (xk == 1) = false := by rw [beq_eq_false_iff_ne]; exact h1
    go_wp2_with fail
    go_ret
    refine ⟨?_, HBL.out⟩
    simp [isS, h1]
set_option maxHeartbeats 8000000 in
theorem refgap_any (A : Option Addr) (L : List En) (n cap : Nat) (cpu : Int) (hn : L.length = n) (hle : n ≤ 1000000) (w : World) (hR : RowsE w.heap.size w A L) :
    Calls Try.prog 16 #[.slice A n cap, .int .i64 cpu] w fun e w' => e = .returned (.int .i64 (gapL L cpu : Nat)) ∧ Below w.heap.size w w' := by
  have HR := Lib.hid hR; have HL := Lib.hid hn
  clear hR hn
  go_enter Try.func16, Try.ntmps16
  go_wp2_with fail
  go_loopw [5, 6, 11] (fun mv nv iv wr => ∃ k g m : Nat, mv = .int .i64 m ∧ nv = .int .i64 g ∧ iv = .int .i64 k ∧ k ≤ n ∧ g ≤ k ∧ m ≤ k ∧ runG cpu (L.drop k) g m = gapL L cpu ∧ Below w.heap.size w wr) (fun _ _ iv _ => n - (intOf iv).toNat)
  case atStart => exact ⟨0, 0, 0, rfl, rfl, rfl, Nat.zero_le _, Nat.le_refl _, Nat.le_refl _, runG_eq L cpu, Below.refl _ _⟩
  case round =>
    obtain ⟨k, g, m, rfl, rfl, rfl, hk, hg, hm, hrun, hb⟩ := hrel
    have HRN := Lib.hid hrun; have HB := Lib.hid hb
    clear hrun hb
    by_cases hlt : k < n
    · obtain ⟨x, hx⟩ : ∃ x, L[k]? = some x := ⟨_, List.getElem?_eq_getElem (by rw [HL.out]; omega)⟩
      obtain ⟨b, o, rfl, -, hr⟩ := (HR.out.below HB.out) k x hx
      have HRG := Lib.hid hr
      have HID : Hid ((Try.prog.info? 34).map (·.size) = some (clE x).length) := by show _ = _; rw [infoE5, clE_len]
      have k0 : (0 : Int) ≤ (k : Int) := by omega
      have k1 : (k : Int) < (n : Int) := by omega
      have HDR : Hid (L.drop k = x :: L.drop (k + 1)) := by
        show _ = _
        have hkl : k < L.length := (List.getElem?_eq_some_iff.1 hx).1
        rw [List.drop_eq_getElem_cons hkl, (List.getElem?_eq_some_iff.1 hx).2]
      have HRN2 : Hid ((if isS cpu x then runG cpu (L.drop (k + 1)) 0 (max m 0) else runG cpu (L.drop (k + 1)) (g + 1) (max m (g + 1))) = gapL L cpu) := by
        have := HRN.out
        rw [HDR.out] at this
        exact this
      clear hr hx HRN HDR
      go_upto_region 5 with (first
        | (with_reducible (show wpList _ _ _ _ _ _); refine wpList_load_mid rfl 34 (.tmp 13) rfl b (o + k * 5) rfl (clE x) _ HRG.out Try.underlying34 rfl HID.out ?_)
        | (with_reducible (show wpList _ _ _ _ _ _); refine stE rfl (.tmp 8) (.tmp 14) rfl wr.heap.size rfl rfl _ (Blk.new wr _ _) rfl ?_))
      have hbx : Blk ((wr.alloc (.cells #[.int .i64 0, .int .i64 0, .int .i64 0, .int .i64 0, .int .u64 0] 34)).setRow wr.heap.size (clE x).toArray) wr.heap.size 34 (clE x).toArray := setRow_heap _ _ _ _ _ _ (Blk.new wr _ _)
      have hbw : Below wr.heap.size wr ((wr.alloc (.cells #[.int .i64 0, .int .i64 0, .int .i64 0, .int .i64 0, .int .u64 0] 34)).setRow wr.heap.size (clE x).toArray) := (((But.of_below (X := fun k => wr.heap.size ≤ k) (Below.refl _ _)).alloc _).row _ _ (.inl (Nat.le_refl _))).below (Nat.le_refl _) fun k _ z => z
      generalize (wr.alloc (.cells #[.int .i64 0, .int .i64 0, .int .i64 0, .int .i64 0, .int .u64 0] 34)).setRow wr.heap.size (clE x).toArray = V at *
      have HBV := Lib.hid (HB.out.trans (hbw.mono HB.out.size))
      have HBK := Lib.hid hbx
      clear hbw HRG HID hbx
      generalize wr.heap.size = gg at *
      have HIS := Lib.hid (is_any x cpu V)
      have HRX : Hid (V.rangeAt gg 0 (clE x)) := fun j u hu => by rw [Nat.zero_add, HBK.out.cell]; simpa using hu
      have HID2 : Hid ((Try.prog.info? 34).map (·.size) = some (clE x).length) := by show _ = _; rw [infoE5, clE_len]
      by_cases hs : isS cpu x = true
      · rw [hs] at HIS
        have HN3 := HRN2.out
        rw [if_pos hs, Nat.max_zero] at HN3
        have HN4 := Lib.hid HN3
        clear hs HN3 HRN2
        go_wp2_with (first
          | (with_reducible (show wpList _ _ _ _ _ _); refine wpList_load_mid rfl 34 (.tmp 8) rfl gg 0 rfl (clE x) _ HRX.out Try.underlying34 rfl HID2.out ?_)
          | (go_at_call 14; (with_reducible refine HIS.out.mono ?_); rintro e w3 ⟨rfl, hb3⟩; have HB3 := Lib.hid hb3; clear hb3))
        go_roundw
        case rel => exact ⟨k + 1, 0, m, rfl, rfl, by go_num, by omega, by omega, by omega, HN4.out, HBV.out.trans (HB3.out.mono HBV.out.size)⟩
        case measure => simp [intOf]; omega
      · have hs' : isS cpu x = false := by simpa using hs
        rw [hs'] at HIS
        have HN3 := HRN2.out
        rw [if_neg hs] at HN3
        have HN4 := Lib.hid HN3
        clear hs hs' HN3 HRN2
        by_cases hgm : m < g + 1
        · have c1 : (m : Int) < (g : Int) + 1 := by omega
          go_wp2_with (first
            | (with_reducible (show wpList _ _ _ _ _ _); refine wpList_load_mid rfl 34 (.tmp 8) rfl gg 0 rfl (clE x) _ HRX.out Try.underlying34 rfl HID2.out ?_)
            | (go_at_call 14; (with_reducible refine HIS.out.mono ?_); rintro e w3 ⟨rfl, hb3⟩; have HB3 := Lib.hid hb3; clear hb3))
          go_roundw
          case rel => exact ⟨k + 1, g + 1, g + 1, by go_num, by go_num, by go_num, by omega, by omega, by omega, by have := HN4.out; rw [Nat.max_eq_right (Nat.le_of_lt hgm)] at this; exact this, HBV.out.trans (HB3.out.mono HBV.out.size)⟩
          case measure => simp [intOf]; omega
        · have c1 : ¬ (m : Int) < (g : Int) + 1 := by omega
          go_wp2_with (first
            | (with_reducible (show wpList _ _ _ _ _ _); refine wpList_load_mid rfl 34 (.tmp 8) rfl gg 0 rfl (clE x) _ HRX.out Try.underlying34 rfl HID2.out ?_)
            | (go_at_call 14; (with_reducible refine HIS.out.mono ?_); rintro e w3 ⟨rfl, hb3⟩; have HB3 := Lib.hid hb3; clear hb3))
          go_roundw
          case rel => exact ⟨k + 1, g + 1, m, by go_num, by go_num, by go_num, by omega, by omega, by omega, by have := HN4.out; rw [Nat.max_eq_left (by omega)] at this; exact this, HBV.out.trans (HB3.out.mono HBV.out.size)⟩
          case measure => simp [intOf]; omega
    · obtain rfl : k = n := by omega
      have HE : Hid (m = gapL L cpu) := by
        have := HRN.out
        rw [List.drop_eq_nil_of_le (by rw [HL.out]; exact Nat.le_refl _)] at this
        exact this
      go_wp2_with fail
      go_ret
      rw [← HE.out]; exact ⟨rfl, HB.out⟩
end Go.Proofs.Ytogplndhciaoeaa
