/- The document's bubbles: Is, Way, Inside, Free (layer 13). -/
import Derived.Test.YtekahmfchpgmfaaZc
namespace Go.Proofs.Ytekahmfchpgmfaa
open Go.RowKit
set_option maxRecDepth 100000

/-- The document's bubbles in memory: a row of their own. -/
structure DocL (d : Value) (bs : List Bub) (w : World) : Prop where
  row : w.ownsRow 0 30 19 d bs.length (bubC bs)
  inv : InvB bs
section
variable {d : Value} {bs : List Bub} {w w' : World}
theorem DocL.below (h : DocL d bs w) (hb : Below w.heap.size w w') : DocL d bs w' := ⟨row_but h.row (But.of_below (X := Nob) hb) fun _ _ q => q, h.inv⟩
theorem DocL.form (h : DocL d bs w) : ∃ A cap, d = .slice A bs.length cap := by
  rcases rowForm h.row with ⟨e, hn⟩ | ⟨g, cap, e⟩
  · exact ⟨none, 0, by rw [hn]; exact e⟩
  · exact ⟨_, cap, e⟩
set_option maxHeartbeats 1000000 in
theorem ris_any (b : Int) (h : DocL d bs w) : Calls Try.prog 71 #[d, .int .i64 b] w fun e w' => e = .returned (.bool (inB bs b)) ∧ w = w' := by
  obtain ⟨A, cap, rfl⟩ := h.form
  clear h
  unfold inB
  generalize bs.length = n at *
  by_cases h0 : 0 ≤ b
  · have t0 : decide ((0 : Int) ≤ b) = true := by simpa using h0
    have e : decide (0 ≤ b ∧ b < (n : Int)) = decide (b < (n : Int)) := by simp [h0]
    rw [e]
    go_enter Try.func71, Try.ntmps71
    go_wp2_with fail
    go_ret
    exact ⟨rfl, rfl⟩
  · have t0 : decide ((0 : Int) ≤ b) = false := by simpa using h0
    have e : decide (0 ≤ b ∧ b < (n : Int)) = false := by simp; omega
    rw [e]
    go_enter Try.func71, Try.ntmps71
    go_wp2_with fail
    go_ret
    exact ⟨rfl, rfl⟩
set_option maxHeartbeats 4000000 in
theorem rway_any (b : Int) (h : DocL d bs w) : Calls Try.prog 85 #[d, .int .i64 b] w fun e w' => ∃ u, e = .returned u ∧ MineN w.heap.size u (way bs b) w' ∧ Below w.heap.size w w' := by
  have HF := Lib.hid h
  have HW := Lib.hid (way_len32 h.inv b)
  obtain ⟨A, capd, hd⟩ := h.form
  obtain ⟨Y, hY⟩ : ∃ Y, way bs b = Y := ⟨_, rfl⟩
  have HY := Lib.hid hY
  rw [hY] at HW ⊢
  obtain ⟨n, hn⟩ : ∃ n, bs.length = n := ⟨_, rfl⟩
  rw [hn] at hd
  have HLN := Lib.hid hn
  subst hd
  clear h hY hn
  go_enter Try.func85, Try.ntmps85
  go_wp2_with fail
  go_loopw [1, 5] (fun bv lv wr => ∃ (c : Int) (u : Value) (L : List Int), bv = .int .i64 c ∧ u = lv ∧ MineN w.heap.size u L wr ∧ Below w.heap.size w wr ∧ L ++ way bs c = Y) (fun bv _ _ => (intOf bv + 1).toNat)
  case atStart => exact ⟨b, _, [], rfl, rfl, mineN_nil _ _, Below.refl _ _, HY.out⟩
  case round =>
    obtain ⟨c, u, L, rfl, rfl, hm, hb, hl⟩ := hrel
    have HM := Lib.hid hm; have HB := Lib.hid hb; have HL := Lib.hid hl
    have HH := Lib.hid (ris_any c (HF.out.below hb))
    clear hm hb hl HY
    cases hc : inB bs c with
    | false =>
      rw [hc] at HH
      have HC := Lib.hid hc
      clear hc
      go_wp2_with (go_at_call 71; (with_reducible refine HH.out.mono ?_); rintro e wq ⟨rfl, rfl⟩)
      go_ret
      have e := HL.out
      rw [way_no HC.out, List.append_nil] at e
      exact ⟨_, rfl, by rw [← e]; exact HM.out, HB.out⟩
    | true =>
      rw [hc] at HH
      obtain ⟨k, x, rfl, hx⟩ := inB_nat hc
      have hu := HF.out.inv.up k x hx
      have hl2 : L.length ≤ 32 := by
        have e := HW.out
        rw [← HL.out, List.length_append] at e
        omega
      have HX := Lib.hid hx
      have HWY : Hid ((L ++ [(k : Int)]) ++ way bs x.up = Y) := by
        show _ = _
        rw [← HL.out, way_yes HF.out.inv hx]; simp
      have ha : Below wr.heap.size wr (wr.alloc (.cells #[.int .i64 k] 3)) := (Below.refl _ _).alloc (Nat.le_refl _) _
      have HM8 := Lib.hid (HM.out.on ha)
      have HB8 := Lib.hid (HB.out.trans (ha.mono HB.out.size))
      have hbk := (Blk.new wr 3 #[.int .i64 k]).cell 0
      simp only [List.getElem?_toArray, List.getElem?_cons_zero] at hbk
      have HBS := Lib.hid hbk
      clear ha hbk hx hc
      go_wp2_with (first
        | (go_at_call 71; (with_reducible refine HH.out.mono ?_); rintro e wq ⟨rfl, rfl⟩)
        | (at_builtin; refine haltM ?_))
      refine Lib.hid ?_
      refine app_mine rfl (.tmp 9) (.tmp 11) rfl w.heap.size u L rfl HM8.out _ k rfl HBS.out (by omega) HB8.out.size ?_
      intro u' w9 own9 b9
      have HM9 := Lib.hid own9
      have HB9 := Lib.hid (HB8.out.trans b9)
      obtain ⟨g, cap, hv, hr, -⟩ := row_at (HF.out.below HB9.out).row HX.out
      rw [HLN.out] at hv
      simp only [Value.slice.injEq] at hv
      obtain ⟨rfl, -, rfl⟩ := hv
      have y := hr 0 _ (bubL_0 x)
      rw [Nat.add_zero] at y
      have i0 : (0 : Int) ≤ (k : Int) := by omega
      have i1 : (k : Int) < (n : Int) := by have := (List.getElem?_eq_some_iff.1 HX.out).1; have := HLN.out; omega
      clear own9 b9 HM8 HB8 HBS hr
      generalize x.up = up at *
      go_wp2_with fail
      go_roundw
      case rel => exact ⟨up, u', L ++ [(k : Int)], rfl, rfl, HM9.out, HB9.out, HWY.out⟩
      case measure => simp [intOf]; omega
set_option maxHeartbeats 4000000 in
theorem rinside_any (i b : Int) (h : DocL d bs w) : Calls Try.prog 72 #[d, .int .i64 i, .int .i64 b] w fun e w' => e = .returned (.bool (insideP bs i b)) ∧ Below w.heap.size w w' := by
  have HW := Lib.hid (rway_any i h)
  have HL := Lib.hid (way_len32 h.inv i)
  unfold insideP
  clear h
  generalize way bs i = Y at *
  obtain ⟨R, hR⟩ : ∃ R, Y.contains b = R := ⟨_, rfl⟩
  have HR := Lib.hid hR
  rw [hR]
  clear hR
  go_enter Try.func72, Try.ntmps72
  go_wp2_with fail
  refine HW.out.mono ?_
  rintro e w2 ⟨u, rfl, hm, h2⟩
  dsimp only
  obtain ⟨A, cap, rfl, hn⟩ := hm.nums
  have HN := Lib.hid hn; have H2 := Lib.hid h2
  clear hm hn h2 HW
  go_wp2_with fail
  go_loopw [13] (fun iv wr => ∃ k : Nat, iv = .int .i64 k ∧ k ≤ Y.length ∧ wr = w2 ∧ (Y.drop k).contains b = R) (fun iv _ => Y.length - (intOf iv).toNat)
  case atStart => exact ⟨0, rfl, Nat.zero_le _, rfl, by simpa using HR.out⟩
  case round =>
    obtain ⟨k, rfl, hk, rfl, hr⟩ := hrel
    have HRR := Lib.hid hr
    clear hr HR
    by_cases hlt : k < Y.length
    · obtain ⟨y, hy⟩ : ∃ y, Y[k]? = some y := ⟨_, List.getElem?_eq_getElem hlt⟩
      have hd : Y.drop k = y :: Y.drop (k + 1) := by
        rw [List.drop_eq_getElem_cons hlt]
        congr 1
        rw [List.getElem?_eq_getElem hlt] at hy; simpa using hy
      have e := HRR.out
      rw [hd, List.contains_cons] at e
      obtain ⟨bb, off, rfl, -, hc⟩ := HN.out k _ hy
      have HE := Lib.hid e
      have k0 : (0 : Int) ≤ (k : Int) := by omega
      have k1 : (k : Int) < (Y.length : Int) := by omega
      have hl := HL.out
      clear e hd hy HRR
      generalize Y.length = n at *
      by_cases hyb : y = b
      · subst hyb
        have t : (y == y) = true := by simp
        go_wp2_with fail
        go_ret
        have e := HE.out
        simp only [beq_self_eq_true, Bool.true_or] at e
        exact ⟨by rw [← e] <;> rfl, H2.out⟩
      · have t : (y == b) = false := by simpa using hyb
        have t2 : (b == y) = false := by simpa using fun e => hyb e.symm
        rw [t2, Bool.false_or] at HE
        clear hyb t2
        go_wp2_with fail
        go_roundw
        case rel => exact ⟨k + 1, by go_num, by omega, by first | rfl | trivial, HE.out⟩
        case measure => simp [intOf]; omega
    · obtain rfl : k = Y.length := by omega
      have e := HRR.out
      rw [List.drop_length] at e
      have HE := Lib.hid e
      clear e HRR
      generalize Y.length = n at *
      have tk : ¬ (n : Int) < (n : Int) := by omega
      go_wp2_with fail
      go_ret
      exact ⟨by rw [← HE.out] <;> rfl, H2.out⟩
end
end Go.Proofs.Ytekahmfchpgmfaa
