/- A forest's New, around, putAt, Seal, Place (layer 13). -/
import Derived.Test.YtekahmfchpgmfaaZb
namespace Go.Proofs.Ytekahmfchpgmfaa
open Go.RowKit
set_option maxRecDepth 100000

theorem inv_set {bs : List Bub} (hI : InvB bs) {i : Nat} {x y : Bub} (hx : bs[i]? = some x) (hu : y.up = x.up) (h1 : 1 ≤ y.state) (h4 : y.state ≤ 4) : InvB (bs.set i y) := by
  have key : ∀ (j : Nat) (z : Bub), (bs.set i y)[j]? = some z → (j = i ∧ z = y) ∨ bs[j]? = some z := fun j z hz => by
    rw [List.getElem?_set] at hz
    split at hz
    · split at hz
      · left; exact ⟨by omega, by simpa using hz.symm⟩
      · cases hz
    · exact .inr hz
  refine ⟨fun j z hz => ?_, fun j z hz => ?_, by rw [List.length_set]; exact hI.len⟩
  · rcases key j z hz with ⟨rfl, rfl⟩ | h
    · rw [hu]; exact hI.up j x hx
    · exact hI.up j z h
  · rcases key j z hz with ⟨rfl, rfl⟩ | h
    · exact ⟨h1, h4⟩
    · exact hI.st j z h
theorem inv_nil : InvB [] := ⟨fun i x h => by simp at h, fun i x h => by simp at h, by simp⟩
theorem st_in1 (w : World) (a : Int) : StIn (w.alloc (.cells #[.int .i64 a] 3)) w.heap.size [a] := fun j hj => by
  rw [Nat.zero_add, (Blk.new w 3 #[.int .i64 a]).cell j]
  match j, hj with
  | 0, _ => rfl
  | j + 1, hj => simp at hj
theorem st_in2 (w : World) (a b : Int) : StIn (w.alloc (.cells #[.int .i64 a, .int .i64 b] 3)) w.heap.size [a, b] := fun j hj => by
  rw [Nat.zero_add, (Blk.new w 3 #[.int .i64 a, .int .i64 b]).cell j]
  match j, hj with
  | 0, _ => rfl
  | 1, _ => rfl
  | j + 2, hj => simp at hj; omega
set_option maxHeartbeats 1000000 in
theorem fnew_any (w : World) : Calls Try.prog 24 #[] w fun e w' => e = .returned (.pointer (some ⟨w.heap.size, 0, none⟩)) ∧ ForC w.heap.size (.slice none 0 0) [] w' ∧ Below w.heap.size w w' := by
  go_enter Try.func24, Try.ntmps24
  go_wp2
  go_ret
  exact ⟨rfl, ⟨Blk.new _ _ _, World.ownsRow_nil _ _ _ _, inv_nil⟩, (Below.refl _ _).alloc (Nat.le_refl _) _⟩
section
variable {fb : Nat} {v : Value} {bs : List Bub} {w w' : World}
set_option maxHeartbeats 4000000 in
theorem around_any (b : Int) (h : ForC fb v bs w) : Calls Try.prog 31 #[.pointer (some ⟨fb, 0, none⟩), .int .i64 b] w fun e w' => ∃ u, e = .returned u ∧ MineN w.heap.size u (way bs b) w' ∧ Below w.heap.size w w' := by
  have HF := Lib.hid h
  have HW := Lib.hid (way_len32 h.inv b)
  obtain ⟨Y, hY⟩ : ∃ Y, way bs b = Y := ⟨_, rfl⟩
  have HY := Lib.hid hY
  rw [hY] at HW ⊢
  clear h hY
  go_enter Try.func31, Try.ntmps31
  go_wp2_with fail
  go_loopw [1, 5] (fun bv lv wr => ∃ (c : Int) (u : Value) (L : List Int), bv = .int .i64 c ∧ u = lv ∧ MineN w.heap.size u L wr ∧ Below w.heap.size w wr ∧ L ++ way bs c = Y) (fun bv _ _ => (intOf bv + 1).toNat)
  case atStart => exact ⟨b, _, [], rfl, rfl, mineN_nil _ _, Below.refl _ _, HY.out⟩
  case round =>
    obtain ⟨c, u, L, rfl, rfl, hm, hb, hl⟩ := hrel
    have HM := Lib.hid hm; have HB := Lib.hid hb; have HL := Lib.hid hl
    have HH := Lib.hid (fhas_any c (HF.out.below hb))
    clear hm hb hl HY
    cases hc : inB bs c with
    | false =>
      rw [hc] at HH
      have HC := Lib.hid hc
      clear hc
      go_wp2_with (go_at_call 27; (with_reducible refine HH.out.mono ?_); rintro e wq ⟨rfl, rfl⟩)
      go_ret
      have e := HL.out
      rw [way_no HC.out, List.append_nil] at e
      exact ⟨_, rfl, by rw [← e]; exact HM.out, HB.out⟩
    | true =>
      rw [hc] at HH
      obtain ⟨k, x, rfl, hx⟩ := inB_nat hc
      have hu := HF.out.inv.up k x hx
      have hl2 : L.length ≤ 32 := by
        have e := HW.out
        rw [← HL.out, List.length_append] at e
        omega
      have HX := Lib.hid hx
      have HWY : Hid ((L ++ [(k : Int)]) ++ way bs x.up = Y) := by
        show _ = _
        rw [← HL.out, way_yes HF.out.inv hx]; simp
      have ha : Below wr.heap.size wr (wr.alloc (.cells #[.int .i64 k] 3)) := (Below.refl _ _).alloc (Nat.le_refl _) _
      have HM8 := Lib.hid (HM.out.on ha)
      have HB8 := Lib.hid (HB.out.trans (ha.mono HB.out.size))
      have hbk := (Blk.new wr 3 #[.int .i64 k]).cell 0
      simp only [List.getElem?_toArray, List.getElem?_cons_zero] at hbk
      have HBS := Lib.hid hbk
      clear ha hbk hx hc
      go_wp2_with (first
        | (go_at_call 27; (with_reducible refine HH.out.mono ?_); rintro e wq ⟨rfl, rfl⟩)
        | (at_builtin; refine haltM ?_))
      refine Lib.hid ?_
      refine app_mine rfl (.tmp 17) (.tmp 19) rfl w.heap.size u L rfl HM8.out _ k rfl HBS.out (by omega) HB8.out.size ?_
      intro u' w9 own9 b9
      have HM9 := Lib.hid own9
      have HB9 := Lib.hid (HB8.out.trans b9)
      have hf := HF.out.below HB9.out
      obtain ⟨g, cap, hv, hr, -⟩ := row_at hf.row HX.out
      have c0 := hf.cell
      rw [hv] at c0
      have y := hr 0 _ (bubL_0 x)
      rw [Nat.add_zero] at y
      have i0 : (0 : Int) ≤ (k : Int) := by omega
      have i1 : (k : Int) < (bs.length : Int) := by have := (List.getElem?_eq_some_iff.1 HX.out).1; omega
      clear own9 b9 HM8 HB8 HBS hf hr
      generalize x.up = up at *
      generalize bs.length = n at *
      go_wp2_with fail
      go_roundw
      case rel => exact ⟨up, u', L ++ [(k : Int)], rfl, rfl, HM9.out, HB9.out, HWY.out⟩
      case measure => simp [intOf]; omega
set_option maxHeartbeats 1000000 in
theorem around_nil (b : Int) (w : World) : Calls Try.prog 31 #[.pointer none, .int .i64 b] w fun e w' => ∃ u, e = .returned u ∧ MineN w.heap.size u (way [] b) w' ∧ Below w.heap.size w w' := by
  have hn : inB [] b = false := by unfold inB; simp
  have HH := Lib.hid (fhas_nil b w)
  rw [hn] at HH
  rw [way_no hn]
  clear hn
  go_enter Try.func31, Try.ntmps31
  go_wp2_with fail
  go_loopw [1, 5] (fun bv lv wr => bv = .int .i64 b ∧ lv = .slice none 0 0 ∧ wr = w) (fun _ _ _ => 0)
  case atStart => exact ⟨rfl, rfl, rfl⟩
  case round =>
    obtain ⟨rfl, rfl, rfl⟩ := hrel
    go_wp2_with (go_at_call 27; (with_reducible refine HH.out.mono ?_); rintro e wq ⟨rfl, rfl⟩)
    go_ret
    exact ⟨_, rfl, mineN_nil _ _, Below.refl _ _⟩
end
end Go.Proofs.Ytekahmfchpgmfaa
