/- A forest's Free, Mask; what Burst asks of each (layer 13). -/
import Derived.Test.YtekahmfchpgmfaaZh
import Derived.BigQuiet
import Derived.Deep.RegionWith
import Derived.Deep.RegionHeld3
namespace Go.Proofs.Ytekahmfchpgmfaa
open Go.RowKit
set_option maxRecDepth 100000

theorem keep4 {W : World} {a b c d : Addr} {x y z u : Value} (h : W.cell? a = some x ∧ W.cell? b = some y ∧ W.cell? c = some z ∧ W.cell? d = some u) (o : Obj) : (W.alloc o).cell? a = some x ∧ (W.alloc o).cell? b = some y ∧ (W.alloc o).cell? c = some z ∧ (W.alloc o).cell? d = some u := by
  obtain ⟨h1, h2, h3, h4⟩ := h
  refine ⟨?_, ?_, ?_, ?_⟩
  · rw [World.cell?_alloc_some _ _ _ (by rw [h1]; rfl)]; exact h1
  · rw [World.cell?_alloc_some _ _ _ (by rw [h2]; rfl)]; exact h2
  · rw [World.cell?_alloc_some _ _ _ (by rw [h3]; rfl)]; exact h3
  · rw [World.cell?_alloc_some _ _ _ (by rw [h4]; rfl)]; exact h4
section
variable {fb : Nat} {v : Value} {bs : List Bub} {w w' : World}
set_option maxHeartbeats 4000000 in
theorem ffree_any (b : Int) (h : ForC fb v bs w) : Calls Try.prog 38 #[.pointer (some ⟨fb, 0, none⟩), .int .i64 b] w fun e w' => e = .returned (.bool (freeP bs b)) ∧ Below w.heap.size w w' := by
  have hal : Below w.heap.size w (w.alloc (.cells #[.pointer (some ⟨fb, 0, none⟩)] 23)) := (Below.refl _ _).alloc (Nat.le_refl _) _
  have HAL := Lib.hid hal
  have hF := h.below hal
  have HH := Lib.hid (fhas_any b hF)
  have HF := Lib.hid hF
  have hq : (w.alloc (.cells #[.pointer (some ⟨fb, 0, none⟩)] 23)).cell? ⟨w.heap.size, 0, none⟩ = some (.pointer (some ⟨fb, 0, none⟩)) := (Blk.new w _ _).cell 0
  have HQ := Lib.hid hq
  have HA := Lib.hid (around_any b hF)
  unfold freeP
  cases hb : inB bs b with
  | false =>
    rw [hb] at HH
    simp only [Bool.false_eq_true, ↓reduceIte]
    clear h hF hal hq hb
    go_enter Try.func38, Try.ntmps38
    go_wp2_with (go_at_call 27; (with_reducible refine HH.out.mono ?_); rintro e wq ⟨rfl, rfl⟩)
    go_ret
    exact ⟨rfl, HAL.out⟩
  | true =>
    rw [hb] at HH
    simp only [↓reduceIte]
    have hwl := way_len32 h.inv b
    have hin : ∀ y ∈ way bs b, inB bs y = true := fun y hy => (way_in h.inv _ b (Nat.le_refl _) y hy).2.2
    have hno := firstNo_all bs (way bs b) 0 (Int.le_refl _)
    have HWL := Lib.hid hwl; have HIN := Lib.hid hin; have HNO := Lib.hid hno
    clear h hF hal hb hwl hin hno
    generalize way bs b = Y at *
    go_enter Try.func38, Try.ntmps38
    go_wp2_with (first
      | (go_at_call 27; (with_reducible refine HH.out.mono ?_); rintro e wq ⟨rfl, rfl⟩)
      | (go_at_call 31; (with_reducible refine HA.out.mono ?_); rintro e w2 ⟨u, rfl, hm, h2⟩; obtain ⟨A, cap, rfl, hn⟩ := hm.nums; have HI := Lib.hid (idxfree_any (cap := cap) Y (by have := HWL.out; omega) HIN.out (HF.out.below h2) hn ((h2.cell (p := ⟨w.heap.size, 0, none⟩) (by simp)).trans HQ.out) (by have := h2.size; simp at this; omega)); have H2 := Lib.hid (HAL.out.trans (h2.mono HAL.out.size)); clear hm hn h2)
      | (go_at_call 78; (with_reducible refine HI.out.mono ?_); rintro e w3 ⟨rfl, h3⟩; have H3 := Lib.hid (H2.out.trans (h3.mono H2.out.size)); clear h3)
      | go_in)
    go_ret
    exact ⟨by rw [HNO.out, Bool.not_not] <;> rfl, H3.out⟩
set_option maxHeartbeats 4000000 in
/-- The closure of Burst: does it lie in b, and is it sealed? -/
theorem burst1_any {i : Nat} {x : Bub} (b : Int) (hx : bs[i]? = some x) (h : ForC fb v bs w) {p q : Nat} (hp : w.cell? ⟨p, 0, none⟩ = some (.pointer (some ⟨fb, 0, none⟩))) (hq : w.cell? ⟨q, 0, none⟩ = some (.int .i64 b)) :
    Calls Try.prog 57 #[.int .i64 i, .pointer (some ⟨p, 0, none⟩), .pointer (some ⟨q, 0, none⟩)] w fun e w' => e = .returned (.bool (x.up == b && x.state == 2)) ∧ Below w.heap.size w w' := by
  obtain ⟨g, cap, rfl, hr, -⟩ := row_at h.row hx
  have c0 := h.cell
  have y := hr 0 _ (bubL_0 x)
  rw [Nat.add_zero] at y
  have i0 : (0 : Int) ≤ (i : Int) := by omega
  have i1 : (i : Int) < (bs.length : Int) := by have := (List.getElem?_eq_some_iff.1 hx).1; omega
  have HI := Lib.hid (fis_any hx (h.below (show Below w.heap.size w (w.alloc (.cells #[.int .i64 2] 3)).drew from ((Below.refl _ _).alloc (Nat.le_refl _) _).drew)) w.heap.size 1 1 [2] rfl (show StIn (w.alloc (.cells #[.int .i64 2] 3)).drew w.heap.size [2] from st_in1 w 2) (by omega))
  have hz : ([2] : List Int).contains x.state = (x.state == 2) := by show _ = decide (x.state = 2); simp
  rw [hz] at HI
  clear hz h hx hr
  generalize (x.state == 2) = r at *
  generalize x.up = up at *
  generalize bs.length = n at *
  cases hub : (up == b) with
  | false =>
    simp only [Bool.false_and]
    clear HI
    go_enter Try.func57, Try.ntmps57
    go_wp2_with fail
    go_region
    go_wp2_with fail
    go_ret
    exact ⟨rfl, (Below.refl _ _).drew⟩
  | true =>
    simp only [Bool.true_and]
    go_enter Try.func57, Try.ntmps57
    go_wp2_with fail
    have HS : w.drew.cell? ⟨p, 0, none⟩ = some (.pointer (some ⟨fb, 0, none⟩)) ∧ w.drew.cell? ⟨q, 0, none⟩ = some (.int .i64 b) ∧ w.drew.cell? ⟨fb, 0, none⟩ = some (.slice (some ⟨g, 0, none⟩) n cap) ∧ w.drew.cell? ⟨g, i * 19, none⟩ = some (.int .i64 up) := ⟨hp, hq, c0, y⟩
    have HSK := Lib.hid (fun (W : World) (h : W.cell? ⟨p, 0, none⟩ = some (.pointer (some ⟨fb, 0, none⟩)) ∧ W.cell? ⟨q, 0, none⟩ = some (.int .i64 b) ∧ W.cell? ⟨fb, 0, none⟩ = some (.slice (some ⟨g, 0, none⟩) n cap) ∧ W.cell? ⟨g, i * 19, none⟩ = some (.int .i64 up)) => keep4 h (.cells #[.int .i64 2] 3))
    go_region_held3 (fun X => X.cell? ⟨p, 0, none⟩ = some (.pointer (some ⟨fb, 0, none⟩)) ∧ X.cell? ⟨q, 0, none⟩ = some (.int .i64 b) ∧ X.cell? ⟨fb, 0, none⟩ = some (.slice (some ⟨g, 0, none⟩) n cap) ∧ X.cell? ⟨g, i * 19, none⟩ = some (.int .i64 up)) (first | exact HS | (exact HSK.out _ (by assumption)) | go_keep)
      (first | (go_at_call 53; (with_reducible refine HI.out.mono ?_); rintro e wq ⟨rfl, rfl⟩))
    all_goals
      go_wp2_with fail
      go_ret
      exact ⟨rfl, ((Below.refl _ _).alloc (Nat.le_refl _) _).drew⟩
end
end Go.Proofs.Ytekahmfchpgmfaa
