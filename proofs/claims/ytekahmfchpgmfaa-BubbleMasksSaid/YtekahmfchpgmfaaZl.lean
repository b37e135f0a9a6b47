/- Which bubbles Burst turns; Burst (layer 13). -/
import Derived.Test.YtekahmfchpgmfaaZi
import Derived.Test.YtekahmfchpgmfaaZk
namespace Go.Proofs.Ytekahmfchpgmfaa
open Go.RowKit
set_option maxRecDepth 100000

/-- Those below k of which it is true, rising. -/
def selI (ask : Nat → Bool) (k : Nat) : List Int := ((List.range k).filter ask).map fun n : Nat => (n : Int)
theorem selI_succ (ask : Nat → Bool) (k : Nat) : selI ask (k + 1) = if ask k then selI ask k ++ [(k : Int)] else selI ask k := by
  unfold selI; rw [List.range_succ, List.filter_append]; cases h : ask k <;> simp [h]
theorem selI_len (ask : Nat → Bool) (k : Nat) : (selI ask k).length ≤ k := by
  unfold selI; rw [List.length_map]; exact Nat.le_trans (List.length_filter_le _ _) (by simp)
theorem selI_mem {ask : Nat → Bool} {k : Nat} {y : Int} (h : y ∈ selI ask k) : ∃ n : Nat, y = n ∧ n < k ∧ ask n = true := by
  unfold selI at h
  obtain ⟨n, hn, rfl⟩ := List.mem_map.1 h
  obtain ⟨h1, h2⟩ := List.mem_filter.1 hn
  exact ⟨n, rfl, by simpa using h1, h2⟩
def ownAsk (bs : List Bub) (b : Int) : Nat → Bool := fun n => (atB bs (n : Int)).up == b && (atB bs (n : Int)).state == 2
section
variable {fb : Nat} {v : Value} {bs : List Bub} {w w' : World}
set_option maxHeartbeats 8000000 in
theorem those_burst (b : Int) (h : ForC fb v bs w) {p q : Nat} (hp : w.cell? ⟨p, 0, none⟩ = some (.pointer (some ⟨fb, 0, none⟩))) (hq : w.cell? ⟨q, 0, none⟩ = some (.int .i64 b)) (hpw : p < w.heap.size) (hqw : q < w.heap.size) :
    Calls Try.prog 56 #[.pointer (some ⟨fb, 0, none⟩), .func (.func 57) #[] #[.pointer (some ⟨p, 0, none⟩), .pointer (some ⟨q, 0, none⟩)]] w fun e w' => ∃ u, e = .returned u ∧ MineN w.heap.size u (selI (ownAsk bs b) bs.length) w' ∧ Below w.heap.size w w' := by
  have HF := Lib.hid h; have HP := Lib.hid hp; have HQ := Lib.hid hq
  have hb32 := h.inv.len
  have c0 := h.cell
  have hfm := rowForm h.row
  clear h hp hq
  obtain ⟨n, hn⟩ : ∃ n, bs.length = n := ⟨_, rfl⟩
  have HN := Lib.hid hn
  rw [hn] at hfm hb32 ⊢
  clear hn
  have hv : ∃ A cap, v = .slice A n cap := by
    rcases hfm with ⟨rfl, rfl⟩ | ⟨g, cap, rfl⟩
    · exact ⟨none, 0, rfl⟩
    · exact ⟨_, cap, rfl⟩
  obtain ⟨A, cap, rfl⟩ := hv
  clear hfm
  go_enter Try.func56, Try.ntmps56
  go_wp2_with fail
  clear c0
  go_loopw [5, 12] (fun lv iv wr => ∃ (k : Nat) (u : Value), u = lv ∧ iv = .int .i64 k ∧ k ≤ n ∧ MineN w.heap.size u (selI (ownAsk bs b) k) wr ∧ Below w.heap.size w wr) (fun _ iv _ => n - (intOf iv).toNat)
  case atStart => exact ⟨0, _, rfl, rfl, Nat.zero_le _, mineN_nil _ _, Below.refl _ _⟩
  case round =>
    obtain ⟨k, u, rfl, rfl, hk, hm, hb⟩ := hrel
    have HM := Lib.hid hm; have HB := Lib.hid hb
    clear hm
    by_cases hlt : k < n
    · obtain ⟨x, hx⟩ : ∃ x, bs[k]? = some x := ⟨_, List.getElem?_eq_getElem (by rw [HN.out]; exact hlt)⟩
      have HC := Lib.hid (burst1_any b hx (HF.out.below hb) ((hb.cell (p := ⟨p, 0, none⟩) hpw).trans HP.out) ((hb.cell (p := ⟨q, 0, none⟩) hqw).trans HQ.out))
      have hs := selI_succ (ownAsk bs b) k
      have hask : ownAsk bs b k = (x.up == b && x.state == 2) := by unfold ownAsk; rw [atB_of hx]
      rw [hask] at hs
      have HS := Lib.hid hs
      have hsl := selI_len (ownAsk bs b) k
      clear hs hask hx hb
      generalize (x.up == b && x.state == 2) = r at *
      cases r with
      | false =>
        go_wp2_with (go_at_call 57; (with_reducible refine HC.out.mono ?_); rintro e w3 ⟨rfl, h3⟩; have HM3 := Lib.hid (HM.out.on h3); have HB3 := Lib.hid (HB.out.trans (h3.mono HB.out.size)); clear h3)
        go_roundw
        case rel => exact ⟨k + 1, u, rfl, by go_num, by omega, by rw [HS.out]; exact HM3.out, HB3.out⟩
        case measure => simp [intOf]; omega
      | true =>
        go_upto_region 6 with (go_at_call 57; (with_reducible refine HC.out.mono ?_); rintro e w3 ⟨rfl, h3⟩; have HM3 := Lib.hid (HM.out.on h3); have HB3 := Lib.hid (HB.out.trans (h3.mono HB.out.size)); clear h3)
        have ha : Below w3.heap.size w3 (w3.alloc (.cells #[.int .i64 k] 3)) := (Below.refl _ _).alloc (Nat.le_refl _) _
        have HM8 := Lib.hid (HM3.out.on ha)
        have HB8 := Lib.hid (HB3.out.trans (ha.mono HB3.out.size))
        have hbk := (Blk.new w3 3 #[.int .i64 k]).cell 0
        simp only [List.getElem?_toArray, List.getElem?_cons_zero] at hbk
        have HBS := Lib.hid hbk
        clear ha hbk HM3 HB3 HM HB HC
        go_wp2_with (at_builtin; refine haltM ?_)
        refine Lib.hid ?_
        refine app_mine rfl (.tmp 18) (.tmp 20) rfl w.heap.size u (selI (ownAsk bs b) k) rfl HM8.out _ k rfl HBS.out (by omega) HB8.out.size ?_
        intro u' w9 own9 b9
        have HM9 := Lib.hid own9
        have HB9 := Lib.hid (HB8.out.trans b9)
        clear own9 b9 HM8 HB8 HBS
        go_wp2_with fail
        go_roundw
        case rel => exact ⟨k + 1, u', rfl, by go_num, by omega, by rw [HS.out]; exact HM9.out, HB9.out⟩
        case measure => simp [intOf]; omega
    · obtain rfl : k = n := by omega
      have tk : ¬ (k : Int) < (k : Int) := by omega
      go_wp2_with fail
      go_ret
      exact ⟨_, rfl, HM.out, HB.out⟩
end
end Go.Proofs.Ytekahmfchpgmfaa
