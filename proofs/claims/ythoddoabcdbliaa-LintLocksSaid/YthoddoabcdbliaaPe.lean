/- lint.Idle, in a fine program. -/
import Derived.Test.YthoddoabcdbliaaMh
namespace Go.Proofs.Ythoddoabcdbliaa
open Go.RowKit

/-- The places that can't be come to. -/
def idleL (S : Nat → Bool) (n : Nat) : List Int := ((List.range n).filter fun i => !S i).map fun i => ((i : Nat) : Int)
theorem idleL_succ (S : Nat → Bool) (n : Nat) : idleL S (n + 1) = idleL S n ++ (if S n then [] else [(n : Int)]) := by
  unfold idleL
  rw [List.range_succ, List.filter_append, List.map_append]
  congr 1
  cases h : S n <;> simp [h]
theorem idleL_len (S : Nat → Bool) (n : Nat) : (idleL S n).length ≤ n := by
  unfold idleL; rw [List.length_map]
  exact Nat.le_trans (List.length_filter_le _ _) (by simp)
theorem MineN.wider {B B' : Nat} {v : Value} {L : List Int} {w : World} (h : MineN B' v L w) (hB : B ≤ B') : MineN B v L w := by
  refine ⟨h.1, ?_⟩
  rcases h.2 with hn | ⟨g, cp, cur, e, hbb, rest⟩
  · exact .inl hn
  · exact .inr ⟨g, cp, cur, e, Nat.le_trans hB hbb, rest⟩
set_option maxRecDepth 100000 in
set_option maxHeartbeats 8000000 in
theorem Idle_any (prio : Int) (A : Option Addr) (l : List I4) (cap : Nat) (w : World) (hI : InsIn w A l) (hf : Fine prio l) :
    Calls Try.prog 13 #[.agg #[.int .i64 prio, .slice A l.length cap]] w fun e w' => ∃ (S : Nat → Bool) (v : Value), e = .returned v ∧ MineN w.heap.size v (idleL S l.length) w' ∧ (∀ k, S k = true ↔ Rch l k) ∧ Below w.heap.size w w' := by
  have hlen := hf.len
  have hB1 : Below w.heap.size w (w.alloc (.cells #[.int .i64 prio, .slice A l.length cap] 24)) := (Below.refl _ _).alloc (Nat.le_refl _) _
  have HM := Lib.hid (Reach_any prio A l cap _ (hI.below hB1) hf)
  have hb := Blk.new w 24 #[.int .i64 prio, .slice A l.length cap]
  have HB := Lib.hid hb; have HB1 := Lib.hid hB1
  generalize l.length = N at *
  have x0 := HB.out.cell 0; have x1 := HB.out.cell 1
  simp only [List.getElem?_toArray, List.getElem?_cons_zero, List.getElem?_cons_succ] at x0 x1
  clear hI hf hb hB1
  go_enter Try.func13, Try.ntmps13
  go_wp2_with fail
  refine HM.out.mono ?_
  rintro e w2 ⟨S, G, rfl, hS, hg, hsz, hb2⟩
  dsimp only
  have HG := Lib.hid hg; have HS := Lib.hid hS
  have HB2 := Lib.hid (HB1.out.trans (hb2.mono HB1.out.size))
  clear hg hS hsz hb2 x0 x1 HB HB1 HM
  go_wp2_with fail
  go_loopw [3, 9] (fun lv i wr => ∃ (k : Nat) (v : Value), v = lv ∧ i = .int .i64 k ∧ k ≤ N ∧ MineN w2.heap.size v (idleL S k) wr ∧ Below w2.heap.size w2 wr) (fun _ i _ => N - (intOf i).toNat)
  case atStart => exact ⟨0, _, rfl, rfl, Nat.zero_le _, mineN_nil _ _, Below.refl _ _⟩
  case round =>
    obtain ⟨k, v, rfl, rfl, hk, hm, hb⟩ := hrel
    have HMN := Lib.hid hm; have HBB := Lib.hid hb
    clear hm hb
    by_cases hlt : k < N
    · have hg := HG.out.below HBB.out HG.out.lt
      have g0 : wr.cell? ⟨G, k, none⟩ = some (.bool (S k)) := (hg.cell k).trans (boolC_get _ hlt)
      have k0 : (0 : Int) ≤ (k : Int) := by omega
      have k1 : (k : Int) < (N : Int) := by omega
      have hll := idleL_len S k
      have hsu := idleL_succ S k
      have HSU := Lib.hid hsu
      clear hg hsu
      obtain ⟨b, hbb⟩ : ∃ b, S k = b := ⟨_, rfl⟩
      rw [hbb] at g0 HSU
      clear hbb
      cases b with
      | false =>
        have ha : Below wr.heap.size wr (wr.alloc (.cells #[.int .i64 k] 3)) := (Below.refl _ _).alloc (Nat.le_refl _) _
        have HM8 := Lib.hid (HMN.out.on ha)
        have HB8 := Lib.hid (HBB.out.trans (ha.mono HBB.out.size))
        have hbs := (Blk.new wr 3 #[.int .i64 k]).cell 0
        simp only [List.getElem?_toArray, List.getElem?_cons_zero] at hbs
        have HBS := Lib.hid hbs
        clear ha hbs
        go_wp2_with (at_builtin; refine haltM ?_)
        refine Lib.hid ?_
        refine app_mine rfl (.tmp 16) (.tmp 18) rfl w2.heap.size v (idleL S k) rfl HM8.out _ k rfl HBS.out (by omega) HB8.out.size ?_
        intro v' w9 own9 b9
        have HM9 : Hid (MineN w2.heap.size v' (idleL S (k + 1)) w9) := by
          show MineN _ _ _ _
          rw [HSU.out]; exact own9
        have HB9 := Lib.hid (HB8.out.trans b9)
        clear own9 b9 HM8 HB8 HBS
        go_wp2_with fail
        go_roundw
        case rel => exact ⟨k + 1, v', rfl, by go_num, by omega, HM9.out, HB9.out⟩
        case measure => simp [intOf]; omega
      | true =>
        have HM9 : Hid (MineN w2.heap.size v (idleL S (k + 1)) wr) := by
          show MineN _ _ _ _
          rw [HSU.out]; simpa using HMN.out
        go_wp2_with fail
        go_roundw
        case rel => exact ⟨k + 1, v, rfl, by go_num, by omega, HM9.out, HBB.out⟩
        case measure => simp [intOf]; omega
    · obtain rfl : k = N := by omega
      have t : ¬ (k : Int) < (k : Int) := by omega
      have HMW := Lib.hid (HMN.out.wider HB2.out.size)
      go_wp2_with fail
      go_ret
      exact ⟨S, v, rfl, HMW.out, HS.out, HB2.out.trans (HBB.out.mono HB2.out.size)⟩
end Go.Proofs.Ythoddoabcdbliaa
