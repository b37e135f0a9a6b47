/- LintWays' walk. -/
import Derived.Test.YthoddoabcdbliaaMj
import Derived.Test.YthoddoabcdbliaaPd
import Derived.Test.YthoddoabcdbliaaPe
import Derived.Deep.DeepCutAuto
namespace Go.Proofs.Ythoddoabcdbliaa
open Go.RowKit

/-- The places among the first n that are in t, in their order. -/
def goL (t : List Int) (n : Nat) : List Int := ((List.range n).map fun i : Nat => (i : Int)).filter (fun y => decide (y ∈ t))
theorem goL_succ (t : List Int) (n : Nat) : goL t (n + 1) = goL t n ++ (if decide ((n : Int) ∈ t) = true then [(n : Int)] else []) := by
  unfold goL
  rw [List.range_succ, List.map_append, List.filter_append]
  congr 1
  by_cases h : (n : Int) ∈ t <;> simp [h]
theorem goL_len (t : List Int) (n : Nat) : (goL t n).length ≤ n := by
  unfold goL
  exact Nat.le_trans (List.length_filter_le _ _) (by simp)
/-- A program's box, and a row of bools behind it. -/
theorem ways_next (pc : Int) {prio : Int} {l : List I4} (hf : Fine prio l) (hn : ∀ (k : Nat) (x : I4), l[k]? = some x → In32 x.n) :
    ∃ t : List Int, goL t l.length = t ∧ (∀ (k : Nat) x, (k : Int) = pc → l[k]? = some x → nextP x k = t) ∧ (¬ (0 ≤ pc ∧ pc < (l.length : Int)) → t = []) := by
  by_cases h : 0 ≤ pc ∧ pc < (l.length : Int)
  · obtain ⟨k, rfl⟩ : ∃ k : Nat, pc = k := ⟨pc.toNat, by omega⟩
    obtain ⟨x, hx⟩ : ∃ x, l[k]? = some x := ⟨_, List.getElem?_eq_getElem (by omega)⟩
    refine ⟨nextP x k, sorted_filter (nextP_sorted x k) _ (nextP_in hf hx (hn k x hx)), fun j y hj hy => ?_, fun q => absurd h q⟩
    obtain rfl : j = k := by omega
    rw [hx] at hy; cases hy; rfl
  · refine ⟨[], by simp [goL], fun k x hk hx => ?_, fun _ => rfl⟩
    have := (List.getElem?_eq_some_iff.1 hx).1
    omega
set_option maxRecDepth 100000 in
set_option maxHeartbeats 16000000 in
theorem ways26_any (prio : Int) (A : Option Addr) (l : List I4) (cap : Nat) (pc : Int) (w : World) (hI : InsIn w A l) :
    Calls Try.prog 3 #[.agg #[.int .i64 prio, .slice A l.length cap], .int .i64 pc] w (GotB w.heap.size (.bool true) w) := by
  have hb := Blk.new w 24 #[.int .i64 prio, .slice A l.length cap]
  have hB1 : Below w.heap.size w (w.alloc (.cells #[.int .i64 prio, .slice A l.length cap] 24)) := (Below.refl _ _).alloc (Nat.le_refl _) _
  have HFN := fine26_any prio A l cap _ (hI.below hB1)
  have HB := Lib.hid hb; have HB1 := Lib.hid hB1
  clear hb hB1
  by_cases hfi : l.length ≤ 30 ∧ (progE prio l).1 = 0
  · rw [decide_eq_true hfi] at HFN
    have hf := fine_of hfi.2
    have hlen := hf.len
    have h30 := hfi.1
    obtain ⟨t, ht, hpc, hout⟩ := ways_next pc hf (fun k x hx => (hI k x hx).1.n)
    have HGO : Hid (∀ (W : World) (b : Nat), Below w.heap.size w W → Calls Try.prog 8 #[.agg #[.int .i64 prio, .slice A l.length cap], .int .i64 pc, .int .i64 b] W (GotB W.heap.size (.bool (decide ((b : Int) ∈ t))) W)) := fun W b h => by
      by_cases hk : 0 ≤ pc ∧ pc < (l.length : Int)
      · obtain ⟨k, rfl⟩ : ∃ k : Nat, pc = k := ⟨pc.toNat, by omega⟩
        obtain ⟨x, hx⟩ : ∃ x, l[k]? = some x := ⟨_, List.getElem?_eq_getElem (by omega)⟩
        rw [← hpc k x rfl hx]
        exact goes_in x prio A l cap k b W (hI.below h) hx hlen.2
      · rw [hout hk]
        have := goes_out prio A l.length cap pc b W hk hlen.2
        simpa using this
    have HNX : Hid (∀ (W : World), Below w.heap.size w W → Calls Try.prog 12 #[.agg #[.int .i64 prio, .slice A l.length cap], .int .i64 pc] W (NextP t W)) := fun W h => by
      by_cases hk : 0 ≤ pc ∧ pc < (l.length : Int)
      · obtain ⟨k, rfl⟩ : ∃ k : Nat, pc = k := ⟨pc.toNat, by omega⟩
        obtain ⟨x, hx⟩ : ∃ x, l[k]? = some x := ⟨_, List.getElem?_eq_getElem (by omega)⟩
        rw [← hpc k x rfl hx]
        exact next_any x prio A l cap k W (hI.below h) hx hf
      · rw [hout hk]
        exact next_out prio A l.length cap pc W hk hlen.2
    obtain ⟨R, hR⟩ : ∃ R : Nat → Bool, ∀ k, R k = true ↔ Rch l k := by
      refine ⟨fun k => @decide (Rch l k) (Classical.propDecidable _), fun k => ?_⟩
      simp
    have heq : ∀ S : Nat → Bool, (∀ k, S k = true ↔ Rch l k) → S = R := fun S hS => funext fun k => by
      rw [Bool.eq_iff_iff, hS, hR]
    have HRE : Hid (∀ W, Below w.heap.size w W → Calls Try.prog 10 #[.agg #[.int .i64 prio, .slice A l.length cap]] W fun e w' => ∃ (G : Nat), e = .returned (.slice (some ⟨G, 0, none⟩) l.length l.length) ∧ Blk w' G 4 (boolC R l.length) ∧ W.heap.size ≤ G ∧ Below W.heap.size W w') := fun W h => (Reach_any prio A l cap W (hI.below h) hf).mono fun e w' ⟨S, G, he, hS, hg, hs, hb⟩ => ⟨G, he, heq S hS ▸ hg, hs, hb⟩
    have HRR : Hid (∀ W, Below w.heap.size w W → Calls Try.prog 9 #[.agg #[.int .i64 prio, .slice A l.length cap]] W fun e w' => ∃ (G : Nat), e = .returned (.slice (some ⟨G, 0, none⟩) l.length l.length) ∧ Blk w' G 4 (boolC R l.length) ∧ W.heap.size ≤ G ∧ Below W.heap.size W w') := fun W h => (refReach_any prio A l cap W (hI.below h) hf).mono fun e w' ⟨S, G, he, hS, hg, hs, hb⟩ => ⟨G, he, heq S hS ▸ hg, hs, hb⟩
    have HID : Hid (∀ W, Below w.heap.size w W → Calls Try.prog 13 #[.agg #[.int .i64 prio, .slice A l.length cap]] W fun e w' => ∃ A' cap', e = .returned (.slice A' (idleL R l.length).length cap') ∧ NumsIn w' A' (idleL R l.length) ∧ Below W.heap.size W w') := fun W h => (Idle_any prio A l cap W (hI.below h) hf).mono fun e w' ⟨S, v, he, hm, hS, hb⟩ => by
      rw [heq S hS] at hm
      obtain ⟨A', c', rfl, hn⟩ := hm.nums
      exact ⟨A', c', he, hn, hb⟩
    have HFN := Lib.hid HFN
    obtain ⟨N, hN⟩ : ∃ N, l.length = N := ⟨_, rfl⟩
    rw [hN] at HFN HB HB1 HGO HNX HRE HRR HID hlen h30 ht ⊢
    have HT := Lib.hid ht
    clear hf hI hfi hN hR heq ht hpc hout
    have x0 := HB.out.cell 0; have x1 := HB.out.cell 1
    simp only [List.getElem?_toArray, List.getElem?_cons_zero, List.getElem?_cons_succ] at x0 x1
    go_enter Try.func3, Try.ntmps3
    go_wp2_with fail
    refine HFN.out.mono ?_
    rintro e w2 ⟨rfl, h2⟩
    have HP2 := Lib.hid (HB.out.below h2 HB.out.lt); have HB2 := Lib.hid (HB1.out.trans (h2.mono HB1.out.size))
    clear h2 x0 x1 HFN HB HB1
    have x0 := HP2.out.cell 0; have x1 := HP2.out.cell 1
    simp only [List.getElem?_toArray, List.getElem?_cons_zero, List.getElem?_cons_succ] at x0 x1
    go_wp2_with fail
    clear x0 x1
    go_loopw [5, 18] (fun lv i wr => ∃ (k : Nat) (v : Value), v = lv ∧ i = .int .i64 k ∧ k ≤ N ∧ MineN w2.heap.size v (goL t k) wr ∧ Below w2.heap.size w2 wr) (fun _ i _ => N - (intOf i).toNat)
    case atStart => exact ⟨0, _, rfl, rfl, Nat.zero_le _, mineN_nil _ _, Below.refl _ _⟩
    case round =>
      obtain ⟨k, v, rfl, rfl, hk, hm, hb⟩ := hrel
      have HMN := Lib.hid hm; have HBB := Lib.hid hb
      clear hm hb
      by_cases hlt : k < N
      · have hp := HP2.out.below HBB.out HP2.out.lt
        have x0 := hp.cell 0; have x1 := hp.cell 1
        simp only [List.getElem?_toArray, List.getElem?_cons_zero, List.getElem?_cons_succ] at x0 x1
        have k0 : (0 : Int) ≤ (k : Int) := by omega
        have k1 : (k : Int) < (N : Int) := by omega
        have hll := goL_len t k
        have HSU := Lib.hid (goL_succ t k)
        have HG := HGO.out wr k (HB2.out.trans (HBB.out.mono HB2.out.size))
        obtain ⟨q, hq⟩ : ∃ q, decide ((k : Int) ∈ t) = q := ⟨_, rfl⟩
        rw [hq] at HG HSU
        have HG := Lib.hid HG
        clear hp hq
        cases q with
        | true =>
          go_wp2_with fail
          refine HG.out.mono ?_
          rintro e w4 ⟨rfl, h4⟩
          dsimp only
          have HM4 := Lib.hid (HMN.out.on h4)
          have HB4 := Lib.hid (HBB.out.trans (h4.mono HBB.out.size))
          have ha : Below w4.heap.size w4 (w4.alloc (.cells #[.int .i64 k] 3)) := (Below.refl _ _).alloc (Nat.le_refl _) _
          have HM8 := Lib.hid (HM4.out.on ha)
          have HB8 := Lib.hid (HB4.out.trans (ha.mono HB4.out.size))
          have hbs := (Blk.new w4 3 #[.int .i64 k]).cell 0
          simp only [List.getElem?_toArray, List.getElem?_cons_zero] at hbs
          have HBS := Lib.hid hbs
          clear ha hbs h4 x0 x1 HG
          go_wp2_with (at_builtin; refine haltM ?_)
          refine Lib.hid ?_
          refine app_mine rfl (.tmp 25) (.tmp 27) rfl w2.heap.size v (goL t k) rfl HM8.out _ k rfl HBS.out (by omega) HB8.out.size ?_
          intro v' w9 own9 b9
          have HM9 : Hid (MineN w2.heap.size v' (goL t (k + 1)) w9) := by
            show MineN _ _ _ _
            rw [HSU.out]; simpa using own9
          have HB9 := Lib.hid (HB8.out.trans b9)
          clear own9 b9 HM8 HB8 HBS
          go_wp2_with fail
          go_roundw
          case rel => exact ⟨k + 1, v', rfl, by go_num, by omega, HM9.out, HB9.out⟩
          case measure => simp [intOf]; omega
        | false =>
          go_wp2_with fail
          refine HG.out.mono ?_
          rintro e w4 ⟨rfl, h4⟩
          dsimp only
          have HM9 : Hid (MineN w2.heap.size v (goL t (k + 1)) w4) := by
            show MineN _ _ _ _
            rw [HSU.out]; simpa using HMN.out.on h4
          have HB4 := Lib.hid (HBB.out.trans (h4.mono HBB.out.size))
          clear h4 x0 x1 HG
          go_wp2_with fail
          go_roundw
          case rel => exact ⟨k + 1, v, rfl, by go_num, by omega, HM9.out, HB4.out⟩
          case measure => simp [intOf]; omega
      · obtain rfl : k = N := by omega
        have tk : ¬ (k : Int) < (k : Int) := by omega
        have hm := HMN.out
        rw [HT.out] at hm
        obtain ⟨An, cn, rfl, hnn⟩ := hm.nums
        have HBW := Lib.hid (HB2.out.trans (HBB.out.mono HB2.out.size))
        have HPW := Lib.hid (HP2.out.below HBB.out HP2.out.lt)
        have HNN := Lib.hid hnn
        have HT0 := HT
        clear hm hnn HMN HBB HGO HB2 HP2 HT
        have x0 := HPW.out.cell 0; have x1 := HPW.out.cell 1
        simp only [List.getElem?_toArray, List.getElem?_cons_zero, List.getElem?_cons_succ] at x0 x1
        go_wp2_with fail
        refine (HRR.out wr HBW.out).mono ?_
        rintro e w4 ⟨G, rfl, hg, hsz, h4⟩
        dsimp only
        have HG4 := Lib.hid hg; have HB4 := Lib.hid (HBW.out.trans (h4.mono HBW.out.size)); have HP4 := Lib.hid (HPW.out.below h4 HPW.out.lt); have HN4 := Lib.hid (HNN.out.below h4)
        clear hg hsz h4 x0 x1 HBW HPW HNN HRR
        have x0 := HP4.out.cell 0; have x1 := HP4.out.cell 1
        simp only [List.getElem?_toArray, List.getElem?_cons_zero, List.getElem?_cons_succ] at x0 x1
        go_wp2_with fail
        refine (HRE.out w4 HB4.out).mono ?_
        rintro e w5 ⟨G', rfl, hg, hsz, h5⟩
        dsimp only
        have HG5 := Lib.hid (HG4.out.below h5 HG4.out.lt); have HG5' := Lib.hid hg; have HB5 := Lib.hid (HB4.out.trans (h5.mono HB4.out.size)); have HP5 := Lib.hid (HP4.out.below h5 HP4.out.lt); have HN5 := Lib.hid (HN4.out.below h5)
        clear hg hsz h5 x0 x1 HG4 HB4 HP4 HN4 HRE
        have x0 := HP5.out.cell 0; have x1 := HP5.out.cell 1
        simp only [List.getElem?_toArray, List.getElem?_cons_zero, List.getElem?_cons_succ] at x0 x1
        have t1 : ((k : Int) != (k : Int)) = false := by simp
        go_wp2_with fail
        refine (HNX.out w5 HB5.out).mono ?_
        rintro e w6 ⟨A6, c6, rfl, hn6, h6, -⟩
        dsimp only
        have htl : t.length ≤ 100000 := by
          have := goL_len t k
          have h0 := HT0.out
          rw [h0] at this
          omega
        have HSM := Lib.hid (same04_yes A6 An t c6 cn w6 htl hn6 (HN5.out.below h6))
        have HG6 := Lib.hid (HG5.out.below h6 HG5.out.lt); have HG6' := Lib.hid (HG5'.out.below h6 HG5'.out.lt); have HB6 := Lib.hid (HB5.out.trans (h6.mono HB5.out.size)); have HP6 := Lib.hid (HP5.out.below h6 HP5.out.lt)
        clear hn6 h6 x0 x1 HG5 HG5' HB5 HP5 HN5 HNX htl
        go_wp2_with fail
        refine HSM.out.mono ?_
        rintro e w7 ⟨rfl, h7⟩
        dsimp only
        have HG7 := Lib.hid (HG6.out.below h7 HG6.out.lt); have HG7' := Lib.hid (HG6'.out.below h7 HG6'.out.lt); have HB7 := Lib.hid (HB6.out.trans (h7.mono HB6.out.size)); have HP7 := Lib.hid (HP6.out.below h7 HP6.out.lt)
        clear h7 HG6 HG6' HB6 HP6 HSM
        go_wp2_with fail
        go_loopw [6, 49] (fun lv i wr => ∃ (j : Nat) (v : Value), v = lv ∧ i = .int .i64 j ∧ j ≤ k ∧ MineN w7.heap.size v (idleL R j) wr ∧ Below w7.heap.size w7 wr) (fun _ i _ => k - (intOf i).toNat)
        case atStart => exact ⟨0, _, rfl, rfl, Nat.zero_le _, mineN_nil _ _, Below.refl _ _⟩
        case round =>
          obtain ⟨j, v, rfl, rfl, hj, hm, hb⟩ := hrel
          have HMN := Lib.hid hm; have HBB := Lib.hid hb
          clear hm hb
          by_cases hlt : j < k
          · have g0 := ((HG7.out.below HBB.out HG7.out.lt).cell j).trans (boolC_get _ hlt)
            have g1 := ((HG7'.out.below HBB.out HG7'.out.lt).cell j).trans (boolC_get _ hlt)
            have j0 : (0 : Int) ≤ (j : Int) := by omega
            have j1 : (j : Int) < (k : Int) := by omega
            have hll := idleL_len R j
            have HSU := Lib.hid (idleL_succ R j)
            obtain ⟨q, hq⟩ : ∃ q, R j = q := ⟨_, rfl⟩
            rw [hq] at g0 g1 HSU
            have tq : (q != q) = false := by simp
            clear hq
            go_wp2_with fail
            go_quiet (fail)
            have HMN := Lib.hid (show MineN w7.heap.size v (idleL R j) (wr.drewN nq) from HMN.out); have HBB := Lib.hid (below_drewN HBB.out nq)
            have g0' : (wr.drewN nq).cell? ⟨G, j, none⟩ = some (.bool q) := g0
            clear g0 g1
            generalize wr.drewN nq = wq at *
            cases q with
            | false =>
              have ha : Below wq.heap.size wq (wq.alloc (.cells #[.int .i64 j] 3)) := (Below.refl _ _).alloc (Nat.le_refl _) _
              have HM8 := Lib.hid (HMN.out.on ha)
              have HB8 := Lib.hid (HBB.out.trans (ha.mono HBB.out.size))
              have hbs := (Blk.new wq 3 #[.int .i64 j]).cell 0
              simp only [List.getElem?_toArray, List.getElem?_cons_zero] at hbs
              have HBS := Lib.hid hbs
              clear ha hbs
              go_wp2_with (at_builtin; refine haltM ?_)
              refine Lib.hid ?_
              refine app_mine rfl (.tmp 66) (.tmp 68) rfl w7.heap.size v (idleL R j) rfl HM8.out _ j rfl HBS.out (by omega) HB8.out.size ?_
              intro v' w9 own9 b9
              have HM9 : Hid (MineN w7.heap.size v' (idleL R (j + 1)) w9) := by
                show MineN _ _ _ _
                rw [HSU.out]; exact own9
              have HB9 := Lib.hid (HB8.out.trans b9)
              clear own9 b9 HM8 HB8 HBS
              go_wp2_with fail
              go_roundw
              case rel => exact ⟨j + 1, v', rfl, by go_num, by omega, HM9.out, HB9.out⟩
              case measure => simp [intOf]; omega
            | true =>
              have HM9 : Hid (MineN w7.heap.size v (idleL R (j + 1)) wq) := by
                show MineN _ _ _ _
                rw [HSU.out]; simpa using HMN.out
              go_wp2_with fail
              go_roundw
              case rel => exact ⟨j + 1, v, rfl, by go_num, by omega, HM9.out, HBB.out⟩
              case measure => simp [intOf]; omega
          · obtain rfl : j = k := by omega
            have tj : ¬ (j : Int) < (j : Int) := by omega
            obtain ⟨Ai, ci, rfl, hni⟩ := HMN.out.nums
            have HNI := Lib.hid hni
            have HPR := Lib.hid (HP7.out.below HBB.out HP7.out.lt); have HBR := Lib.hid (HB7.out.trans (HBB.out.mono HB7.out.size))
            have hil := idleL_len R j
            clear hni HMN HBB HP7 HB7 HG7 HG7' tk
            have x0 := HPR.out.cell 0; have x1 := HPR.out.cell 1
            simp only [List.getElem?_toArray, List.getElem?_cons_zero, List.getElem?_cons_succ] at x0 x1
            go_wp2_with fail
            refine (HID.out wr HBR.out).mono ?_
            rintro e w8 ⟨A8, c8, rfl, hn8, h8⟩
            dsimp only
            have HSM := Lib.hid (same04_yes A8 Ai (idleL R j) c8 ci w8 (by omega) hn8 (HNI.out.below h8))
            have HB8 := Lib.hid (HBR.out.trans (h8.mono HBR.out.size))
            clear hn8 h8 x0 x1 HPR HBR HNI HID
            go_wp2_with fail
            refine HSM.out.mono ?_
            rintro e w9 ⟨rfl, h9⟩
            dsimp only
            have HB9 := Lib.hid (HB8.out.trans (h9.mono HB8.out.size))
            have HV := Lib.hid (lives26_any w9)
            clear h9 HSM HB8
            go_wp2_with (go_at_call 7; (with_reducible refine HV.out.mono ?_); rintro e w10 ⟨rfl, h10⟩; have H10 := Lib.hid h10; clear h10)
            go_ret
            exact ⟨rfl, HB9.out.trans (H10.out.mono HB9.out.size)⟩
  · rw [decide_eq_false hfi] at HFN
    have HFN := Lib.hid HFN
    have x0 := HB.out.cell 0; have x1 := HB.out.cell 1
    simp only [List.getElem?_toArray, List.getElem?_cons_zero, List.getElem?_cons_succ] at x0 x1
    clear hfi hI
    generalize l.length = N at *
    go_enter Try.func3, Try.ntmps3
    go_wp2_with fail
    refine HFN.out.mono ?_
    rintro e w2 ⟨rfl, h2⟩
    have HB2 := Lib.hid (HB1.out.trans (h2.mono HB1.out.size))
    have HV := Lib.hid (lives26_any w2)
    clear h2 x0 x1 HFN
    go_wp2_with (go_at_call 7; (with_reducible refine HV.out.mono ?_); rintro e w9 ⟨rfl, h9⟩; have H9 := Lib.hid h9; clear h9)
    go_ret
    exact ⟨rfl, HB2.out.trans (H9.out.mono HB2.out.size)⟩
end Go.Proofs.Ythoddoabcdbliaa
