/- The document's Straight; LintStraight's walk. -/
import Derived.Test.YthoddoabcdbliaaMj
import Derived.Test.YthoddoabcdbliaaPh
import Derived.Test.YthoddoabcdbliaaPb
import Derived.Deep.DeepCutAuto
namespace Go.Proofs.Ythoddoabcdbliaa
open Go.RowKit

set_option maxRecDepth 100000 in
set_option maxHeartbeats 8000000 in
theorem refStraight_any (prio : Int) (A : Option Addr) (l : List I4) (cap : Nat) (hf : Fine prio l) : ∀ (f k : Nat) (w : World), InsIn w A l → k < l.length → f ≤ 1000 →
    Calls Try.prog 19 #[.agg #[.int .i64 prio, .slice A l.length cap], .int .i64 k, .int .i64 f] w (GotB w.heap.size (.int .i64 (stF l f k)) w) := by
  intro f
  induction f with
  | zero =>
    intro k w hI hk _
    have hlen := hf.len
    have hB : Below w.heap.size w (w.alloc (.cells #[.int .i64 prio, .slice A l.length cap] 24)) := (Below.refl _ _).alloc (Nat.le_refl _) _
    obtain ⟨x, hx⟩ : ∃ x, l[k]? = some x := ⟨_, List.getElem?_eq_getElem hk⟩
    obtain ⟨ft, bb, off, rfl, -, c0, -⟩ := (hI.below hB) k x hx
    have x1 := (Blk.new w 24 #[.int .i64 prio, .slice (some ⟨bb, off, none⟩) l.length cap]).cell 1
    simp only [List.getElem?_toArray, List.getElem?_cons_zero, List.getElem?_cons_succ] at x1
    have hop := (hf.may hx ft.n).op
    have HB := Lib.hid hB
    have hst : ((stF l 0 k : Nat) : Int) = if stopB x then 0 else 1000 := by
      unfold stF; rw [hx]; dsimp only; split <;> rfl
    rw [hst]
    have k0 : (0 : Int) ≤ (k : Int) := by omega
    have k1 : (k : Int) < (l.length : Int) := by omega
    obtain ⟨op, a, b, n⟩ := x
    dsimp only at c0 hop ⊢
    have hl : op = 1 ∨ op = 2 ∨ op = 3 ∨ op = 4 ∨ op = 5 ∨ op = 6 ∨ op = 7 ∨ op = 8 ∨ op = 9 ∨ op = 10 ∨ op = 11 ∨ op = 12 ∨ op = 13 ∨ op = 14 := by omega
    clear hI hx ft hB hst hf hlen hop
    generalize l.length = N at *
    rcases hl with rfl | rfl | rfl | rfl | rfl | rfl | rfl | rfl | rfl | rfl | rfl | rfl | rfl | rfl
    all_goals
      go_enter Try.func19, Try.ntmps19
      go_wp2_with fail
      go_ret
      exact ⟨rfl, HB.out⟩
  | succ f ih =>
    intro k w hI hk hf1
    have hlen := hf.len
    have hB : Below w.heap.size w (w.alloc (.cells #[.int .i64 prio, .slice A l.length cap] 24)) := (Below.refl _ _).alloc (Nat.le_refl _) _
    have HIH : Hid (∀ (W : World) (b : Nat), Below w.heap.size w W → b < l.length → Calls Try.prog 19 #[.agg #[.int .i64 prio, .slice A l.length cap], .int .i64 b, .int .i64 f] W (GotB W.heap.size (.int .i64 (stF l f b)) W)) := fun W b h hb => ih b W (hI.below h) hb (by omega)
    obtain ⟨x, hx⟩ : ∃ x, l[k]? = some x := ⟨_, List.getElem?_eq_getElem hk⟩
    have HGO : Hid (∀ (W : World) (b : Nat), Below w.heap.size w W → Calls Try.prog 8 #[.agg #[.int .i64 prio, .slice A l.length cap], .int .i64 k, .int .i64 b] W (GotB W.heap.size (.bool (decide ((b : Int) ∈ nextP x k))) W)) := fun W b h => goes_in x prio A l cap k b W (hI.below h) hx hlen.2
    have HSL : Hid (∀ b, stF l f b ≤ 2000) := fun b => by have := stF_le l f b; omega
    have hP := Blk.new w 24 #[.int .i64 prio, .slice A l.length cap]
    obtain ⟨ft, bb, off, rfl, -, c0, -⟩ := (hI.below hB) k x hx
    have hop := (hf.may hx ft.n).op
    have HB := Lib.hid hB; have HP := Lib.hid hP
    have x0 := hP.cell 0; have x1 := hP.cell 1
    simp only [List.getElem?_toArray, List.getElem?_cons_zero, List.getElem?_cons_succ] at x0 x1
    have hst : stF l (f + 1) k = if stopB x then 0 else mostF (stF l f) (nextP x k) l.length := by
      rw [stF, hx]
    rw [hst]
    have k0 : (0 : Int) ≤ (k : Int) := by omega
    have k1 : (k : Int) < (l.length : Int) := by omega
    cases hsb : stopB x with
    | true =>
      obtain ⟨op, a, b, n⟩ := x
      dsimp only at c0 hop
      have hl : op = 6 ∨ op = 8 ∨ op = 9 ∨ op = 10 ∨ op = 11 ∨ op = 14 := by
        have := of_decide_eq_true hsb; dsimp only at this; omega
      clear hI hx ft hB hst hf hlen hop hsb HIH HGO ih hP
      generalize l.length = N at *
      rcases hl with rfl | rfl | rfl | rfl | rfl | rfl
      all_goals
        go_enter Try.func19, Try.ntmps19
        go_wp2_with fail
        go_ret
        exact ⟨rfl, HB.out⟩
    | false =>
      rw [if_neg (by simp)]
      have hns := of_decide_eq_false hsb
      obtain ⟨t, ht⟩ : ∃ t, nextP x k = t := ⟨_, rfl⟩
      rw [ht] at HGO ⊢
      have hml : ∀ M, mostF (stF l f) t M ≤ 2001 := by
        intro M
        induction M with
        | zero => exact Nat.zero_le _
        | succ M ihM =>
          rw [mostF]
          have := HSL.out M
          split <;> omega
      have HML := Lib.hid hml
      obtain ⟨op, a, b, n⟩ := x
      dsimp only at c0 hop hns
      have t6 : (op == 6) = false := by simp; omega
      have t14 : (op == 14) = false := by simp; omega
      have h2 : (decide ((8 : Int) ≤ op) = false) ∨ (decide ((8 : Int) ≤ op) = true ∧ decide (op ≤ (11 : Int)) = false) := by
        by_cases h : 8 ≤ op
        · right; simp; omega
        · left; simp; omega
      rw [show ((f + 1 : Nat) : Int) = (f : Int) + 1 from rfl]
      have tf : ((f : Int) + 1 == 0) = false := by simp; omega
      have hfl : (f : Int) ≤ 1000 := by omega
      clear hI hx ft hB hst hf hop hsb ih hP hns ht hml
      generalize l.length = N at *
      rcases h2 with h8 | ⟨h8, h11⟩
      all_goals
        go_enter Try.func19, Try.ntmps19
        go_wp2_with fail
        clear c0
        have HW1 : Hid (Below w.heap.size w (w.alloc (.cells #[.int .i64 prio, .slice (some ⟨bb, off, none⟩) N cap] 24)) ∧ Blk (w.alloc (.cells #[.int .i64 prio, .slice (some ⟨bb, off, none⟩) N cap] 24)) w.heap.size 24 #[.int .i64 prio, .slice (some ⟨bb, off, none⟩) N cap]) := ⟨HB.out, HP.out⟩
        go_loopw [8, 36] (fun mv i wr => ∃ (b : Nat), mv = .int .i64 (mostF (stF l f) t b : Nat) ∧ i = .int .i64 b ∧ b ≤ N ∧ Below w.heap.size w wr ∧ Blk wr w.heap.size 24 #[.int .i64 prio, .slice (some ⟨bb, off, none⟩) N cap]) (fun _ i _ => N - (intOf i).toNat)
        case atStart => exact ⟨0, rfl, rfl, Nat.zero_le _, HW1.out⟩
        case round =>
          obtain ⟨b, rfl, rfl, hb, hbw, hbp⟩ := hrel
          have HBW := Lib.hid hbw; have HBP := Lib.hid hbp
          clear hbw hbp HW1 x0 x1
          by_cases hlt : b < N
          · have x0 := HBP.out.cell 0; have x1 := HBP.out.cell 1
            simp only [List.getElem?_toArray, List.getElem?_cons_zero, List.getElem?_cons_succ] at x0 x1
            have b0 : (0 : Int) ≤ (b : Int) := by omega
            have b1 : (b : Int) < (N : Int) := by omega
            have HG := Lib.hid (HGO.out wr b HBW.out)
            have hm1 := HML.out b
            have HMS : Hid (mostF (stF l f) t (b + 1) = if (b : Int) ∈ t then max (mostF (stF l f) t b) (1 + stF l f b) else mostF (stF l f) t b) := rfl
            obtain ⟨M, hM⟩ : ∃ M, mostF (stF l f) t b = M := ⟨_, rfl⟩
            rw [hM] at HMS hm1
            rw [hM]
            by_cases hin : (b : Int) ∈ t
            · rw [decide_eq_true hin] at HG
              rw [if_pos hin] at HMS
              clear hin hM
              go_wp2_with fail
              refine HG.out.mono ?_
              rintro e w4 ⟨rfl, h4⟩
              dsimp only
              have HB4 := Lib.hid (HBW.out.trans (h4.mono HBW.out.size)); have HP4 := Lib.hid (HBP.out.below h4 HBP.out.lt)
              have HR := HIH.out w4 b HB4.out hlt
              have hs1 := HSL.out b
              obtain ⟨u, hu⟩ : ∃ u, stF l f b = u := ⟨_, rfl⟩
              rw [hu] at HR hs1 HMS
              have HR := Lib.hid HR
              have x0 := HP4.out.cell 0; have x1 := HP4.out.cell 1
              simp only [List.getElem?_toArray, List.getElem?_cons_zero, List.getElem?_cons_succ] at x0 x1
              clear h4 hu HG
              have u0 : (0 : Int) ≤ (u : Int) := by omega
              have u1 : (u : Int) ≤ 2000 := by omega
              by_cases hgt : M < u + 1
              · have tg : decide ((M : Int) < 1 + (u : Int)) = true := by simp; omega
                go_wp2_with (go_at_call 19; (with_reducible refine HR.out.mono ?_); rintro e w5 ⟨rfl, h5⟩; have H5 := Lib.hid h5; clear h5)
                go_roundw
                case rel => exact ⟨b + 1, by rw [HMS.out, Nat.max_eq_right (by omega)]; rfl, by go_num, by omega, HB4.out.trans (H5.out.mono HB4.out.size), HP4.out.below H5.out HP4.out.lt⟩
                case measure => simp [intOf]; omega
              · have tg : decide ((M : Int) < 1 + (u : Int)) = false := by simp; omega
                go_wp2_with (go_at_call 19; (with_reducible refine HR.out.mono ?_); rintro e w5 ⟨rfl, h5⟩; have H5 := Lib.hid h5; clear h5)
                go_roundw
                case rel => exact ⟨b + 1, by rw [HMS.out, Nat.max_eq_left (by omega)], by go_num, by omega, HB4.out.trans (H5.out.mono HB4.out.size), HP4.out.below H5.out HP4.out.lt⟩
                case measure => simp [intOf]; omega
            · rw [decide_eq_false hin] at HG
              rw [if_neg hin] at HMS
              clear hin hM
              go_wp2_with fail
              refine HG.out.mono ?_
              rintro e w4 ⟨rfl, h4⟩
              dsimp only
              have HB4 := Lib.hid (HBW.out.trans (h4.mono HBW.out.size)); have HP4 := Lib.hid (HBP.out.below h4 HBP.out.lt)
              clear h4
              go_wp2_with fail
              go_roundw
              case rel => exact ⟨b + 1, by rw [HMS.out], by go_num, by omega, HB4.out, HP4.out⟩
              case measure => simp [intOf]; omega
          · obtain rfl : b = N := by omega
            have tb : ¬ (b : Int) < (b : Int) := by omega
            go_wp2_with fail
            go_ret
            exact ⟨rfl, HBW.out⟩
set_option maxRecDepth 100000 in
set_option maxHeartbeats 4000000 in
theorem straight_out (prio : Int) (A : Option Addr) (n cap : Nat) (k : Int) (w : World) (hk : ¬ (0 ≤ k ∧ k < (n : Int))) (hl : n ≤ 64) :
    Calls Try.prog 18 #[.agg #[.int .i64 prio, .slice A n cap], .int .i64 k] w (GotB w.heap.size (.int .i64 0) w) := by
  have hb := Blk.new w 24 #[.int .i64 prio, .slice A n cap]
  have hB : Below w.heap.size w (w.alloc (.cells #[.int .i64 prio, .slice A n cap] 24)) := (Below.refl _ _).alloc (Nat.le_refl _) _
  have HP := isPlace_any prio A n cap k (w.alloc (.cells #[.int .i64 prio, .slice A n cap] 24)) hl
  rw [decide_eq_false hk] at HP
  have HP := Lib.hid HP
  have HB := Lib.hid hb; have HBB := Lib.hid hB
  clear hb hB
  have x0 := HB.out.cell 0; have x1 := HB.out.cell 1
  simp only [List.getElem?_toArray, List.getElem?_cons_zero, List.getElem?_cons_succ] at x0 x1
  go_enter Try.func18, Try.ntmps18
  go_wp2_with fail
  refine HP.out.mono ?_
  rintro e w2 ⟨rfl, h2⟩
  have HBB2 := Lib.hid (HBB.out.trans (h2.mono HBB.out.size))
  clear h2 x0 x1 HB HBB HP
  go_wp2_with fail
  go_ret
  exact ⟨rfl, HBB2.out⟩
set_option maxRecDepth 100000 in
set_option maxHeartbeats 16000000 in
theorem straight26_any (prio : Int) (A : Option Addr) (l : List I4) (cap : Nat) (pc : Int) (w : World) (hI : InsIn w A l) :
    Calls Try.prog 5 #[.agg #[.int .i64 prio, .slice A l.length cap], .int .i64 pc] w (GotB w.heap.size (.bool true) w) := by
  have hb := Blk.new w 24 #[.int .i64 prio, .slice A l.length cap]
  have hB1 : Below w.heap.size w (w.alloc (.cells #[.int .i64 prio, .slice A l.length cap] 24)) := (Below.refl _ _).alloc (Nat.le_refl _) _
  have HFN := fine26_any prio A l cap _ (hI.below hB1)
  have HB := Lib.hid hb; have HB1 := Lib.hid hB1
  have x0 := HB.out.cell 0; have x1 := HB.out.cell 1
  simp only [List.getElem?_toArray, List.getElem?_cons_zero, List.getElem?_cons_succ] at x0 x1
  clear hb hB1
  have HLV := Lib.hid lives26_any
  by_cases hfi : (l.length ≤ 30 ∧ (progE prio l).1 = 0) ∧ l.length ≤ 12
  · obtain ⟨hfi, h12⟩ := hfi
    rw [decide_eq_true hfi] at HFN
    have hf := fine_of hfi.2
    have hlen := hf.len
    have hn : ∀ (k : Nat) (x : I4), l[k]? = some x → In32 x.n := fun k x hx => (hI k x hx).1.n
    have HFN := Lib.hid HFN
    have t12 : decide ((12 : Int) < (l.length : Int)) = false := by simp; omega
    by_cases hin : 0 ≤ pc ∧ pc < (l.length : Int)
    · obtain ⟨k, rfl⟩ : ∃ k : Nat, pc = k := ⟨pc.toNat, by omega⟩
      have hk : k < l.length := by omega
      have HS : Hid (∀ (W : World), Below w.heap.size w W → Calls Try.prog 18 #[.agg #[.int .i64 prio, .slice A l.length cap], .int .i64 k] W (GotB W.heap.size (.int .i64 (if 1000 ≤ stF l 12 k then -1 else (stF l 12 k : Int))) W)) := fun W h =>
        (Straight_any prio A l cap k W (hI.below h) hf hk).mono fun e w' ⟨r, he, hr, hb⟩ => ⟨by rw [he, str_done hf hn h12 hk hr], hb⟩
      have HD : Hid (∀ (W : World), Below w.heap.size w W → Calls Try.prog 19 #[.agg #[.int .i64 prio, .slice A l.length cap], .int .i64 k, .int .i64 12] W (GotB W.heap.size (.int .i64 (stF l 12 k)) W)) := fun W h => refStraight_any prio A l cap hf 12 k W (hI.below h) hk (by omega)
      have hsl := stF_le l 12 k
      have tk0 : decide ((k : Int) < 0) = false := by simp
      have tk1 : decide ((l.length : Int) ≤ (k : Int)) = false := by simp; omega
      generalize stF l 12 k = u at *
      clear hI hf hfi hn hin hlen
      generalize l.length = N at *
      obtain ⟨r, hr⟩ : ∃ r, (if 1000 ≤ u then -1 else (u : Int)) = r := ⟨_, rfl⟩
      rw [hr] at HS
      by_cases h1000 : 1000 ≤ u
      · rw [if_pos h1000] at hr
        subst hr
        have t1000 : decide ((1000 : Int) ≤ (u : Int)) = true := by simp; omega
        go_enter Try.func5, Try.ntmps5
        go_wp2_with fail
        refine HFN.out.mono ?_
        rintro e w2 ⟨rfl, h2⟩
        dsimp only
        have HP2 := Lib.hid (HB.out.below h2 HB.out.lt); have HB2 := Lib.hid (HB1.out.trans (h2.mono HB1.out.size))
        clear h2 x0 x1 HFN HB HB1
        have x0 := HP2.out.cell 0; have x1 := HP2.out.cell 1
        simp only [List.getElem?_toArray, List.getElem?_cons_zero, List.getElem?_cons_succ] at x0 x1
        go_wp2_with fail
        refine (HD.out w2 HB2.out).mono ?_
        rintro e w3 ⟨rfl, h3⟩
        dsimp only
        have HP3 := Lib.hid (HP2.out.below h3 HP2.out.lt); have HB3 := Lib.hid (HB2.out.trans (h3.mono HB2.out.size))
        clear h3 x0 x1 HP2 HB2 HD
        have x0 := HP3.out.cell 0; have x1 := HP3.out.cell 1
        simp only [List.getElem?_toArray, List.getElem?_cons_zero, List.getElem?_cons_succ] at x0 x1
        go_wp2_with fail
        refine (HS.out w3 HB3.out).mono ?_
        rintro e w4 ⟨rfl, h4⟩
        dsimp only
        have HB4 := Lib.hid (HB3.out.trans (h4.mono HB3.out.size))
        clear h4 x0 x1 HP3 HB3 HS
        go_wp2_with (go_at_call 7; (with_reducible refine (HLV.out _).mono ?_); rintro e w9 ⟨rfl, h9⟩; have H9 := Lib.hid h9; clear h9)
        go_ret
        exact ⟨rfl, HB4.out.trans (H9.out.mono HB4.out.size)⟩
      · rw [if_neg h1000] at hr
        subst hr
        have t1000 : decide ((1000 : Int) ≤ (u : Int)) = false := by simp; omega
        go_enter Try.func5, Try.ntmps5
        go_wp2_with fail
        refine HFN.out.mono ?_
        rintro e w2 ⟨rfl, h2⟩
        dsimp only
        have HP2 := Lib.hid (HB.out.below h2 HB.out.lt); have HB2 := Lib.hid (HB1.out.trans (h2.mono HB1.out.size))
        clear h2 x0 x1 HFN HB HB1
        have x0 := HP2.out.cell 0; have x1 := HP2.out.cell 1
        simp only [List.getElem?_toArray, List.getElem?_cons_zero, List.getElem?_cons_succ] at x0 x1
        go_wp2_with fail
        refine (HD.out w2 HB2.out).mono ?_
        rintro e w3 ⟨rfl, h3⟩
        dsimp only
        have HP3 := Lib.hid (HP2.out.below h3 HP2.out.lt); have HB3 := Lib.hid (HB2.out.trans (h3.mono HB2.out.size))
        clear h3 x0 x1 HP2 HB2 HD
        have x0 := HP3.out.cell 0; have x1 := HP3.out.cell 1
        simp only [List.getElem?_toArray, List.getElem?_cons_zero, List.getElem?_cons_succ] at x0 x1
        go_wp2_with fail
        refine (HS.out w3 HB3.out).mono ?_
        rintro e w4 ⟨rfl, h4⟩
        dsimp only
        have HB4 := Lib.hid (HB3.out.trans (h4.mono HB3.out.size))
        have tuu : ((u : Int) == (u : Int)) = true := by simp
        clear h4 x0 x1 HP3 HB3 HS
        go_wp2_with (go_at_call 7; (with_reducible refine (HLV.out _).mono ?_); rintro e w9 ⟨rfl, h9⟩; have H9 := Lib.hid h9; clear h9)
        go_ret
        exact ⟨rfl, HB4.out.trans (H9.out.mono HB4.out.size)⟩
    · have HS : Hid (∀ (W : World), Below w.heap.size w W → Calls Try.prog 18 #[.agg #[.int .i64 prio, .slice A l.length cap], .int .i64 pc] W (GotB W.heap.size (.int .i64 0) W)) := fun W h => straight_out prio A l.length cap pc W hin hlen.2
      have hc : decide (pc < 0) = true ∨ (decide (pc < 0) = false ∧ decide ((l.length : Int) ≤ pc) = true) := by
        by_cases h : pc < 0
        · left; simpa using h
        · right; simp; omega
      clear hI hf hfi hn hin hlen
      generalize l.length = N at *
      rcases hc with hc | ⟨hc, hc2⟩
      all_goals
        go_enter Try.func5, Try.ntmps5
        go_wp2_with fail
        refine HFN.out.mono ?_
        rintro e w2 ⟨rfl, h2⟩
        dsimp only
        have HP2 := Lib.hid (HB.out.below h2 HB.out.lt); have HB2 := Lib.hid (HB1.out.trans (h2.mono HB1.out.size))
        clear h2 x0 x1 HFN HB HB1
        have x0 := HP2.out.cell 0; have x1 := HP2.out.cell 1
        simp only [List.getElem?_toArray, List.getElem?_cons_zero, List.getElem?_cons_succ] at x0 x1
        go_wp2_with fail
        refine (HS.out w2 HB2.out).mono ?_
        rintro e w4 ⟨rfl, h4⟩
        dsimp only
        have HB4 := Lib.hid (HB2.out.trans (h4.mono HB2.out.size))
        clear h4 x0 x1 HP2 HB2 HS
        go_wp2_with (go_at_call 7; (with_reducible refine (HLV.out _).mono ?_); rintro e w9 ⟨rfl, h9⟩; have H9 := Lib.hid h9; clear h9)
        go_ret
        exact ⟨rfl, HB4.out.trans (H9.out.mono HB4.out.size)⟩
  · have HFN2 : ∃ b, Hid (Calls Try.prog 6 #[.agg #[.int .i64 prio, .slice A l.length cap]] (w.alloc (.cells #[.int .i64 prio, .slice A l.length cap] 24)) (GotB (w.alloc (.cells #[.int .i64 prio, .slice A l.length cap] 24)).heap.size (.bool b) (w.alloc (.cells #[.int .i64 prio, .slice A l.length cap] 24)))) ∧ (b = false ∨ (b = true ∧ decide ((12 : Int) < (l.length : Int)) = true)) := by
      refine ⟨_, HFN, ?_⟩
      by_cases h : l.length ≤ 30 ∧ (progE prio l).1 = 0
      · right
        refine ⟨decide_eq_true h, ?_⟩
        have : ¬ l.length ≤ 12 := fun q => hfi ⟨h, q⟩
        simp; omega
      · left; exact decide_eq_false h
    obtain ⟨b, HFN, hb⟩ := HFN2
    clear hfi hI
    generalize l.length = N at *
    rcases hb with rfl | ⟨rfl, t12⟩
    all_goals
      go_enter Try.func5, Try.ntmps5
      go_wp2_with fail
      refine HFN.out.mono ?_
      rintro e w2 ⟨rfl, h2⟩
      dsimp only
      have HP2 := Lib.hid (HB.out.below h2 HB.out.lt); have HB2 := Lib.hid (HB1.out.trans (h2.mono HB1.out.size))
      clear h2 x0 x1 HFN HB HB1
      have x0 := HP2.out.cell 0; have x1 := HP2.out.cell 1
      simp only [List.getElem?_toArray, List.getElem?_cons_zero, List.getElem?_cons_succ] at x0 x1
      go_wp2_with (go_at_call 7; (with_reducible refine (HLV.out _).mono ?_); rintro e w9 ⟨rfl, h9⟩; have H9 := Lib.hid h9; clear h9)
      go_ret
      exact ⟨rfl, HB2.out.trans (H9.out.mono HB2.out.size)⟩
end Go.Proofs.Ythoddoabcdbliaa
