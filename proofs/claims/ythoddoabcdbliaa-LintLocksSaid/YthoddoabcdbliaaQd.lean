/- LintLocks' walk. -/
import Derived.Test.YthoddoabcdbliaaMj
import Derived.Test.YthoddoabcdbliaaQc
import Derived.Test.YthoddoabcdbliaaPe
import Derived.Deep.DeepCutAuto
namespace Go.Proofs.Ythoddoabcdbliaa
open Go.RowKit

theorem leakL_congr {F H : Nat → Nat → Bool} (l : List I4) (n : Nat) (h : ∀ i, wordB (F i) 16 = wordB (H i) 16) : leakL F l n = leakL H l n := by
  unfold leakL
  congr 1
  apply List.filter_congr
  intro i _
  rw [h]
set_option maxRecDepth 100000 in
set_option maxHeartbeats 16000000 in
theorem locks26_any (prio : Int) (A : Option Addr) (l : List I4) (cap : Nat) (locks : Int) (w : World) (hI : InsIn w A l) :
    Calls Try.prog 4 #[.agg #[.int .i64 prio, .slice A l.length cap], .int .i64 locks] w (GotB w.heap.size (.bool true) w) := by
  have hb := Blk.new w 24 #[.int .i64 prio, .slice A l.length cap]
  have hB1 : Below w.heap.size w (w.alloc (.cells #[.int .i64 prio, .slice A l.length cap] 24)) := (Below.refl _ _).alloc (Nat.le_refl _) _
  have HFN := fine26_any prio A l cap _ (hI.below hB1)
  have HB := Lib.hid hb; have HB1 := Lib.hid hB1
  have x0 := HB.out.cell 0; have x1 := HB.out.cell 1
  simp only [List.getElem?_toArray, List.getElem?_cons_zero, List.getElem?_cons_succ] at x0 x1
  clear hb hB1
  have HLV := Lib.hid lives26_any
  by_cases hfi : l.length ≤ 30 ∧ (progE prio l).1 = 0
  · rw [decide_eq_true hfi] at HFN
    have hf := fine_of hfi.2
    have hlen := hf.len
    have h30 := hfi.1
    have hA : ∀ a, A = some a → a.block < w.heap.size := fun a ha => by
      obtain ⟨x, hx⟩ : ∃ x, l[0]? = some x := ⟨_, List.getElem?_eq_getElem (by omega)⟩
      obtain ⟨-, b, off, e, hlt, -⟩ := hI 0 x hx
      rw [ha] at e; cases e; exact hlt
    have HFN := Lib.hid HFN
    obtain ⟨FM, hM⟩ : ∃ FM : Nat → Nat → Bool, ∀ b, b < 16 → ∀ j, FM j b = true ↔ Had l b locks true j := ⟨fun j b => @decide (Had l b locks true j) (Classical.propDecidable _), fun b _ j => by simp⟩
    obtain ⟨FU, hU⟩ : ∃ FU : Nat → Nat → Bool, ∀ b, b < 16 → ∀ j, FU j b = true ↔ Sure l b locks j := ⟨fun j b => @decide (Sure l b locks j) (Classical.propDecidable _), fun b _ j => by simp⟩
    obtain ⟨R, hR⟩ : ∃ R : Nat → Bool, ∀ k, R k = true ↔ Rch l k := ⟨fun k => @decide (Rch l k) (Classical.propDecidable _), fun k => by simp⟩
    have HSE : Hid (∀ (W : World), Below w.heap.size w W → Calls Try.prog 14 #[.agg #[.int .i64 prio, .slice A l.length cap], .int .i64 locks] W fun e w' => ∃ (GA GB : Nat), e = .returned (.tuple #[.slice (some ⟨GA, 0, none⟩) l.length l.length, .slice (some ⟨GB, 0, none⟩) l.length l.length]) ∧
      Blk w' GA 39 (setC FM l.length) ∧ Blk w' GB 39 (setC FU l.length) ∧ Below W.heap.size W w') := fun W h => Sets_any prio locks A l cap FM FU W (hI.below h) hf hM hU
    have HMA : Hid (∀ (W : World), Below w.heap.size w W → Calls Try.prog 15 #[.agg #[.int .i64 prio, .slice A l.length cap], .int .i64 locks] W fun e w' => ∃ G, e = .returned (.slice (some ⟨G, 0, none⟩) l.length l.length) ∧ Blk w' G 39 (setC FM l.length) ∧ Below W.heap.size W w') := fun W h =>
      (May_any prio locks A l cap (mayI l locks) (mayBI l locks) W (hI.below h) (fun a ha => Nat.lt_of_lt_of_le (hA a ha) h.size) hf (fun j b q => by cases q) (may_B l locks) (may_S l locks)).mono fun e w' ⟨F, G, he, hg, hi, hc, _, hb⟩ =>
        ⟨G, he, by rwa [setC_congr (H := FM) (fun i _ => wordB_same _ _ 16 fun b hb => by rw [Bool.eq_iff_iff, may_done hi hc hb, hM b hb])] at hg, hb⟩
    have HMU : Hid (∀ (W : World), Below w.heap.size w W → Calls Try.prog 16 #[.agg #[.int .i64 prio, .slice A l.length cap], .int .i64 locks] W fun e w' => ∃ G, e = .returned (.slice (some ⟨G, 0, none⟩) l.length l.length) ∧ Blk w' G 39 (setC FU l.length) ∧ Below W.heap.size W w') := fun W h =>
      (Must_any prio locks A l cap (mustI l locks) (mustBI l locks) W (hI.below h) (fun a ha => Nat.lt_of_lt_of_le (hA a ha) h.size) hf (fun S hS => must_0 hf (fun k x hx => (hI k x hx).1.n) S hS _ fun i k => rfl) (must_B l locks) (must_S l locks)).mono fun e w' ⟨F, G, he, hg, hi, hc, _, hb⟩ =>
        ⟨G, he, by rwa [setC_congr (H := FU) (fun i _ => wordB_same _ _ 16 fun b hb => by rw [Bool.eq_iff_iff, must_done hi hc hb, hU b hb])] at hg, hb⟩
    have HRR : Hid (∀ W, Below w.heap.size w W → Calls Try.prog 9 #[.agg #[.int .i64 prio, .slice A l.length cap]] W fun e w' => ∃ (G : Nat), e = .returned (.slice (some ⟨G, 0, none⟩) l.length l.length) ∧ Blk w' G 4 (boolC R l.length) ∧ Below W.heap.size W w') := fun W h => (refReach_any prio A l cap W (hI.below h) hf).mono fun e w' ⟨S, G, he, hS, hg, hs, hb⟩ => ⟨G, he, (show S = R from funext fun k => by rw [Bool.eq_iff_iff, hS, hR]) ▸ hg, hb⟩
    have HLE : Hid (∀ W, Below w.heap.size w W → Calls Try.prog 17 #[.agg #[.int .i64 prio, .slice A l.length cap], .int .i64 locks] W fun e w' => ∃ A' cap', e = .returned (.slice A' (leakL FM l l.length).length cap') ∧ NumsIn w' A' (leakL FM l l.length) ∧ Below W.heap.size W w') := fun W h =>
      (Leaks_any prio locks A l cap (mayI l locks) (mayBI l locks) W (hI.below h) (fun a ha => Nat.lt_of_lt_of_le (hA a ha) h.size) hf (fun j b q => by cases q) (may_B l locks) (may_S l locks)).mono fun e w' ⟨F, v, he, hm, hi, hc, hb⟩ => by
        rw [leakL_congr (H := FM) l l.length (fun i => wordB_same _ _ 16 fun b hb => by rw [Bool.eq_iff_iff, may_done hi hc hb, hM b hb])] at hm
        obtain ⟨A', c', rfl, hn⟩ := hm.nums
        exact ⟨A', c', he, hn, hb⟩
    have HSUB : Hid (∀ j, bits .andNot .u16 (wordB (FU j) 16 : Int) (wordB (FM j) 16 : Int) = 0) := fun j => by
      rw [w16_minus]
      have : wordB (fun k => FU j k && !FM j k) 16 = wordB (fun _ => false) 16 := wordB_same _ _ 16 fun b hb => by
        cases e : FU j b with
        | false => rfl
        | true => rw [(hM b hb j).2 ((hU b hb j).1 e).1]; rfl
      rw [this]; decide
    have HRC : Hid (∀ j, R j = false → wordB (FM j) 16 = 0) := fun j hj => by
      have : wordB (FM j) 16 = wordB (fun _ => false) 16 := wordB_same _ _ 16 fun b hb => by
        cases e : FM j b with
        | false => rfl
        | true => have := (hR j).2 ((hM b hb j).1 e).rch; rw [hj] at this; cases this
      rw [this]; decide
    have HI := Lib.hid hI
    obtain ⟨N, hN⟩ : ∃ N, l.length = N := ⟨_, rfl⟩
    have HN := Lib.hid hN
    rw [hN] at HFN HB HB1 HSE HMA HMU HRR HLE hlen h30 x0 x1 ⊢
    clear hf hI hA hfi hN hR hM hU
    go_enter Try.func4, Try.ntmps4
    go_wp2_with fail
    refine HFN.out.mono ?_
    rintro e w2 ⟨rfl, h2⟩
    dsimp only
    have HP2 := Lib.hid (HB.out.below h2 HB.out.lt); have HB2 := Lib.hid (HB1.out.trans (h2.mono HB1.out.size))
    clear h2 x0 x1 HFN HB HB1
    have x0 := HP2.out.cell 0; have x1 := HP2.out.cell 1
    simp only [List.getElem?_toArray, List.getElem?_cons_zero, List.getElem?_cons_succ] at x0 x1
    go_wp2_with fail
    refine (HSE.out w2 HB2.out).mono ?_
    rintro e w3 ⟨GA, GB, rfl, ha, hbk, h3⟩
    dsimp only
    have HP3 := Lib.hid (HP2.out.below h3 HP2.out.lt); have HB3 := Lib.hid (HB2.out.trans (h3.mono HB2.out.size)); have HA3 := Lib.hid ha; have HK3 := Lib.hid hbk
    clear h3 x0 x1 ha hbk HP2 HB2 HSE
    go_upto_region 4 with fail
    go_cut [7, 8] (fun u v wx => ∃ G G', u = .slice (some ⟨G, 0, none⟩) N N ∧ v = .slice (some ⟨G', 0, none⟩) N N ∧ Blk wx G 39 (setC FM N) ∧ Blk wx G' 39 (setC FU N) ∧ Below w3.heap.size w3 wx)
    case first =>
      have x0 := HP3.out.cell 0; have x1 := HP3.out.cell 1
      simp only [List.getElem?_toArray, List.getElem?_cons_zero, List.getElem?_cons_succ] at x0 x1
      have HB0 : Hid (Below w.heap.size w w3.drew) := HB3.out.drew
      go_region_with (first
        | (go_at_call 15; (with_reducible refine (HMA.out _ HB0.out).mono ?_); rintro e w4 ⟨G, rfl, hg, h4⟩; have HG := Lib.hid hg; have H4 := Lib.hid h4; have HB4 := Lib.hid (HB0.out.trans (h4.mono HB0.out.size)); have p4 := (blk_drew HP3.out).below h4 HP3.out.lt; have y0 := p4.cell 0; have y1 := p4.cell 1; simp only [List.getElem?_toArray, List.getElem?_cons_zero, List.getElem?_cons_succ] at y0 y1; clear hg h4 p4)
        | (go_at_call 16; (with_reducible refine (HMU.out _ HB0.out).mono ?_); rintro e w4 ⟨G', rfl, hg, h4⟩; have HG' := Lib.hid hg; have H4 := Lib.hid h4; have HB4 := Lib.hid (HB0.out.trans (h4.mono HB0.out.size)); have p4 := (blk_drew HP3.out).below h4 HP3.out.lt; have y0 := p4.cell 0; have y1 := p4.cell 1; simp only [List.getElem?_toArray, List.getElem?_cons_zero, List.getElem?_cons_succ] at y0 y1; clear hg h4 p4)
        | (go_at_call 16; (with_reducible refine (HMU.out _ HB4.out).mono ?_); rintro e w5 ⟨G', rfl, hg, h5⟩; have HG' := Lib.hid hg; have H5 := Lib.hid h5; have HG5 := Lib.hid (HG.out.below h5 HG.out.lt); clear hg h5)
        | (go_at_call 15; (with_reducible refine (HMA.out _ HB4.out).mono ?_); rintro e w5 ⟨G, rfl, hg, h5⟩; have HG := Lib.hid hg; have H5 := Lib.hid h5; have HG5 := Lib.hid (HG'.out.below h5 HG'.out.lt); clear hg h5))
      all_goals
        go_wp2_with fail
        go_meet
        first
          | exact ⟨G, G', rfl, rfl, HG5.out, HG'.out, show Below w3.heap.size w3 w5 from (Below.refl _ _).drew.trans (H4.out.trans (H5.out.mono H4.out.size))⟩
          | exact ⟨G, G', rfl, rfl, HG.out, HG5.out, show Below w3.heap.size w3 w5 from (Below.refl _ _).drew.trans (H4.out.trans (H5.out.mono H4.out.size))⟩
    case rest =>
      obtain ⟨G, G', rfl, rfl, hg, hg', hb⟩ := hcut
      have HG := Lib.hid hg; have HG' := Lib.hid hg'
      have HP4 := Lib.hid (HP3.out.below hb HP3.out.lt); have HB4 := Lib.hid (HB3.out.trans (hb.mono HB3.out.size)); have HA4 := Lib.hid (HA3.out.below hb HA3.out.lt); have HK4 := Lib.hid (HK3.out.below hb HK3.out.lt)
      clear hg hg' hb HP3 HB3 HA3 HK3 HMA HMU
      generalize wc = w4 at *
      have x0 := HP4.out.cell 0; have x1 := HP4.out.cell 1
      simp only [List.getElem?_toArray, List.getElem?_cons_zero, List.getElem?_cons_succ] at x0 x1
      have tN : ((N : Int) != (N : Int)) = false := by simp
      go_wp2_with fail
      refine (HRR.out w4 HB4.out).mono ?_
      rintro e w5 ⟨GR, rfl, hr, h5⟩
      dsimp only
      have HP5 := Lib.hid (HP4.out.below h5 HP4.out.lt); have HB5 := Lib.hid (HB4.out.trans (h5.mono HB4.out.size)); have HA5 := Lib.hid (HA4.out.below h5 HA4.out.lt); have HK5 := Lib.hid (HK4.out.below h5 HK4.out.lt); have HG5 := Lib.hid (HG.out.below h5 HG.out.lt); have HG5' := Lib.hid (HG'.out.below h5 HG'.out.lt); have HR5 := Lib.hid hr
      clear h5 hr x0 x1 HP4 HB4 HA4 HK4 HG HG' HRR tN
      go_wp2_with fail
      go_loopw [9, 44] (fun lv i wr => ∃ (k : Nat) (v : Value), v = lv ∧ i = .int .i64 k ∧ k ≤ N ∧ MineN w5.heap.size v (leakL FM l k) wr ∧ Below w5.heap.size w5 wr) (fun _ i _ => N - (intOf i).toNat)
      case atStart => exact ⟨0, _, rfl, rfl, Nat.zero_le _, mineN_nil _ _, Below.refl _ _⟩
      case round =>
        obtain ⟨k, v, rfl, rfl, hk, hm, hb⟩ := hrel
        have HMN := Lib.hid hm; have HBB := Lib.hid hb
        clear hm hb
        by_cases hlt : k < N
        · obtain ⟨x, hx⟩ : ∃ x, l[k]? = some x := ⟨_, List.getElem?_eq_getElem (by rw [HN.out]; exact hlt)⟩
          have ca := ((HA5.out.below HBB.out HA5.out.lt).cell k).trans (setC_get _ hlt)
          have cb := ((HK5.out.below HBB.out HK5.out.lt).cell k).trans (setC_get _ hlt)
          have cc := ((HG5.out.below HBB.out HG5.out.lt).cell k).trans (setC_get _ hlt)
          have cd := ((HG5'.out.below HBB.out HG5'.out.lt).cell k).trans (setC_get _ hlt)
          have hsub := HSUB.out k
          have hrc := HRC.out k
          have hll := leakL_len FM l k
          have hsu := leakL_succ FM l k
          rw [hx] at hsu
          simp only [Option.map_some, Option.some.injEq] at hsu
          have HSU := Lib.hid hsu
          have k0 : (0 : Int) ≤ (k : Int) := by omega
          have k1 : (k : Int) < (N : Int) := by omega
          obtain ⟨ua, hua⟩ : ∃ u, wordB (FM k) 16 = u := ⟨_, rfl⟩
          obtain ⟨ub, hub⟩ : ∃ u, wordB (FU k) 16 = u := ⟨_, rfl⟩
          have HUA := Lib.hid hua
          rw [hua] at ca cc hsub hrc HSU; rw [hub] at cb cd hsub
          have ta : ((ua : Int) != (ua : Int)) = false := by simp
          have tb : ((ub : Int) != (ub : Int)) = false := by simp
          have hxi := HI.out.below (HB5.out.trans (HBB.out.mono HB5.out.size)) k x hx
          have HX := Lib.hid hx; have HXI := Lib.hid hxi; have HRX := Lib.hid hrc
          clear hx hsu hua hub hxi hrc
          go_upto_region 12 with fail
          go_quiet (fail)
          clear ca cb cc cd hsub
          have HBQ := Lib.hid (below_drewN HBB.out nq)
          have HMQ := Lib.hid (show MineN w5.heap.size v (leakL FM l k) (wr.drewN nq) from HMN.out)
          have HXQ : Hid (InsIn (wr.drewN nq) A l) := HI.out.below (HB5.out.trans (HBQ.out.mono HB5.out.size))
          clear HXI HMN HBB
          generalize wr.drewN nq = wq at *
          have ca := ((HA5.out.below HBQ.out HA5.out.lt).cell k).trans (setC_get _ hlt)
          obtain ⟨ua', hua⟩ : ∃ u, wordB (FM k) 16 = u := ⟨_, rfl⟩
          obtain rfl : ua' = ua := by rw [← hua]; exact HUA.out
          rw [hua] at ca
          have cr := ((HR5.out.below HBQ.out HR5.out.lt).cell k).trans (boolC_get _ hlt)
          have hpq := HP5.out.below HBQ.out HP5.out.lt
          have x0 := hpq.cell 0; have x1 := hpq.cell 1
          simp only [List.getElem?_toArray, List.getElem?_cons_zero, List.getElem?_cons_succ] at x0 x1
          obtain ⟨-, bb, off, rfl, -, c0, -⟩ := HXQ.out k x HX.out
          obtain ⟨xo, xa, xb, xn⟩ := x
          dsimp only at c0 HSU
          clear hua hpq
          by_cases hu : ua' ≠ 0 ∧ xo = 14
          · obtain ⟨hu0, rfl⟩ := hu
            have t : ((ua' : Int) != 0) = true := by simp; omega
            rw [if_pos ⟨hu0, rfl⟩] at HSU
            have hrk : R k = true := by
              cases e : R k with
              | true => rfl
              | false => exact absurd (HRX.out e) hu0
            rw [hrk] at cr
            have ha : Below wq.heap.size wq (wq.alloc (.cells #[.int .i64 k] 3)) := (Below.refl _ _).alloc (Nat.le_refl _) _
            have HM8 := Lib.hid (HMQ.out.on ha)
            have HB8 := Lib.hid (HBQ.out.trans (ha.mono HBQ.out.size))
            have hbs := (Blk.new wq 3 #[.int .i64 k]).cell 0
            simp only [List.getElem?_toArray, List.getElem?_cons_zero] at hbs
            have HBS := Lib.hid hbs
            clear ha hbs
            go_wp2_with (at_builtin; refine haltM ?_)
            refine Lib.hid ?_
            refine app_mine rfl (.tmp 99) (.tmp 101) rfl w5.heap.size v (leakL FM l k) rfl HM8.out _ k rfl HBS.out (by omega) HB8.out.size ?_
            intro v' w9 own9 b9
            have HM9 : Hid (MineN w5.heap.size v' (leakL FM l (k + 1)) w9) := by
              show MineN _ _ _ _
              rw [HSU.out]; exact own9
            have HB9 := Lib.hid (HB8.out.trans b9)
            clear own9 b9 HM8 HB8 HBS
            go_wp2_with fail
            go_roundw
            case rel => exact ⟨k + 1, v', rfl, by go_num, by omega, HM9.out, HB9.out⟩
            case measure => simp [intOf]; omega
          · rw [if_neg hu, List.append_nil] at HSU
            have HM9 : Hid (MineN w5.heap.size v (leakL FM l (k + 1)) wq) := by
              show MineN _ _ _ _
              rw [HSU.out]; exact HMQ.out
            obtain ⟨rk, hrk⟩ : ∃ b, R k = b := ⟨_, rfl⟩
            rw [hrk] at cr
            clear hrk
            cases rk with
            | false =>
              go_wp2_with fail
              go_roundw
              case rel => exact ⟨k + 1, v, rfl, by go_num, by omega, HM9.out, HBQ.out⟩
              case measure => simp [intOf]; omega
            | true =>
              have hc : ua' = 0 ∨ (ua' ≠ 0 ∧ xo ≠ 14) := by
                by_cases h : ua' = 0
                · exact .inl h
                · exact .inr ⟨h, fun e => hu ⟨h, e⟩⟩
              clear hu
              rcases hc with rfl | ⟨h1, h2⟩
              · go_wp2_with fail
                go_roundw
                case rel => exact ⟨k + 1, v, rfl, by go_num, by omega, HM9.out, HBQ.out⟩
                case measure => simp [intOf]; omega
              · have t : ((ua' : Int) != 0) = true := by simp; omega
                have t2 : (xo == 14) = false := by simpa using h2
                go_wp2_with fail
                go_roundw
                case rel => exact ⟨k + 1, v, rfl, by go_num, by omega, HM9.out, HBQ.out⟩
                case measure => simp [intOf]; omega
        · obtain rfl : k = N := by omega
          have tk : ¬ (k : Int) < (k : Int) := by omega
          obtain ⟨Al, cl, rfl, hnl⟩ := HMN.out.nums
          have HNL := Lib.hid hnl
          have HPR := Lib.hid (HP5.out.below HBB.out HP5.out.lt); have HBR := Lib.hid (HB5.out.trans (HBB.out.mono HB5.out.size))
          have hll := leakL_len FM l k
          clear hnl HMN HBB HP5 HB5 HA5 HK5 HG5 HG5' HR5
          have x0 := HPR.out.cell 0; have x1 := HPR.out.cell 1
          simp only [List.getElem?_toArray, List.getElem?_cons_zero, List.getElem?_cons_succ] at x0 x1
          go_wp2_with fail
          refine (HLE.out wr HBR.out).mono ?_
          rintro e w8 ⟨A8, c8, rfl, hn8, h8⟩
          dsimp only
          have HSM := Lib.hid (same04_yes A8 Al (leakL FM l k) c8 cl w8 (by omega) hn8 (HNL.out.below h8))
          have HB8 := Lib.hid (HBR.out.trans (h8.mono HBR.out.size))
          clear hn8 h8 x0 x1 HPR HBR HNL HLE
          go_wp2_with fail
          refine HSM.out.mono ?_
          rintro e w9 ⟨rfl, h9⟩
          dsimp only
          have HB9 := Lib.hid (HB8.out.trans (h9.mono HB8.out.size))
          clear h9 HSM HB8
          go_wp2_with (go_at_call 7; (with_reducible refine (HLV.out _).mono ?_); rintro e w10 ⟨rfl, h10⟩; have H10 := Lib.hid h10; clear h10)
          go_ret
          exact ⟨rfl, HB9.out.trans (H10.out.mono HB9.out.size)⟩
  · rw [decide_eq_false hfi] at HFN
    have HFN := Lib.hid HFN
    clear hfi hI
    generalize l.length = N at *
    go_enter Try.func4, Try.ntmps4
    go_wp2_with fail
    refine HFN.out.mono ?_
    rintro e w2 ⟨rfl, h2⟩
    dsimp only
    have HB2 := Lib.hid (HB1.out.trans (h2.mono HB1.out.size))
    clear h2 x0 x1 HFN
    go_wp2_with (go_at_call 7; (with_reducible refine (HLV.out _).mono ?_); rintro e w9 ⟨rfl, h9⟩; have H9 := Lib.hid h9; clear h9)
    go_ret
    exact ⟨rfl, HB2.out.trans (H9.out.mono HB2.out.size)⟩
end Go.Proofs.Ythoddoabcdbliaa
