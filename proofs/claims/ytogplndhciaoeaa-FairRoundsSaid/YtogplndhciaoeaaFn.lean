/- layer 33 (fair): FairRounds' walk. -/
import Derived.Test.YtogplndhciaoeaaFm
import Derived.Test.YtogplndhciaoeaaFh
import Derived.Deep.Cut
namespace Go.Proofs.Ytogplndhciaoeaa
open Go.RowKit Go.Maps
set_option maxRecDepth 100000

theorem round_row (A : Option Addr) (cs : List Int) (c cap : Nat) (hc : cs.length = c) (hcl : c ≤ 1000000) (n : Int) (hn : n ≤ 4096) (w : World) (hR : RowN w.heap.size w A cs) :
    Calls Try.prog 22 #[.slice A c cap, .int .i64 n] w fun e w' => ∃ A5 cap5, e = .returned (.slice A5 (if c = 0 then 0 else n.toNat) cap5) ∧ RowsE w'.heap.size w' A5 (roundL cs (if c = 0 then 0 else n.toNat)) ∧ Below w.heap.size w w' := by
  by_cases h0 : c = 0
  · subst h0
    refine (round_none A cap n w).mono ?_
    rintro e w' ⟨rfl, rfl⟩
    exact ⟨none, 0, rfl, fun i x hx => by simp [roundL] at hx, Below.refl _ _⟩
  · refine (round_any A cs c cap hc (by omega) hcl n n.toNat (by rw [Int.min_def, if_pos hn]) w hR).mono ?_
    rintro e w' ⟨v, rfl, ho, hb⟩
    obtain ⟨A5, cap5, rfl, -, hr⟩ := ownE ho
    rw [if_neg h0, roundL_len]
    exact ⟨A5, cap5, rfl, hr, hb⟩
open Classical in
set_option maxHeartbeats 8000000 in
theorem rounds33_any (A : Option Addr) (cpus : List Int) (m cap : Nat) (n : Int) (hm : cpus.length = m) (hc : m ≤ cap) (hf : ∀ x ∈ cpus, W64 x) (w : World) (hN : RowN w.heap.size w A cpus) :
    Calls Try.prog 5 #[.slice A m cap, .int .i64 n] w fun e w' => e = .returned (.bool true) ∧ Below w.heap.size w w' := by
  obtain ⟨c, hc'⟩ : ∃ c, c = min m 20 := ⟨_, rfl⟩
  obtain ⟨N, hN'⟩ : ∃ N, N = min n 300 := ⟨_, rfl⟩
  have q1 : (m ≤ 20 ∧ c = m) ∨ (20 < m ∧ c = 20) := by omega
  have q2 : (n ≤ 300 ∧ N = n) ∨ (300 < n ∧ N = 300) := by omega
  have HL : Hid ((cpus.take c).length = c) := by show _ = _; rw [List.length_take]; omega
  have HR := Lib.hid (hN.take c)
  have HF : Hid (∀ x ∈ cpus.take c, W64 x) := fun x hx => hf x (List.mem_of_mem_take hx)
  have hc20 : c ≤ 20 := by omega
  have hn300 : N ≤ 300 := by omega
  have hcc : c ≤ cap := by omega
  clear hm hN hc' hN' hf
  generalize cpus.take c = cs at *
  go_enter Try.func5, Try.ntmps5
  go_upto_region 1 with fail
  go_cut [0, 1] (fun s t wx => s = .slice A c cap ∧ t = .int .i64 N ∧ w = wx)
  case rest =>
    obtain ⟨rfl, rfl, rfl⟩ := hcut
    clear q1 q2 hc
    have HRD := Lib.hid (round_row A cs c cap HL.out (by omega) N (by omega) w HR.out)
    obtain ⟨K, hK⟩ : ∃ K, (if c = 0 then 0 else N.toNat) = K := ⟨_, rfl⟩
    rw [hK] at HRD
    have HK := Lib.hid hK
    clear hK
    go_upto_region 3 with (go_at_call 22; (with_reducible refine HRD.out.mono ?_); rintro e w1 ⟨A5, cap5, rfl, hr5, hb5⟩; have HR5 := Lib.hid hr5; have HB5 := Lib.hid hb5; clear hr5 hb5)
    clear HRD
    have HRW : Hid (RowN w1.heap.size w1 A cs) := (HR.out.below HB5.out).mono HB5.out.size
    have HLV := Lib.hid lives33_any
    go_wp2_with fail
    go_loopw [25] (fun iv wr => ∃ k : Nat, iv = .int .i64 k ∧ k ≤ c ∧ (∀ i j, (hij : i < j) → j < k → (hj : j < cs.length) → cs[j] ≠ cs[i]'(by omega)) ∧ w1 = wr) (fun iv _ => c - (intOf iv).toNat)
    case atStart => exact ⟨0, rfl, Nat.zero_le _, fun i j _ h => absurd h (by omega), rfl⟩
    case round =>
      obtain ⟨k, rfl, hk, ho, rfl⟩ := hrel
      have HO := Lib.hid ho
      clear ho
      by_cases hlt : k < c
      · have hkl : k < cs.length := by rw [HL.out]; exact hlt
        obtain ⟨b, o, rfl, -, hcc⟩ := HRW.out k hkl
        obtain ⟨x, hx⟩ : ∃ x, cs[k] = x := ⟨_, rfl⟩
        rw [hx] at hcc
        have HX := Lib.hid hx
        clear hx
        have k0 : (0 : Int) ≤ (k : Int) := by omega
        have k1 : (k : Int) < (c : Int) := by omega
        have k2 : (k : Int) ≤ (cap : Int) := by omega
        go_wp2_with fail
        go_loopw [34] (fun iv wr => ∃ i : Nat, iv = .int .i64 i ∧ i ≤ k ∧ (∀ t, (ht : t < i) → (hk : t < cs.length) → x ≠ cs[t]) ∧ w1 = wr) (fun iv _ => k - (intOf iv).toNat)
        case atStart => exact ⟨0, rfl, Nat.zero_le _, fun t h => absurd h (by omega), rfl⟩
        case round =>
          obtain ⟨i, rfl, hi, hne, rfl⟩ := hrel
          have HNE := Lib.hid hne
          clear hne
          by_cases hik : i < k
          · obtain ⟨b2, o2, e2, -, hy⟩ := HRW.out i (by omega)
            obtain ⟨rfl, rfl⟩ : b = b2 ∧ o = o2 := by injection e2 with e1; injection e1 with x y z; exact ⟨x, y⟩
            clear e2
            obtain ⟨y, hye⟩ : ∃ y, cs[i]'(by omega) = y := ⟨_, rfl⟩
            rw [hye] at hy
            have HYE := Lib.hid hye
            clear hye
            have i0 : (0 : Int) ≤ (i : Int) := by omega
            have i1 : (i : Int) < (k : Int) := by omega
            by_cases hxy : x = y
            · subst hxy
              go_wp2_with (go_at_call 13; (with_reducible refine (HLV.out _).mono ?_); rintro e w4 ⟨rfl, hb4⟩; have HB4 := Lib.hid hb4; clear hb4)
              go_ret
              exact ⟨rfl, HB5.out.trans (HB4.out.mono HB5.out.size)⟩
            · go_wp2_with fail
              go_roundw
              case rel => exact ⟨i + 1, by go_num, by omega, fun t ht hk => by
                by_cases c : t = i
                · subst c; rw [HYE.out]; exact hxy
                · exact HNE.out t (by omega) hk, trivial⟩
              case measure => simp [intOf]; omega
          · obtain rfl : i = k := by omega
            go_wp2_with fail
            go_roundw
            case rel => exact ⟨i + 1, by go_num, by omega, fun a j hij hj hjl => by
              by_cases c : j = i
              · subst c; rw [HX.out]; exact HNE.out a hij (by omega)
              · exact HO.out a j hij (by omega) hjl, trivial⟩
            case measure => simp [intOf]; omega
      · obtain rfl : k = c := by omega
        have HON : Hid (Once cs) := fun i j hij hj => HO.out i j hij (by have := HL.out; omega) hj
        clear HO
        obtain ⟨w0, hw0⟩ : ∃ x, x = w1 := ⟨_, rfl⟩
        subst hw0
        by_cases hz : k = 0
        · subst hz
          obtain rfl : K = 0 := by have := HK.out; simp at this; exact this.symm
          go_wp2_with (go_at_call 13; (with_reducible refine (HLV.out _).mono ?_); rintro e w4 ⟨rfl, hb4⟩; have HB4 := Lib.hid hb4; clear hb4)
          go_ret
          exact ⟨rfl, HB5.out.trans (HB4.out.mono HB5.out.size)⟩
        · have hKN : N.toNat = K := by have := HK.out; rw [if_neg hz] at this; exact this
          have z0 : ((k : Int) == 0) = false := by rw [beq_eq_false_iff_ne]; omega
          have z1 : ¬ (k : Int) = 0 := by omega
          by_cases hn0 : N ≤ 0
          · obtain rfl : K = 0 := by omega
            clear hKN
            go_wp2_with (go_at_call 13; (with_reducible refine (HLV.out _).mono ?_); rintro e w4 ⟨rfl, hb4⟩; have HB4 := Lib.hid hb4; clear hb4)
            go_ret
            exact ⟨rfl, HB5.out.trans (HB4.out.mono HB5.out.size)⟩
          · obtain rfl : N = (K : Int) := by omega
            have hK1 : ¬ (K : Int) ≤ 0 := by omega
            have HLK : Hid ((roundL cs K).length = K) := roundL_len cs K
            clear hKN hn0
            go_wp2_with fail
            go_loopw [59] (fun iv wr => ∃ i : Nat, iv = .int .i64 i ∧ i ≤ K ∧ Below w0.heap.size w0 wr) (fun iv _ => K - (intOf iv).toNat)
            case atStart => exact ⟨0, rfl, Nat.zero_le _, Below.refl _ _⟩
            case round =>
              obtain ⟨i, rfl, hi, hb⟩ := hrel
              have HB := Lib.hid hb
              clear hb
              by_cases hik : i < K
              · have hm : i % k < k := Nat.mod_lt _ (by omega)
                obtain ⟨b, o, rfl, hbn, hcc⟩ := (HRW.out.below HB.out) (i % k) (by rw [HL.out]; exact hm)
                have HX : Hid ((roundL cs K)[i]? = some ⟨1, cs[i % k]'(by rw [HL.out]; exact hm), 0, 0, 0⟩) := by
                  show _ = _
                  have e : i % cs.length = i % k := by rw [HL.out]
                  unfold roundL
                  rw [List.getElem?_map, List.getElem?_range hik, Option.map_some, e, List.getD_eq_getElem?_getD, List.getElem?_eq_getElem (by rw [HL.out]; exact hm)]; rfl
                generalize cs[i % k]'(by rw [HL.out]; exact hm) = x at *
                obtain ⟨b2, o2, rfl, -, hr⟩ := (HR5.out.below HB.out) i _ HX.out
                have HRG := Lib.hid hr
                have HID : Hid ((Try.prog.info? 34).map (·.size) = some (clE ⟨1, x, 0, 0, 0⟩).length) := by show _ = _; rw [infoE5, clE_len]
                have i0 : (0 : Int) ≤ (i : Int) := by omega
                have i1 : (i : Int) < (K : Int) := by omega
                clear hr HX
                go_upto_region 18 with (first
                  | (with_reducible (show wpList _ _ _ _ _ _); refine wpList_load_mid rfl 34 (.tmp 62) rfl b2 (o2 + i * 5) rfl (clE ⟨1, x, 0, 0, 0⟩) _ HRG.out Try.underlying34 rfl HID.out ?_)
                  | (with_reducible (show wpList _ _ _ _ _ _); refine stE (d := ⟨1, x, 0, 0, 0⟩) rfl (.tmp 11) (.tmp 63) rfl wr.heap.size rfl rfl _ (Blk.new wr _ _) rfl ?_))
                have hbx : Blk ((wr.alloc (.cells #[.int .i64 0, .int .i64 0, .int .i64 0, .int .i64 0, .int .u64 0] 34)).setRow wr.heap.size (clE ⟨1, x, 0, 0, 0⟩).toArray) wr.heap.size 34 (clE ⟨1, x, 0, 0, 0⟩).toArray := setRow_heap _ _ _ _ _ _ (Blk.new wr _ _)
                have hbw : Below wr.heap.size wr ((wr.alloc (.cells #[.int .i64 0, .int .i64 0, .int .i64 0, .int .i64 0, .int .u64 0] 34)).setRow wr.heap.size (clE ⟨1, x, 0, 0, 0⟩).toArray) := (((But.of_below (X := fun k => wr.heap.size ≤ k) (Below.refl _ _)).alloc _).row _ _ (.inl (Nat.le_refl _))).below (Nat.le_refl _) fun k _ z => z
                generalize (wr.alloc (.cells #[.int .i64 0, .int .i64 0, .int .i64 0, .int .i64 0, .int .u64 0] 34)).setRow wr.heap.size (clE ⟨1, x, 0, 0, 0⟩).toArray = V at *
                have HBV : Hid (Below w0.heap.size w0 V) := HB.out.trans (hbw.mono HB.out.size)
                have hcx : V.cell? ⟨b, o + i % k, none⟩ = some (.int .i64 x) := (hbw.cell (p := ⟨b, o + i % k, none⟩) (Nat.lt_of_lt_of_le hbn HB.out.size)).trans hcc
                clear hbw HRG HID hcc
                generalize wr.heap.size = g at *
                have e0 : V.cell? ⟨g, 0, none⟩ = some (.int .i64 1) := hbx.cell 0
                have e1 : V.cell? ⟨g, 1, none⟩ = some (.int .i64 x) := hbx.cell 1
                have e2 : V.cell? ⟨g, 2, none⟩ = some (.int .i64 0) := hbx.cell 2
                have e3 : V.cell? ⟨g, 3, none⟩ = some (.int .i64 0) := hbx.cell 3
                have e4 : V.cell? ⟨g, 4, none⟩ = some (.int .u64 0) := hbx.cell 4
                clear hbx
                have hme : Int.tmod (i : Int) (k : Int) = ((i % k : Nat) : Int) := by rw [Int.ofNat_tmod]
                have m0 : (0 : Int) ≤ Int.tmod (i : Int) (k : Int) := by rw [hme]; omega
                have m1 : Int.tmod (i : Int) (k : Int) < (k : Int) := by rw [hme]; omega
                have m2 : (Int.tmod (i : Int) (k : Int)).toNat = i % k := by rw [hme]; rfl
                clear hme
                dsimp only [Act.put]
                go_region
                go_wp2_with fail
                go_roundw
                case rel => exact ⟨i + 1, by first | rfl | go_num, by omega, HBV.out.drew⟩
                case measure => simp [intOf]; omega
              · obtain rfl : i = K := by omega
                have hbs := HB.out.size
                have HW := Lib.hid (window_any A5 A (roundL cs i) i cap5 cs k cap HLK.out (by omega) HL.out (by omega) wr ((HR5.out.below HB.out).mono hbs) ((HRW.out.below HB.out).mono hbs))
                have HV := Lib.hid (fun (W : World) (h : Below w0.heap.size w0 W) => even_any A5 A (roundL cs i) i cap5 cs k cap HLK.out (by omega) HL.out (by omega) (fun x hx => by
                  obtain ⟨j, _, rfl⟩ := List.mem_map.1 hx
                  show W64 (cs.getD (j % cs.length) 0)
                  rw [List.getD_eq_getElem?_getD, List.getElem?_eq_getElem (Nat.mod_lt _ (by have := HL.out; omega))]
                  exact HF.out _ (List.getElem_mem _)) HF.out W ((HR5.out.below h).mono h.size) ((HRW.out.below h).mono h.size))
                have HEV : Hid (decide (evenL (stepsL (roundL cs i) cs)) = true) := decide_eq_true (even_round HON.out i)
                rw [HEV.out] at HV
                have HWN := Lib.hid (fun h => window_round HON.out (by have := HL.out; omega) i h)
                rw [HL.out] at HWN
                generalize gapM (roundL cs i) cs = wv at *
                clear hbs
                by_cases hik2 : k ≤ i
                · have hwv : ((wv : Int) + 1) = (k : Int) := by have := HWN.out hik2; omega
                  rw [hwv] at HW
                  clear hwv HWN
                  have n1 : ¬ (i : Int) < (k : Int) := by omega
                  go_wp2_with (first
                    | (go_at_call 17; (with_reducible refine HW.out.mono ?_); rintro e w3 ⟨rfl, hb3⟩; have HB3 := Lib.hid (HB.out.trans (hb3.mono HB.out.size)); clear hb3)
                    | (go_at_call 21; (with_reducible refine (HV.out _ HB3.out).mono ?_); rintro e w4 ⟨rfl, hb4⟩; have HB4 := Lib.hid (HB3.out.trans (hb4.mono HB3.out.size)); clear hb4)
                    | (go_at_call 13; (with_reducible refine (HLV.out _).mono ?_); rintro e w5 ⟨rfl, hb5⟩; have HB6 := Lib.hid (HB4.out.trans (hb5.mono HB4.out.size)); clear hb5))
                  go_ret
                  exact ⟨rfl, HB5.out.trans (HB6.out.mono HB5.out.size)⟩
                · have n1 : (i : Int) < (k : Int) := by omega
                  go_wp2_with (first
                    | (go_at_call 17; (with_reducible refine HW.out.mono ?_); rintro e w3 ⟨rfl, hb3⟩; have HB3 := Lib.hid (HB.out.trans (hb3.mono HB.out.size)); clear hb3)
                    | (go_at_call 21; (with_reducible refine (HV.out _ HB3.out).mono ?_); rintro e w4 ⟨rfl, hb4⟩; have HB4 := Lib.hid (HB3.out.trans (hb4.mono HB3.out.size)); clear hb4)
                    | (go_at_call 13; (with_reducible refine (HLV.out _).mono ?_); rintro e w5 ⟨rfl, hb5⟩; have HB6 := Lib.hid (HB4.out.trans (hb5.mono HB4.out.size)); clear hb5))
                  go_ret
                  exact ⟨rfl, HB5.out.trans (HB6.out.mono HB5.out.size)⟩
  case first =>
    by_cases hm20 : m ≤ 20
    · obtain rfl : c = m := by omega
      have t0 : ¬ (20 : Int) < (c : Int) := by omega
      have t1 : (c : Int) ≤ 20 := by omega
      by_cases hn3 : n ≤ 300
      · obtain rfl : N = n := by omega
        clear q1 q2
        go_wp2_with fail
        go_meet
        exact ⟨rfl, rfl, rfl⟩
      · obtain rfl : N = 300 := by omega
        clear q1 q2
        have s0 : (300 : Int) < n := by omega
        go_wp2_with fail
        go_meet
        exact ⟨rfl, rfl, rfl⟩
    · obtain rfl : c = 20 := by omega
      have t0 : (20 : Int) < (m : Int) := by omega
      have t2 : (20 : Int) ≤ (cap : Int) := by omega
      have t3 : 20 ≤ cap := by omega
      by_cases hn3 : n ≤ 300
      · obtain rfl : N = n := by omega
        clear q1 q2
        go_wp2_with fail
        go_meet
        exact ⟨rfl, rfl, rfl⟩
      · obtain rfl : N = 300 := by omega
        clear q1 q2
        have s0 : (300 : Int) < n := by omega
        go_wp2_with fail
        go_meet
        exact ⟨rfl, rfl, rfl⟩
end Go.Proofs.Ytogplndhciaoeaa
