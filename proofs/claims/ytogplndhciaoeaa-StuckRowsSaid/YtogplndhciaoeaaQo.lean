/- layer 27 (stuck): StuckRows' walk. -/
import Derived.Test.YtogplndhciaoeaaQn
namespace Go.Proofs.Ytogplndhciaoeaa
open Go.RowKit Go.Maps
set_option maxRecDepth 100000

theorem addA_mem {o : List (Int × Int)} {w x : Int × Int} (h : x ∈ addA o w) : x ∈ o ∨ x = w := by
  unfold addA at h
  split at h
  · simpa using h
  · exact .inl h
theorem fold_mem : ∀ (l o : List (Int × Int)) (x : Int × Int), x ∈ l.foldl addA o → x ∈ o ∨ x ∈ l
  | [], o, x, h => .inl h
  | w :: r, o, x, h => by
    rcases fold_mem r (addA o w) x h with h | h
    · rcases addA_mem h with h | h
      · exact .inl h
      · exact .inr (by simp [h])
    · exact .inr (by simp [h])
theorem apart_mem {l : List (Int × Int)} {x : Int × Int} (h : x ∈ apartL l) : x ∈ l := by
  rcases fold_mem _ _ _ h with h | h
  · cases h
  · exact List.mem_of_mem_take h
set_option maxHeartbeats 16000000 in
theorem rows27_any (A : Option Addr) (l : List (Int × Int)) (n cap : Nat) (hn : l.length = n) (hnm : n ≤ 9223372036854775807) (hf : ∀ x ∈ l, W64 x.1 ∧ W64 x.2) (task : Int) (ht : W64 task) (w : World) (h : RowW w.heap.size w A l) :
    Calls Try.prog 7 #[.slice A n cap, .int .i64 task] w fun e w' => e = .returned (.bool true) ∧ Below w.heap.size w w' := by
  have HAP := Lib.hid (apart_any A l n cap hn hnm w h)
  have hLf : ∀ x ∈ apartL l, W64 x.1 ∧ W64 x.2 := fun x hx => hf x (apart_mem hx)
  have hL1 := apart_one l
  have hLk := apart_len l
  generalize apartL l = L at *
  have HLF := Lib.hid hLf; have HL1 := Lib.hid hL1; have HT := Lib.hid ht
  clear hn hf h hLf hL1 ht
  obtain ⟨k, hk⟩ : ∃ k, L.length = k := ⟨_, rfl⟩
  rw [hk] at HAP hLk
  have HK := Lib.hid hk
  clear hk
  go_enter Try.func7, Try.ntmps7
  go_upto_region 2 with (go_at_call 23; (with_reducible refine HAP.out.mono ?_); rintro e w1 ⟨A1, c1, A2, c2, A3, c3, rfl, hr1, hr2, hr3, hb1⟩; have HR1 := Lib.hid hr1; have HR2 := Lib.hid hr2; have HR3 := Lib.hid hr3; have HB1 := Lib.hid hb1; clear hr1 hr2 hr3 hb1)
  clear HAP
  have HCH := Lib.hid (chain_any A1 L k c1 HK.out (by omega) HLF.out HL1.out task HT.out w1 HR1.out)
  go_upto_region 3 with (go_at_call 24; (with_reducible refine HCH.out.mono ?_); rintro e w2 ⟨v2, c, rfl, ho2, hc2, hl2, hb2⟩; obtain ⟨A5, c5, rfl, hcl5, hr5⟩ := ownN_rowQ ho2; have HR5 := Lib.hid hr5; have HC := Lib.hid hc2; have HB2 := Lib.hid hb2; have HCL := Lib.hid hl2; clear ho2 hc2 hl2 hb2 hr5)
  clear HCH
  obtain ⟨nc, hnc⟩ : ∃ nc, c.length = nc := ⟨_, rfl⟩
  have HNC := Lib.hid hnc
  rw [hnc] at HCL hcl5 ⊢
  have hnc0 : 0 < nc := by
    have := HC.out.first
    rw [← hnc]; exact List.length_pos_iff.2 (by rintro rfl; simp at this)
  have hncb : nc ≤ 31 := by have := HCL.out; omega
  have z0 : ((nc : Int) == 0) = false := by rw [beq_eq_false_iff_ne]; omega
  have z1 : ¬ (nc : Int) = 0 := by omega
  have z2 : (0 : Int) < (nc : Int) := by omega
  have z3 : (task != task) = false := by simp
  obtain ⟨b, o, rfl, -, hc0⟩ := HR5.out 0 (by rw [HNC.out]; exact hnc0)
  have h00 : c[0]'(by rw [HNC.out]; exact hnc0) = task := (List.getElem?_eq_some_iff.1 HC.out.first).2
  rw [h00, Nat.add_zero] at hc0
  clear h00 hnc
  have HRD : Hid (∀ W, Below w1.heap.size w1 W → Calls Try.prog 25 #[.slice A1 k c1] W fun e w' => ∃ A c, e = .returned (.slice A (risingL (thoseF isRounds L L)).length c) ∧ RowN w'.heap.size w' A (risingL (thoseF isRounds L L)) ∧ Below W.heap.size W w') := fun W h => by
    refine (Rounds27_any A1 L k c1 HK.out (by omega) HLF.out HL1.out W ((HR1.out.below h).mono h.size)).mono ?_
    rintro e w' ⟨v, rfl, ho, hb⟩
    obtain ⟨A, c, rfl, -, hr⟩ := ownN_rowQ ho
    exact ⟨A, c, rfl, hr, hb⟩
  have HSK : Hid (∀ W, Below w1.heap.size w1 W → Calls Try.prog 27 #[.slice A1 k c1] W fun e w' => ∃ A c, e = .returned (.slice A (risingL (thoseF isStuck L L)).length c) ∧ RowN w'.heap.size w' A (risingL (thoseF isStuck L L)) ∧ Below W.heap.size W w') := fun W h => by
    refine (Stuck27_any A1 L k c1 HK.out (by omega) HLF.out HL1.out W ((HR1.out.below h).mono h.size)).mono ?_
    rintro e w' ⟨v, rfl, ho, hb⟩
    obtain ⟨A, c, rfl, -, hr⟩ := ownN_rowQ ho
    exact ⟨A, c, rfl, hr, hb⟩
  have HDR : Hid (∀ W, Below w1.heap.size w1 W → Calls Try.prog 26 #[.slice A2 k c2, .slice A3 k c3] W fun e w' => ∃ A c, e = .returned (.slice A (risingL (thoseF isRounds L L)).length c) ∧ RowN w'.heap.size w' A (risingL (thoseF isRounds L L)) ∧ Below W.heap.size W w') := fun W h => by
    refine (refrounds_any A2 A3 L k c2 c3 HK.out (by omega) W ((HR2.out.below h).monoQ h.size) ((HR3.out.below h).monoQ h.size)).mono ?_
    rintro e w' ⟨v, rfl, ho, hb⟩
    obtain ⟨A, c, rfl, -, hr⟩ := ownN_rowQ ho
    exact ⟨A, c, rfl, hr, hb⟩
  have HDS : Hid (∀ W, Below w1.heap.size w1 W → Calls Try.prog 28 #[.slice A2 k c2, .slice A3 k c3] W fun e w' => ∃ A c, e = .returned (.slice A (risingL (thoseF isStuck L L)).length c) ∧ RowN w'.heap.size w' A (risingL (thoseF isStuck L L)) ∧ Below W.heap.size W w') := fun W h => by
    refine (refstuck_any A2 A3 L k c2 c3 HK.out (by omega) W ((HR2.out.below h).monoQ h.size) ((HR3.out.below h).monoQ h.size)).mono ?_
    rintro e w' ⟨v, rfl, ho, hb⟩
    obtain ⟨A, c, rfl, -, hr⟩ := ownN_rowQ ho
    exact ⟨A, c, rfl, hr, hb⟩
  have HLR : Hid ((risingL (thoseF isRounds L L)).length ≤ 30) := by
    show _ ≤ _
    rw [(rising_perm _).length_eq]
    have := thoseF_len isRounds L L; have := HK.out; omega
  have HLS : Hid ((risingL (thoseF isStuck L L)).length ≤ 30) := by
    show _ ≤ _
    rw [(rising_perm _).length_eq]
    have := thoseF_len isStuck L L; have := HK.out; omega
  generalize risingL (thoseF isRounds L L) = R1 at *
  generalize risingL (thoseF isStuck L L) = R2 at *
  have HSM1 : Hid (∀ W A c A' c', RowN W.heap.size W A R1 → RowN W.heap.size W A' R1 → Calls Try.prog 19 #[.slice A R1.length c, .slice A' R1.length c'] W fun e w' => e = .returned (.bool true) ∧ Below W.heap.size W w') := fun W A c A' c' h1 h2 => same4Q_any A A' R1 _ c c' rfl (Nat.le_trans HLR.out (by omega)) W h1 h2
  have HSM2 : Hid (∀ W A c A' c', RowN W.heap.size W A R2 → RowN W.heap.size W A' R2 → Calls Try.prog 19 #[.slice A R2.length c, .slice A' R2.length c'] W fun e w' => e = .returned (.bool true) ∧ Below W.heap.size W w') := fun W A c A' c' h1 h2 => same4Q_any A A' R2 _ c c' rfl (Nat.le_trans HLS.out (by omega)) W h1 h2
  have HX0 := HB2
  go_upto_region 5 with (first
    | (go_at_call 25; (with_reducible refine (HRD.out _ HX0.out).mono ?_); rintro e x1 ⟨B1, d1, rfl, hq1, hy1⟩; have HQ1 := Lib.hid hq1; have HX1 := Lib.hid (HX0.out.trans (hy1.mono HX0.out.size)); have HY1 := Lib.hid hy1; clear hq1 hy1)
    | (go_at_call 26; (with_reducible refine (HDR.out _ HX1.out).mono ?_); rintro e x2 ⟨B2, d2, rfl, hq2, hy2⟩; have HQ2 := Lib.hid hq2; have HQ1' := Lib.hid ((HQ1.out.below hy2).monoQ hy2.size); have HX2 := Lib.hid (HX1.out.trans (hy2.mono HX1.out.size)); have HY2 := Lib.hid (HY1.out.trans (hy2.mono HY1.out.size)); clear hq2 hy2)
    | (go_at_call 19; (with_reducible refine (HSM1.out _ _ _ _ _ HQ1'.out HQ2.out).mono ?_); rintro e x3 ⟨rfl, hy3⟩; have HX3 := Lib.hid (HX2.out.trans (hy3.mono HX2.out.size)); have HY3 := Lib.hid (HY2.out.trans (hy3.mono HY2.out.size)); clear hy3)
    | (go_at_call 27; (with_reducible refine (HSK.out _ HX3.out).mono ?_); rintro e x4 ⟨B4, d4, rfl, hq4, hy4⟩; have HQ4 := Lib.hid hq4; have HX4 := Lib.hid (HX3.out.trans (hy4.mono HX3.out.size)); have HY4 := Lib.hid (HY3.out.trans (hy4.mono HY3.out.size)); clear hq4 hy4)
    | (go_at_call 28; (with_reducible refine (HDS.out _ HX4.out).mono ?_); rintro e x5 ⟨B5, d5, rfl, hq5, hy5⟩; have HQ5 := Lib.hid hq5; have HQ4' := Lib.hid ((HQ4.out.below hy5).monoQ hy5.size); have HX5 := Lib.hid (HX4.out.trans (hy5.mono HX4.out.size)); have HY5 := Lib.hid (HY4.out.trans (hy5.mono HY4.out.size)); clear hq5 hy5)
    | (go_at_call 19; (with_reducible refine (HSM2.out _ _ _ _ _ HQ4'.out HQ5.out).mono ?_); rintro e x6 ⟨rfl, hy6⟩; have HX6 := Lib.hid (HX5.out.trans (hy6.mono HX5.out.size)); have HY6 := Lib.hid (HY5.out.trans (hy6.mono HY5.out.size)); clear hy6))
  clear hc0 z0 z1 z2 z3 HX0
  have HR6 : Hid (RowN x6.heap.size x6 (some ⟨b, o, none⟩) c) := (HR5.out.below HY6.out).monoQ HY6.out.size
  have HT2 : Hid (RowN x6.heap.size x6 A2 (L.map (·.1))) := (HR2.out.below HX6.out).monoQ HX6.out.size
  have HT3 : Hid (RowN x6.heap.size x6 A3 (L.map (·.2))) := (HR3.out.below HX6.out).monoQ HX6.out.size
  have HW6 : Hid (Below w.heap.size w x6) := HB1.out.trans (HX6.out.mono HB1.out.size)
  clear HQ1 HQ2 HQ4 HQ5 HX1 HX2 HX3 HX4 HX5 HY1 HY2 HY3 HY4 HY5 HSM1 HSM2 HRD HSK HDR HDS
  go_wp2_with fail
  go_loopw [57] (fun iv wr => ∃ i : Nat, iv = .int .i64 i ∧ i ≤ nc ∧ x6 = wr) (fun iv _ => nc - (intOf iv).toNat)
  case atStart => exact ⟨0, rfl, Nat.zero_le _, rfl⟩
  case round =>
    obtain ⟨i, rfl, hi, rfl⟩ := hrel
    by_cases hlt : i < nc
    · have hil : i < c.length := by rw [HNC.out]; exact hlt
      obtain ⟨b8, o8, e8, -, hci⟩ := HR6.out i hil
      obtain ⟨rfl, rfl⟩ : b = b8 ∧ o = o8 := by injection e8 with e1; injection e1 with x y z; exact ⟨x, y⟩
      obtain ⟨t, htt⟩ : ∃ t, c[i] = t := ⟨_, rfl⟩
      rw [htt] at hci
      have HTI : Hid (c[i]? = some t) := by show _ = _; rw [List.getElem?_eq_getElem hil, htt]
      have HND : Hid (∀ j (hj : j < i) (hjl : j < c.length), ¬ c[j] = t) := fun j hj hjl e => by
        rw [← htt] at e
        have := (List.nodup_iff_pairwise_ne.1 HC.out.nodup)
        exact (List.pairwise_iff_getElem.1 this j i hjl hil hj) e
      have HON2 : Hid (∀ h1 : i + 1 < nc, nxt L t = some (c[i + 1]'(by rw [HNC.out]; exact h1))) := fun h1 => by
        rw [← htt]; exact HC.out.on i (by rw [HNC.out]; exact h1)
      have HLA : Hid (i + 1 = nc → ∀ u, nxt L t = some u → u ∈ c) := fun h1 u hu => HC.out.last i (by rw [HNC.out]; exact h1) u (by rw [htt]; exact hu)
      clear htt e8
      have HONC := Lib.hid (on_any A2 A3 L k c2 c3 HK.out (by omega) x6.heap.size t x6 HT2.out HT3.out)
      have i0 : (0 : Int) ≤ (i : Int) := by omega
      have i1 : (i : Int) < (nc : Int) := by omega
      have iw : wrap64 ((i : Int) + 1) = (i : Int) + 1 := by unfold wrap64; omega
      have ic : (i : Int) ≤ (c5 : Int) := by omega
      by_cases h1 : i + 1 < nc
      · have g1 : (i : Int) + 1 < (nc : Int) := by omega
        have g2 : ¬ (i : Int) + 1 = (nc : Int) := by omega
        have g3 : ((i : Int) + 1 == (nc : Int)) = false := by rw [beq_eq_false_iff_ne]; exact g2
        have hv := HON2.out h1
        obtain ⟨b7, o7, e7, -, hcn⟩ := HR6.out (i + 1) (by rw [HNC.out]; exact h1)
        obtain ⟨rfl, rfl⟩ : b = b7 ∧ o = o7 := by injection e7 with e1; injection e1 with x y z; exact ⟨x, y⟩
        generalize c[i + 1]'(by rw [HNC.out]; exact h1) = y at *
        rw [hv] at HONC
        unfold tupO at HONC
        have hyy : (y != y) = false := by simp
        have i2 : (0 : Int) ≤ (i : Int) + 1 := by omega
        clear hv e7
        go_upto_region 11 with (go_at_call 29; (with_reducible refine HONC.out.mono ?_); rintro e w9 ⟨rfl, rfl⟩)
        clear hcn hyy i2 hci
        go_wp2_with fail
        go_loopw [91] (fun jv wr => ∃ j : Nat, jv = .int .i64 j ∧ j ≤ i ∧ x6 = wr) (fun jv _ => i - (intOf jv).toNat)
        case atStart => exact ⟨0, rfl, Nat.zero_le _, rfl⟩
        case round =>
          obtain ⟨j, rfl, hj, rfl⟩ := hrel
          by_cases hji : j < i
          · have hjl : j < c.length := by rw [HNC.out]; omega
            obtain ⟨b9, o9, e9, -, hcj⟩ := HR6.out j hjl
            obtain ⟨rfl, rfl⟩ : b = b9 ∧ o = o9 := by injection e9 with e1; injection e1 with x y z; exact ⟨x, y⟩
            have hne : ¬ c[j] = t := HND.out j hji hjl
            generalize c[j] = u at *
            have hne' : (u == t) = false := by rw [beq_eq_false_iff_ne]; exact hne
            have j0 : (0 : Int) ≤ (j : Int) := by omega
            have j1 : (j : Int) < (i : Int) := by omega
            clear e9 hne
            go_wp2_with fail
            go_roundw
            case rel => exact ⟨j + 1, by go_num, by omega, trivial⟩
            case measure => simp [intOf]; omega
          · obtain rfl : j = i := by omega
            go_wp2_with fail
            go_roundw
            case rel => exact ⟨j + 1, by first | rfl | go_num, by omega, trivial⟩
            case measure => simp [intOf]; omega
      · have g1 : ¬ (i : Int) + 1 < (nc : Int) := by omega
        have g2 : (i : Int) + 1 = (nc : Int) := by omega
        have g3 : ((i : Int) + 1 == (nc : Int)) = true := by rw [g2]; simp
        have hin : i + 1 = nc := by omega
        match hv : nxt L t with
        | none =>
          rw [hv] at HONC
          unfold tupO at HONC
          clear hv
          clear g2
          go_upto_region 11 with (go_at_call 29; (with_reducible refine HONC.out.mono ?_); rintro e w9 ⟨rfl, rfl⟩)
          clear hci
          go_wp2_with fail
          go_loopw [91] (fun jv wr => ∃ j : Nat, jv = .int .i64 j ∧ j ≤ i ∧ x6 = wr) (fun jv _ => i - (intOf jv).toNat)
          case atStart => exact ⟨0, rfl, Nat.zero_le _, rfl⟩
          case round =>
            obtain ⟨j, rfl, hj, rfl⟩ := hrel
            by_cases hji : j < i
            · have hjl : j < c.length := by rw [HNC.out]; omega
              obtain ⟨b9, o9, e9, -, hcj⟩ := HR6.out j hjl
              obtain ⟨rfl, rfl⟩ : b = b9 ∧ o = o9 := by injection e9 with e1; injection e1 with x y z; exact ⟨x, y⟩
              have hne : ¬ c[j] = t := HND.out j hji hjl
              generalize c[j] = u at *
              have hne' : (u == t) = false := by rw [beq_eq_false_iff_ne]; exact hne
              have j0 : (0 : Int) ≤ (j : Int) := by omega
              have j1 : (j : Int) < (i : Int) := by omega
              clear e9 hne
              go_wp2_with fail
              go_roundw
              case rel => exact ⟨j + 1, by go_num, by omega, trivial⟩
              case measure => simp [intOf]; omega
            · obtain rfl : j = i := by omega
              go_wp2_with fail
              go_roundw
              case rel => exact ⟨j + 1, by first | rfl | go_num, by omega, trivial⟩
              case measure => simp [intOf]; omega
        | some y =>
          have HY := Lib.hid (HLA.out hin y hv)
          rw [hv] at HONC
          unfold tupO at HONC
          clear hv
          clear g2
          go_upto_region 11 with (go_at_call 29; (with_reducible refine HONC.out.mono ?_); rintro e w9 ⟨rfl, rfl⟩)
          clear hci
          go_wp2_with fail
          go_loopw [91] (fun jv wr => ∃ j : Nat, jv = .int .i64 j ∧ j ≤ i ∧ x6 = wr) (fun jv _ => i - (intOf jv).toNat)
          case atStart => exact ⟨0, rfl, Nat.zero_le _, rfl⟩
          case round =>
            obtain ⟨j, rfl, hj, rfl⟩ := hrel
            by_cases hji : j < i
            · have hjl : j < c.length := by rw [HNC.out]; omega
              obtain ⟨b9, o9, e9, -, hcj⟩ := HR6.out j hjl
              obtain ⟨rfl, rfl⟩ : b = b9 ∧ o = o9 := by injection e9 with e1; injection e1 with x y z; exact ⟨x, y⟩
              have hne : ¬ c[j] = t := HND.out j hji hjl
              generalize c[j] = u at *
              have hne' : (u == t) = false := by rw [beq_eq_false_iff_ne]; exact hne
              have j0 : (0 : Int) ≤ (j : Int) := by omega
              have j1 : (j : Int) < (i : Int) := by omega
              clear e9 hne
              go_wp2_with fail
              go_roundw
              case rel => exact ⟨j + 1, by go_num, by omega, trivial⟩
              case measure => simp [intOf]; omega
            · obtain rfl : j = i := by omega
              go_wp2_with fail
              go_loopw [15, 109] (fun bv qv wr => ∃ q : Nat, bv = .bool ((c.take q).any (· == y)) ∧ qv = .int .i64 q ∧ q ≤ nc ∧ x6 = wr) (fun _ qv _ => nc - (intOf qv).toNat)
              case atStart => exact ⟨0, by simp, rfl, Nat.zero_le _, rfl⟩
              case round =>
                obtain ⟨q, rfl, rfl, hq, rfl⟩ := hrel
                by_cases hqn : q < nc
                · have hql : q < c.length := by rw [HNC.out]; exact hqn
                  obtain ⟨b6, o6, e6, -, hcq⟩ := HR6.out q hql
                  obtain ⟨rfl, rfl⟩ : b = b6 ∧ o = o6 := by injection e6 with e1; injection e1 with x y z; exact ⟨x, y⟩
                  have HTQ : Hid ((c.take (q + 1)).any (· == y) = ((c.take q).any (· == y) || c[q] == y)) := by show _ = _; rw [List.take_succ_eq_append_getElem hql, List.any_append]; simp
                  generalize c[q] = u at *
                  generalize (c.take q).any (· == y) = bq at *
                  have q0 : (0 : Int) ≤ (q : Int) := by omega
                  have q1 : (q : Int) < (nc : Int) := by omega
                  clear e6
                  cases bq
                  all_goals
                    go_wp2_with fail
                    go_roundw
                    case rel => exact ⟨q + 1, by rw [HTQ.out]; first | rfl | simp, by go_num, by omega, trivial⟩
                    case measure => simp [intOf]; omega
                · obtain rfl : q = nc := by omega
                  have HTT : Hid ((c.take q).any (· == y) = true) := by
                    show _ = _
                    rw [← HNC.out, List.take_length, List.any_eq_true]
                    exact ⟨y, HY.out, by simp⟩
                  rw [HTT.out]
                  go_wp2_with fail
                  go_roundw
                  case rel => exact ⟨j + 1, by first | rfl | go_num, by omega, trivial⟩
                  case measure => simp [intOf]; omega
    · obtain rfl : i = nc := by omega
      have HLV := Lib.hid lives27_any
      go_wp2_with (go_at_call 30; (with_reducible refine (HLV.out _).mono ?_); rintro e w9 ⟨rfl, hb9⟩; have HB9 := Lib.hid hb9; clear hb9)
      go_ret
      exact ⟨rfl, HW6.out.trans (HB9.out.mono HW6.out.size)⟩
end Go.Proofs.Ytogplndhciaoeaa
