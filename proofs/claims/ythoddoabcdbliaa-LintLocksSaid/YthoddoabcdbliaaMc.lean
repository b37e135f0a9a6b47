/- lint.settle, as May calls it. -/
import Derived.Test.YthoddoabcdbliaaMb
namespace Go.Proofs.Ythoddoabcdbliaa
open Go.RowKit

set_option maxRecDepth 100000 in
set_option maxHeartbeats 16000000 in
theorem settleMay_any (prio : Int) (A : Option Addr) (l : List I4) (cap : Nat) (S all : Nat → Bool) (G : Nat) (F0 : Nat → Nat → Bool) (Inv : (Nat → Nat → Bool) → Prop) (BI : Nat → (Nat → Bool) → Prop) (w : World) (hI : InsIn w A l) (hf : Fine prio l) (hA : ∀ a, A = some a → a.block ≠ G) (hG : Blk w G 39 (setC F0 l.length)) (h0 : Inv F0)
    (hB : ∀ F pc x, Inv F → S pc = true → l[pc]? = some x → BI pc (bhP x (F pc) all))
    (hS : ∀ F pc x (j : Nat) B, Inv F → S pc = true → l[pc]? = some x → (j : Int) ∈ nextP x pc → BI pc B → Inv (upd F j (fun k => F j k || B k))) :
    Calls Try.prog 28 #[.agg #[.int .i64 prio, .slice A l.length cap], .int .u64 (wordB S 64 : Nat), .int .u16 (wordB all 16 : Nat), .slice (some ⟨G, 0, none⟩) l.length l.length, .func (.func 30) #[] #[]] w fun e w' => ∃ F, e = .returned (.tuple #[]) ∧ Blk w' G 39 (setC F l.length) ∧ Inv F ∧ Clo or l S all F l.length ∧ But (fun k => k = G) w w' := by
  have hlen := hf.len
  have hbp := Blk.new w 24 #[.int .i64 prio, .slice A l.length cap]
  have hb1 : But (fun k => k = G) w (w.alloc (.cells #[.int .i64 prio, .slice A l.length cap] 24)) := (But.refl _ _).alloc _
  have HG0 := Lib.hid (hG.alloc (.cells #[.int .i64 prio, .slice A l.length cap] 24))
  have HGW : Hid (G < w.heap.size) := hG.lt
  have HI := Lib.hid hI; have HF := Lib.hid hf; have HA := Lib.hid hA; have H0 := Lib.hid h0; have HBI := Lib.hid hB; have HST := Lib.hid hS; have HBP := Lib.hid hbp; have HB1 := Lib.hid hb1
  clear hI hf hA hG h0 hB hS hbp hb1
  obtain ⟨N, hN⟩ : ∃ N, l.length = N := ⟨_, rfl⟩
  have HN := Lib.hid hN
  rw [hN] at hlen HG0 HBP HB1 ⊢
  clear hN
  go_enter Try.func28, Try.ntmps28
  go_wp2_with fail
  generalize w.alloc (.cells #[.int .i64 prio, .slice A N cap] 24) = W1 at *
  go_loopw [10] (fun c wr => ∃ (b : Bool) (F : Nat → Nat → Bool), c = .bool b ∧ But (fun k => k = G) W1 wr ∧ Blk wr G 39 (setC F N) ∧ Inv F ∧ (b = false → Clo or l S all F N)) (fun c wr => mesO not N G c wr)
  case atStart => exact ⟨true, F0, rfl, But.refl _ _, HG0.out, H0.out, fun h => by cases h⟩
  case round =>
    obtain ⟨b, F, rfl, hbut, hg, hinv, hclo⟩ := hrel
    have HBU := Lib.hid hbut; have HG := Lib.hid hg; have HIN := Lib.hid hinv; have HCL := Lib.hid hclo
    clear hbut hg hinv hclo HG0 H0
    cases b with
    | false =>
      have hcl := Lib.hid (HCL.out rfl)
      go_wp2_with fail
      go_end0
      exact ⟨rfl, F, HG.out, HIN.out, hcl.out, HB1.out.trans HBU.out⟩
    | true =>
      have hp := HBP.out.but HBU.out (by have := HGW.out; omega)
      have x0 := hp.cell 0; have x1 := hp.cell 1
      simp only [List.getElem?_toArray, List.getElem?_cons_zero, List.getElem?_cons_succ] at x0 x1
      have HMS := Lib.hid (mesO_eq not HG.out true)
      clear HCL hp
      go_wp2_with fail
      go_loopw [10, 21] (fun c i wx => ∃ (b1 : Bool) (k : Nat) (F1 : Nat → Nat → Bool), c = .bool b1 ∧ i = .int .i64 k ∧ k ≤ N ∧ But (fun k => k = G) W1 wx ∧ Blk wx G 39 (setC F1 N) ∧ Inv F1 ∧ (b1 = false → F1 = F ∧ Clo or l S all F1 k) ∧ (b1 = true → mu not F1 N < mu not F N)) (fun _ i _ => N - (intOf i).toNat)
      case atStart => exact ⟨false, 0, F, rfl, rfl, Nat.zero_le _, HBU.out, HG.out, HIN.out, fun _ => ⟨rfl, fun pc x h => absurd h (by omega)⟩, fun h => by cases h⟩
      case round =>
        obtain ⟨b1, k, F1, rfl, rfl, hk, hbut, hg, hinv, hc0, hc1⟩ := hrel
        clear HBU HG HIN x0 x1
        have HBU := Lib.hid hbut; have HG := Lib.hid hg; have HIN := Lib.hid hinv; have HC0 := Lib.hid hc0; have HC1 := Lib.hid hc1
        clear hbut hg hinv hc0 hc1
        by_cases hlt : k < N
        · obtain ⟨x, hx⟩ : ∃ x, l[k]? = some x := ⟨_, List.getElem?_eq_getElem (by rw [HN.out]; exact hlt)⟩
          have HX := Lib.hid hx
          have hIwr : InsIn wr A l := ((HI.out.but HB1.out HA.out).but HBU.out HA.out)
          obtain ⟨ft, bb, off, rfl, hbb, c0, c1, c2, c3⟩ := hIwr k x hx
          have HFT := Lib.hid ft
          have k0 : (0 : Int) ≤ (k : Int) := by omega
          have k1 : (k : Int) < (N : Int) := by omega
          have HHS := Lib.hid (has64_any S k)
          obtain ⟨xo, xa, xb, xn⟩ := x
          dsimp only at c0 c1 c2 c3
          clear hx ft hIwr
          by_cases hS : S k = true
          · rw [hS] at HHS
            have hx2 : But (fun k => k = G) wr (wr.alloc (.cells #[.int .i64 xo, .int .i64 xa, .int .i64 xb, .int .i32 xn] 41)) := (But.refl _ _).alloc _
            have HBX := Lib.hid (Blk.new wr 41 #[.int .i64 xo, .int .i64 xa, .int .i64 xb, .int .i32 xn])
            have HB2 := Lib.hid (HBU.out.trans hx2)
            have HG2 := Lib.hid (HG.out.alloc (.cells #[.int .i64 xo, .int .i64 xa, .int .i64 xb, .int .i32 xn] 41))
            have HSK := Lib.hid hS
            clear hx2
            go_upto_region 8 with (go_at_call 22; (with_reducible refine (HHS.out _ (by omega)).mono ?_); rintro e wq ⟨rfl, rfl⟩)
            generalize wr.alloc (.cells #[.int .i64 xo, .int .i64 xa, .int .i64 xb, .int .i32 xn] 41) = W2 at *
            generalize wr.heap.size = X0 at *
            have HBH : Hid (∀ W, Calls Try.prog 38 #[insV ⟨xo, xa, xb, xn⟩, .int .u16 (wordB (F1 k) 16 : Nat), .int .u16 (wordB all 16 : Nat)] W (GotB W.heap.size (.int .u16 (wordB (bhP ⟨xo, xa, xb, xn⟩ (F1 k) all) 16 : Nat)) W)) := fun W => behind_any ⟨xo, xa, xb, xn⟩ (F1 k) all W (fun ho => by
              have hi := HF.out.ins k _ HX.out
              unfold insE at hi
              split at hi
              · omega
              · split at hi
                · omega
                · unfold numE at hi
                  dsimp only at hi ho
                  rw [if_neg (by omega), if_neg (by omega), if_pos (by omega)] at hi
                  dsimp only
                  split at hi <;> omega)
            obtain ⟨Bh, hBh⟩ : ∃ B, bhP ⟨xo, xa, xb, xn⟩ (F1 k) all = B := ⟨_, rfl⟩
            have HBK := Lib.hid (HBI.out F1 k _ HIN.out hS HX.out)
            rw [hBh] at HBH HBK
            have HBE := Lib.hid hBh
            clear hBh hS
            go_cut [13] (fun v wx => v = .int .u16 (wordB Bh 16 : Nat) ∧ Below W2.heap.size W2 wx)
            case first =>
              have y0 := HBX.out.cell 0; have y1 := HBX.out.cell 1; have y2 := HBX.out.cell 2; have y3 := HBX.out.cell 3
              simp only [List.getElem?_toArray, List.getElem?_cons_zero, List.getElem?_cons_succ] at y0 y1 y2 y3
              have z0 : W2.cell? ⟨G, k, none⟩ = some (.int .u16 (wordB (F1 k) 16 : Nat)) := (HG2.out.cell k).trans (setC_get _ hlt)
              go_region_with (go_at_call 38; (with_reducible refine (HBH.out _).mono ?_); rintro e w4 ⟨rfl, h4⟩; have H4 := Lib.hid h4; clear h4)
              all_goals
                go_wp2_with fail
                go_meet
                exact ⟨rfl, show Below W2.heap.size W2 w4 from (Below.refl _ _).drew.trans H4.out⟩
            case rest =>
              obtain ⟨rfl, hb3⟩ := hcut
              generalize wc = W3 at *
              have HB3 := Lib.hid (HB2.out.trans (But.of_below (X := fun k => k = G) hb3))
              have HG3 := Lib.hid (HG2.out.below hb3 HG2.out.lt)
              clear hb3 HB2 HG2 HBX HBH HHS c0 c1 c2 c3 hbb
              have hp := HBP.out.but HB3.out (by have := HGW.out; omega)
              have x0 := hp.cell 0; have x1 := hp.cell 1
              simp only [List.getElem?_toArray, List.getElem?_cons_zero, List.getElem?_cons_succ] at x0 x1
              have HNX := next_any ⟨xo, xa, xb, xn⟩ prio (some ⟨bb, off, none⟩) l cap k W3 ((HI.out.but HB1.out HA.out).but HB3.out HA.out) HX.out HF.out
              rw [HN.out] at HNX
              have hin := nextP_in HF.out HX.out HFT.out.n
              rw [HN.out] at hin
              have hl2 := nextP_len ⟨xo, xa, xb, xn⟩ k
              obtain ⟨ys, hys⟩ : ∃ ys, nextP ⟨xo, xa, xb, xn⟩ k = ys := ⟨_, rfl⟩
              rw [hys] at HNX hin hl2
              have HYS := Lib.hid hys; have HNX := Lib.hid HNX; have HINY := Lib.hid hin
              clear hys hin hp
              go_wp2_with fail
              refine HNX.out.mono ?_
              rintro e w5 ⟨B5, cap5, rfl, hn5, hb5, hf5⟩
              dsimp only
              have HB5 := Lib.hid (HB3.out.trans (But.of_below (X := fun k => k = G) hb5))
              have HG5 := Lib.hid (HG3.out.below hb5 HG3.out.lt)
              have hgl := HG3.out.lt
              have HNE : Hid (∀ a, B5 = some a → ¬ a.block = G) := fun a ha e => by have := hf5 a ha; omega
              have HN5 := Lib.hid hn5
              clear hn5 hb5 hf5 hgl HB3 HG3 x0 x1 HNX
              obtain ⟨m, hm⟩ : ∃ m, ys.length = m := ⟨_, rfl⟩
              have HM := Lib.hid hm
              rw [hm] at hl2 ⊢
              clear hm
              go_wp2_with fail
              go_loopw [10, 41] (fun c i wx => ∃ (b2 : Bool) (j : Nat) (F2 : Nat → Nat → Bool), c = .bool b2 ∧ i = .int .i64 j ∧ j ≤ m ∧ But (fun k => k = G) W1 wx ∧ Blk wx G 39 (setC F2 N) ∧ Inv F2 ∧ NumsIn wx B5 ys ∧ (b2 = false → b1 = false ∧ F2 = F1 ∧ ∀ i', i' < j → ∀ y : Nat, ys[i']? = some (y : Int) → ∀ b, b < 16 → or (F1 y b) (Bh b) = F1 y b) ∧ (b2 = true → mu not F2 N < mu not F N)) (fun _ i _ => m - (intOf i).toNat)
              case atStart => exact ⟨b1, 0, F1, rfl, rfl, Nat.zero_le _, HB5.out, HG5.out, HIN.out, HN5.out, fun h => ⟨h, rfl, fun i' h => absurd h (by omega)⟩, HC1.out⟩
              case round =>
                obtain ⟨b2, j, F2, rfl, rfl, hj, hbut, hg, hinv, hns, hd0, hd1⟩ := hrel
                clear HB5 HG5 HN5
                have HBU2 := Lib.hid hbut; have HG2 := Lib.hid hg; have HIN2 := Lib.hid hinv; have HNS := Lib.hid hns; have HD0 := Lib.hid hd0; have HD1 := Lib.hid hd1
                clear hbut hg hinv hns hd0 hd1
                by_cases hjm : j < m
                · obtain ⟨y, hy⟩ : ∃ y, ys[j]? = some y := ⟨_, List.getElem?_eq_getElem (by rw [HM.out]; exact hjm)⟩
                  obtain ⟨y0, y1⟩ := HINY.out y (List.mem_of_getElem? hy)
                  obtain ⟨y, rfl⟩ : ∃ z : Nat, y = z := ⟨y.toNat, by omega⟩
                  have hyN : y < N := by omega
                  obtain ⟨bc, ofc, rfl, -, c0⟩ := HNS.out j _ hy
                  have HY := Lib.hid hy
                  have z0 : wr.cell? ⟨G, y, none⟩ = some (.int .u16 (wordB (F2 y) 16 : Nat)) := (HG2.out.cell y).trans (setC_get _ hyN)
                  have zf : wr.frozen? ⟨G, y, none⟩ = false := HG2.out.free y
                  have j0 : (0 : Int) ≤ (j : Int) := by omega
                  have j1 : (j : Int) < (m : Int) := by omega
                  have HJ := Lib.hid (joinMay_any (F2 y) Bh)
                  obtain ⟨q, hq⟩ : ∃ q : Nat → Bool, (fun k => F2 y k || Bh k) = q := ⟨_, rfl⟩
                  rw [hq] at HJ
                  have hqk : ∀ k, q k = (F2 y k || Bh k) := fun k => by rw [← hq]
                  have HQK := Lib.hid hqk
                  have hst := HST.out F2 k _ y Bh HIN2.out HSK.out HX.out (by rw [HYS.out]; exact List.mem_of_getElem? hy) HBK.out
                  rw [hq] at hst
                  have HS3 := Lib.hid hst
                  have hset : Blk (wr.setCell ⟨G, y, none⟩ (.int .u16 (wordB q 16 : Nat))) G 39 (setC (upd F2 y q) N) := by
                    have := HG2.out.set_ y (.int .u16 (wordB q 16 : Nat))
                    rwa [setC_set _ q hyN] at this
                  have hbs : But (fun k => k = G) wr (wr.setCell ⟨G, y, none⟩ (.int .u16 (wordB q 16 : Nat))) := (But.refl _ _).set _ _ (.inl rfl)
                  have HSET := Lib.hid hset; have HBS := Lib.hid (HBU2.out.trans hbs); have HNS3 := Lib.hid (HNS.out.but hbs HNE.out)
                  have hdle : ∀ k, k < 16 → not (q k) = true → not (F2 y k) = true := fun k _ h => by
                    rw [HQK.out] at h
                    cases e1 : F2 y k <;> cases e2 : Bh k <;> simp_all
                  have HLE := Lib.hid (mu_le not F2 y q N hdle)
                  have HDL := Lib.hid hdle
                  clear hy hq hqk hst hset hbs hdle y0 y1
                  cases b2 with
                  | true =>
                    have HMU := Lib.hid (HD1.out rfl)
                    clear HD0 HD1
                    go_wp2_with (go_at_call 30; (with_reducible refine (HJ.out _).mono ?_); rintro e wq ⟨rfl, rfl⟩)
                    go_roundw
                    case rel => exact ⟨true, j + 1, upd F2 y q, rfl, by go_num, by omega, HBS.out, HSET.out, HS3.out, HNS3.out, (fun h => by cases h), fun _ => Nat.lt_of_le_of_lt HLE.out HMU.out⟩
                    case measure => simp [intOf]; omega
                  | false =>
                    obtain ⟨e1, e2, e3⟩ := HD0.out rfl
                    by_cases hsame : ∀ k, k < 16 → q k = F2 y k
                    · have t := w16_same hsame
                      have HSM := Lib.hid hsame
                      have HSET' : Hid (Blk (wr.setCell ⟨G, y, none⟩ (.int .u16 (wordB q 16 : Nat))) G 39 (setC F2 N)) := by
                        have := HSET.out
                        rw [setC_congr (H := F2) (fun i _ => by
                          by_cases e : i = y
                          · subst e; simp only [upd, if_pos]; exact wordB_same _ _ 16 HSM.out
                          · simp [upd, e])] at this
                        exact this
                      have HE := Lib.hid (⟨e1, e2, e3⟩ : b1 = false ∧ F2 = F1 ∧ _)
                      clear hsame e1 e2 e3
                      go_wp2_with (go_at_call 30; (with_reducible refine (HJ.out _).mono ?_); rintro e wq ⟨rfl, rfl⟩)
                      go_roundw
                      case rel => exact ⟨false, j + 1, F2, rfl, by go_num, by omega, HBS.out, HSET'.out, HIN2.out, HNS3.out, fun _ => ⟨HE.out.1, HE.out.2.1, fun i' hi' z hz b hb => by
                        by_cases ei : i' = j
                        · subst ei
                          have : (z : Int) = (y : Int) := Option.some.inj (hz.symm.trans HY.out)
                          obtain rfl : z = y := by omega
                          have h1 := HSM.out b hb
                          rw [HQK.out, HE.out.2.1] at h1
                          simpa using h1
                        · exact HE.out.2.2 i' (by omega) z hz b hb⟩, fun h => by cases h⟩
                      case measure => simp [intOf]; omega
                    · have t := w16_other hsame
                      obtain ⟨kk, hkk⟩ := Classical.not_forall.1 hsame
                      obtain ⟨hk16, hne⟩ := Classical.not_imp.1 hkk
                      have HLS : Hid (mu not (upd F2 y q) N < mu not F N) := by
                        have := mu_less not F2 y q N hyN HDL.out hk16 (by
                          rw [HQK.out] at hne ⊢
                          cases e1 : F2 y kk <;> cases e2 : Bh kk <;> simp_all) (by
                          rw [HQK.out] at hne
                          cases e1 : F2 y kk <;> cases e2 : Bh kk <;> simp_all)
                        rw [e2, (HC0.out e1).1] at this
                        rw [e2, (HC0.out e1).1]
                        exact this
                      clear hsame hkk hk16 hne e1 e2 e3
                      go_wp2_with (go_at_call 30; (with_reducible refine (HJ.out _).mono ?_); rintro e wq ⟨rfl, rfl⟩)
                      go_roundw
                      case rel => exact ⟨true, j + 1, upd F2 y q, rfl, by go_num, by omega, HBS.out, HSET.out, HS3.out, HNS3.out, (fun h => by cases h), fun _ => HLS.out⟩
                      case measure => simp [intOf]; omega
                · obtain rfl : j = m := by omega
                  have t : ¬ (j : Int) < (j : Int) := by omega
                  go_wp2_with fail
                  go_roundw
                  case rel => exact ⟨b2, k + 1, F2, rfl, by go_num, by omega, HBU2.out, HG2.out, HIN2.out, fun h => by
                    obtain ⟨e1, e2, e3⟩ := HD0.out h
                    obtain ⟨f1, f2⟩ := HC0.out e1
                    refine ⟨e2.trans f1, fun pc z h1 h2 h3 i hi b hb => ?_⟩
                    by_cases ep : pc = k
                    · subst ep
                      obtain rfl := Option.some.inj (HX.out.symm.trans h3)
                      rw [HYS.out] at hi
                      obtain ⟨i', hi'⟩ := List.getElem?_of_mem hi
                      have hlt' : i' < j := by have := (List.getElem?_eq_some_iff.1 hi').1; rwa [HM.out] at this
                      rw [e2, HBE.out]
                      exact e3 i' hlt' i hi' b hb
                    · rw [e2]; exact f2 pc z (by omega) h2 h3 i hi b hb, HD1.out⟩
                  case measure => simp [intOf]; omega
          · have hSf : S k = false := by simpa using hS
            rw [hSf] at HHS
            have HB2 : Hid (But (fun k => k = G) W1 (wr.alloc (.cells #[.int .i64 xo, .int .i64 xa, .int .i64 xb, .int .i32 xn] 41))) := HBU.out.alloc _
            have HG2 := Lib.hid (HG.out.alloc (.cells #[.int .i64 xo, .int .i64 xa, .int .i64 xb, .int .i32 xn] 41))
            go_wp2_with (go_at_call 22; (with_reducible refine (HHS.out _ (by omega)).mono ?_); rintro e wq ⟨rfl, rfl⟩)
            go_roundw
            case rel => exact ⟨b1, k + 1, F1, rfl, by go_num, by omega, HB2.out, HG2.out, HIN.out, fun h => ⟨(HC0.out h).1, fun pc y h1 h2 h3 => (HC0.out h).2 pc y (by
              by_cases e : pc = k
              · subst e; rw [hSf] at h2; cases h2
              · omega) h2 h3⟩, HC1.out⟩
            case measure => simp [intOf]; omega
        · obtain rfl : k = N := by omega
          have t : ¬ (k : Int) < (k : Int) := by omega
          have HME := Lib.hid (mesO_eq not HG.out b1)
          go_wp2_with fail
          go_roundw
          case rel => exact ⟨b1, F1, rfl, HBU.out, HG.out, HIN.out, fun h => (HC0.out h).2⟩
          case measure =>
            rw [HMS.out, HME.out]
            cases b1 with
            | false => rw [(HC0.out rfl).1]; simp
            | true => have := HC1.out rfl; simp; omega
end Go.Proofs.Ythoddoabcdbliaa
