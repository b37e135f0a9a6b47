/- The document's Turn: Burst (layer 13): printed by gen_yf10.py. -/
import Derived.Test.YtekahmfchpgmfaaYf
namespace Go.Proofs.Ytekahmfchpgmfaa
open Go.RowKit
set_option maxRecDepth 100000

section
variable {d : Value} {bs : List Bub} {w w' : World}
set_option maxHeartbeats 8000000 in
theorem rburst_ok {i : Nat} {x : Bub} (home : Int) (h : DocL d bs w) (hx : bs[i]? = some x) (hs : x.state = 3) :
    Calls Try.prog 50 #[d, .int .i64 4, .int .i64 i, .int .i64 home] w (RTurnP d bs 4 (i : Int) home w) := by
  have hck : checkE bs (i : Int) [3] = 0 := by unfold checkE; rw [inB_of hx, atB_of hx]; simp [hs]
  have he : burstE bs (i : Int) = 0 := hck
  have HE : Hid (turnE bs 4 (i : Int) = 0) := he
  have HT : Hid (turnT bs 4 (i : Int) home = putOwn (bs.set i { x with state := 4 }) x.home (selI (ownAsk bs (i : Int)) bs.length)) := burst_same h.inv hx hs
  have HLL : Hid (turnL bs 4 (i : Int) = (i : Int) :: selI (ownAsk bs (i : Int)) bs.length) := by show _ = _; unfold turnL; rw [HE.out]; simp only [if_true]; unfold burstL; rw [he]; rfl
  have HI2 := Lib.hid (burst_inv h.inv hx x.home)
  have HNA := Lib.hid (own_not h.inv hx)
  have HS1 := Lib.hid hs
  have hin := inB_of hx
  have HH := Lib.hid (ris_any (i : Int) h)
  rw [hin] at HH
  obtain ⟨g0, cp0, hv, hr, -⟩ := row_at h.row hx
  obtain ⟨n, hn⟩ : ∃ n, bs.length = n := ⟨_, rfl⟩
  have HLN := Lib.hid hn
  have hl32 : n ≤ 32 := by have := h.inv.len; omega
  have HONE := Lib.hid (bubC_ones bs)
  have HZ19 : Hid ((Value.agg (bubL zB).toArray).cells.size = 19) := by show _ = _; rfl
  have y17 := hr 17 _ (bubL_17 x)
  have i0 : (0 : Int) ≤ (i : Int) := by omega
  have i2 : i < n := by have := (List.getElem?_eq_some_iff.1 hx).1; omega
  have i1 : (i : Int) < (n : Int) := by omega
  have y18 := hr 18 _ (bubL_18 x)
  have hrow0 := h.row
  rw [hn] at hv hrow0
  subst hv
  have HROW0 := Lib.hid hrow0
  have HF := Lib.hid h; have HX := Lib.hid hx
  clear hr hrow0 h hx hin hn he hck hs
  go_enter Try.func50, Try.ntmps50
  go_upto_region 3 with (go_at_call 71; (with_reducible refine HH.out.mono ?_); rintro e wq ⟨rfl, rfl⟩)
  go_cut [11] (fun v wx => ∃ g cap, v = .slice (some ⟨g, 0, none⟩) n cap ∧ wx.ownsRow w.heap.size 30 19 (.slice (some ⟨g, 0, none⟩) n cap) n (bubC bs) ∧ Below w.heap.size w wx)
  case first =>
    have hrow1 : (w.alloc (.cells #[] 30)).ownsRow 0 30 19 (.slice (some ⟨g0, 0, none⟩) n cp0) n (bubC bs) := HROW0.out.alloc _
    have HROW1 := Lib.hid hrow1
    have HLIT : Hid ((w.alloc (.cells #[] 30)).ownsRow w.heap.size 30 19 (.slice (some ⟨w.heap.size, 0, none⟩) 0 0) 0 []) := Lib.hid (World.ownsRow_lit w #[] 0 (Nat.le_refl _) (Nat.zero_le _) rfl)
    have HAL : Hid (Below w.heap.size w (w.alloc (.cells #[] 30))) := Lib.hid ((Below.refl _ _).alloc (Nat.le_refl _) _)
    obtain ⟨q0, hi0, hz0, hz1, hz2⟩ := info_parts infoBub
    clear hrow1 y17
    go_wp2_with (at_builtin; refine haltM ?_)
    refine Lib.hid ?_
    refine wpList_append_row _ rfl (.tmp 22) (.tmp 23) 66 rfl w.heap.size 0 30 q0 _ 19 152 Try.underlying66 hi0 hz0 hz1 hz2 HZ19.out (by decide) (.slice (some ⟨w.heap.size, 0, none⟩) 0 0) 0 [] rfl HLIT.out (.slice (some ⟨g0, 0, none⟩) n cp0) n (bubC bs) rfl HROW1.out HONE.out (by unfold maxLen; omega) (by omega) HAL.out.size ?_
    intro v5 w5 own5 gr5
    rw [Nat.zero_add, List.nil_append] at own5
    have hv6 : ∃ g cap, v5 = .slice (some ⟨g, 0, none⟩) n cap := by
      rcases rowForm own5 with ⟨_, e⟩ | e
      · omega
      · exact e
    obtain ⟨g, cap, rfl⟩ := hv6
    have HO5 := Lib.hid own5
    have HB5 : Hid (Below w.heap.size w w5) := Lib.hid (HAL.out.grown gr5 HAL.out.size (fun k hk => by simp [Value.ownBlock] at hk; omega))
    clear own5 gr5 HROW1 HLIT hi0 hz0 hz1 hz2
    go_wp2_with fail
    go_meet
    exact ⟨g, cap, rfl, HO5.out, HB5.out⟩
  case rest =>
    obtain ⟨g, cap, rfl, ho1, hb1⟩ := hcut
    rename World => w1
    have HO1 := Lib.hid ho1; have HB1 := Lib.hid hb1
    have HD1 := Lib.hid (HF.out.below hb1)
    have hg0 : g0 < w.heap.size := (HROW0.out.lt g0 rfl).2
    have c17 : w1.cell? ⟨g0, i * 19 + 17, none⟩ = some (.int .i64 x.state) := (hb1.cell (p := ⟨g0, _, none⟩) hg0).trans y17
    have hgl : w.heap.size ≤ g := (ho1.lt g rfl).1
    clear ho1 hb1 y17 HROW0 HH HONE HZ19
    have HST : Hid (OutS w n bs g cap (.slice (some ⟨w1.heap.size, 0, none⟩) 1 1) [(i : Int)] (w1.alloc (.cells #[.int .i64 i] 3))) := by
      have hgs : g < w1.heap.size := (HO1.out.lt g rfl).2
      refine ⟨HO1.out.alloc _, HLN.out, ?_, HB1.out.alloc HB1.out.size _, by simp [Value.ownBlock]; omega, hgl⟩
      have := World.ownsRow_lit (base := w.heap.size) (e := 3) (size := 1) w1 #[.int .i64 i] 1 HB1.out.size (by unfold maxLen; omega) rfl
      exact this
    have f17 := HST.out.free (i * 19 + 17)
    have o17 := HST.out.has HX.out 17 (bubL_17 x)
    have f18 := HST.out.free (i * 19 + 18)
    have o18 := HST.out.has HX.out 18 (bubL_18 x)
    have HR := Lib.hid (HST.out.turn HX.out 17 (.int .i64 4) (by omega) (bubL_state x 4))
    rw [HS1.out] at c17
    have b18 : w1.cell? ⟨g0, i * 19 + 18, none⟩ = some (.int .i64 x.home) := (HB1.out.cell (p := ⟨g0, _, none⟩) hg0).trans y18
    clear y18
    have HH18 : Hid (∀ W, Below w.heap.size w W → W.cell? ⟨g0, i * 19 + 18, none⟩ = some (.int .i64 x.home)) := fun W hW => by
      have h1 := HB1.out.cell (p := ⟨g0, i * 19 + 18, none⟩) hg0
      exact (hW.cell (p := ⟨g0, i * 19 + 18, none⟩) hg0).trans (h1.symm.trans b18)
    obtain ⟨ask, hask⟩ : ∃ ask, ownAsk bs (i : Int) = ask := ⟨_, rfl⟩
    obtain ⟨S0, hS0⟩ : ∃ S0, bs.set i { x with state := 4 } = S0 := ⟨_, rfl⟩
    have HASK := Lib.hid hask; have HS0 := Lib.hid hS0
    go_upto_region 27 with fail
    go_cut [] (fun wx => OutS w n S0 g cap (.slice (some ⟨w1.heap.size, 0, none⟩) 1 1) [(i : Int)] wx)
    case first =>
      go_wp2_with fail
      go_meet
      rw [← HS0.out]; exact HR.out
    have H2 := Lib.hid hcut
    rename World => w2
    clear hcut HR HST f17 o17 f18 o18 c17 b18 hask hS0
    go_wp2_with fail
    go_loopw [14, 15, 151] (fun uv sv iv wr => ∃ (j : Nat) (u1 : Value), j ≤ n ∧ u1 = sv ∧ iv = .int .i64 j ∧ OutS w n (putOwn S0 x.home (selI ask j)) g cap uv ((i : Int) :: selI ask j) wr) (fun _ _ iv _ => n - (intOf iv).toNat)
    case atStart => exact ⟨0, _, Nat.zero_le _, rfl, rfl, H2.out⟩
    case round =>
      obtain ⟨j, us, hj, rfl, rfl, hS⟩ := hrel
      have HS := Lib.hid hS; clear hS H2
      by_cases hlt : j < n
      · have hjb : j < bs.length := by have := HLN.out; omega
        obtain ⟨z, hz⟩ : ∃ z, bs[j]? = some z := ⟨_, List.getElem?_eq_getElem hjb⟩
        have k0 : (0 : Int) ≤ (j : Int) := by omega
        have k1 : (j : Int) < (n : Int) := by omega
        have k2 : decide (j < n) = true := by simpa using hlt
        have hrow : ∃ g1 cp1, (Value.slice (some ⟨g0, 0, none⟩) n cp0) = .slice (some ⟨g1, 0, none⟩) bs.length cp1 ∧ w.rangeAt g1 (j * 19) (bubL z) ∧ g1 < w.heap.size := row_at HF.out.row hz
        obtain ⟨g1, cp1, e1, hr1, -⟩ := hrow
        simp only [Value.slice.injEq, Option.some.injEq, Addr.mk.injEq] at e1
        obtain ⟨⟨rfl, -, -⟩, -, -⟩ := e1
        have z0 := (HS.out.old.cell (p := ⟨g0, j * 19 + 0, none⟩) hg0).trans (hr1 0 _ (bubL_0 z))
        rw [Nat.add_zero] at z0
        have z17 := (HS.out.old.cell (p := ⟨g0, j * 19 + 17, none⟩) hg0).trans (hr1 17 _ (bubL_17 z))
        have hsu : Hid (selI ask (j + 1) = if ask j then selI ask j ++ [(j : Int)] else selI ask j) := selI_succ ask j
        have haj : Hid (ask j = (z.up == (i : Int) && z.state == 2)) := by show _ = _; rw [← HASK.out]; unfold ownAsk; rw [atB_of hz]
        have HZ := Lib.hid hz
        clear hr1 hz hjb
        cases t1 : (z.up == (i : Int)) with
        | false =>
          have hn2 := hsu.out
          rw [haj.out, t1] at hn2
          have HN2 := Lib.hid hn2; clear hn2
          generalize z.up = zu at *
          go_wp2_with fail
          go_roundw
          case rel => exact ⟨j + 1, _, hlt, rfl, by go_num, by rw [HN2.out]; exact HS.out⟩
          case measure => simp [intOf]; omega
        | true =>
          cases t2 : (z.state == 2) with
          | false =>
            have hn2 := hsu.out
            rw [haj.out, t1, t2] at hn2
            have HN2 := Lib.hid hn2; clear hn2
            generalize z.up = zu at *
            generalize z.state = zs at *
            go_wp2_with fail
            go_roundw
            case rel => exact ⟨j + 1, _, hlt, rfl, by go_num, by rw [HN2.out]; exact HS.out⟩
            case measure => simp [intOf]; omega
          | true =>
            have hn2 := hsu.out
            rw [haj.out, t1, t2] at hn2
            have HN2 := Lib.hid hn2; clear hn2
            have hji : j ≠ i := fun e => by
              have h1 := haj.out
              rw [t1, t2, e, ← HASK.out, HNA.out] at h1
              cases h1
            have hTz : (putOwn S0 x.home (selI ask j))[j]? = some z := by
              rw [putOwn_at _ _ _ _ _ (by rw [← HS0.out, List.length_set]; have := HLN.out; omega), if_neg (by omega), ← HS0.out, List.getElem?_set_ne (fun q => hji q.symm)]; exact HZ.out
            have R1 := HS.out.turn hTz 17 (.int .i64 3) (by omega) (bubL_state z 3)
            have f1 := HS.out.free (j * 19 + 17)
            have o1 := HS.out.has hTz 17 (bubL_17 z)
            have HR1 := Lib.hid R1; have HTZ := Lib.hid hTz
            clear R1 hTz hji
            go_upto_region 32 with fail
            go_cut [] (fun wx => OutS w n ((putOwn S0 x.home (selI ask j)).set j { z with state := 3 }) g cap u14 ((i : Int) :: selI ask j) wx)
            case first =>
              go_wp2_with fail
              go_meet
              exact HR1.out
            case rest =>
              have H3 := Lib.hid hcut
              rename World => w3
              clear hcut f1 o1 HR1 z0 z17
              have hT3 : ((putOwn S0 x.home (selI ask j)).set j { z with state := 3 })[j]? = some { z with state := 3 } := by
                rw [List.getElem?_set_self (List.getElem?_eq_some_iff.1 HTZ.out).1]
              have R2 := H3.out.turn hT3 18 (.int .i64 x.home) (by omega) (bubL_home _ x.home)
              rw [List.set_set] at R2
              have f2 := H3.out.free (j * 19 + 18)
              have o2 := H3.out.has hT3 18 (bubL_18 _)
              have b3 := HH18.out w3 H3.out.old
              have HR2 := Lib.hid R2
              clear R2 hT3
              go_upto_region 33 with fail
              go_cut [] (fun wx => OutS w n (putOwn S0 x.home (selI ask (j + 1))) g cap u14 ((i : Int) :: selI ask j) wx)
              case first =>
                go_wp2_with fail
                go_meet
                rw [HN2.out]
                simp only [Bool.and_self, if_true]
                rw [putOwn_app, Int.toNat_natCast, atB_of HTZ.out]
                exact HR2.out
              case rest =>
                have H4 := Lib.hid hcut
                rename World => w4
                clear hcut f2 o2 b3 HR2 H3
                have hll : ((i : Int) :: selI ask j).length ≤ 1000 := by have := selI_len ask j; simp; omega
                have HL4 := Lib.hid hll; clear hll
                go_wp2_with (at_builtin; refine haltM ?_)
                refine Lib.hid ?_
                refine outS_app rfl (.tmp 182) (.tmp 184) rfl H4.out (j : Int) rfl rfl HL4.out ?_
                intro u9 w9 h9
                have H9 := Lib.hid h9; clear h9
                go_wp2_with fail
                go_roundw
                case rel => exact ⟨j + 1, _, hlt, rfl, by go_num, by have := H9.out; rw [List.cons_append] at this; rw [HN2.out] at this ⊢; exact this⟩
                case measure => simp [intOf]; omega
      · have hjn : j = n := by omega
        have k2 : decide (j < n) = false := by simpa using hlt
        have k3 : ¬ (j : Int) < (n : Int) := by omega
        have hfin : Hid (OutS w n (putOwn S0 x.home (selI ask bs.length)) g cap u14 ((i : Int) :: selI ask bs.length) wr) := by
          rw [show bs.length = j by rw [HLN.out, hjn]]; exact HS
        clear hlt hjn HS
        go_wp2_with fail
        refine bodyPost_ret (v := .tuple #[.slice (some ⟨g, 0, none⟩) n cap, u14, .int .i64 0]) (by simp [results, Try.results50]) rfl ?_
        refine RTurnP.yes HI2.out ?_ HE.out HT.out HLL.out rfl
        rw [HASK.out, HS0.out]; exact hfin.out
end
end Go.Proofs.Ytekahmfchpgmfaa
