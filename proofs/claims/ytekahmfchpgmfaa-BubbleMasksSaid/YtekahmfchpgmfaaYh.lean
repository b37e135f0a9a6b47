/- The document's Turn: Regen (layer 13): printed by gen_yf10.py. -/
import Derived.Test.YtekahmfchpgmfaaYf
namespace Go.Proofs.Ytekahmfchpgmfaa
open Go.RowKit
set_option maxRecDepth 100000

section
variable {d : Value} {bs : List Bub} {w w' : World}
set_option maxHeartbeats 8000000 in
theorem rregen_ok {i : Nat} {x : Bub} (home : Int) (h : DocL d bs w) (hx : bs[i]? = some x) (hs : x.state = 4) :
    Calls Try.prog 50 #[d, .int .i64 5, .int .i64 i, .int .i64 home] w (RTurnP d bs 5 (i : Int) home w) := by
  have hck : checkE bs (i : Int) [4] = 0 := by unfold checkE; rw [inB_of hx, atB_of hx]; simp [hs]
  have he : regenE bs (i : Int) = 0 := hck
  have HE : Hid (turnE bs 5 (i : Int) = 0) := he
  have HT : Hid (turnT bs 5 (i : Int) home = sealOwn (bs.set i { x with state := 3, home := home }) (selI (insAsk bs i) bs.length)) := regen_same hx hs home
  have HLL : Hid (turnL bs 5 (i : Int) = (i : Int) :: selI (insAsk bs i) bs.length) := by show _ = _; unfold turnL; rw [HE.out]; simp only [if_true]; unfold regenL; rw [he]; exact regenO_first h.inv hx hs
  have HI2 := Lib.hid (regen_inv h.inv hx home)
  have HS1 := Lib.hid hs
  have hin := inB_of hx
  have HH := Lib.hid (ris_any (i : Int) h)
  rw [hin] at HH
  obtain ⟨g0, cp0, hv, hr, -⟩ := row_at h.row hx
  obtain ⟨n, hn⟩ : ∃ n, bs.length = n := ⟨_, rfl⟩
  have HLN := Lib.hid hn
  have hl32 : n ≤ 32 := by have := h.inv.len; omega
  have HONE := Lib.hid (bubC_ones bs)
  have HZ19 : Hid ((Value.agg (bubL zB).toArray).cells.size = 19) := by show _ = _; rfl
  have y17 := hr 17 _ (bubL_17 x)
  have i0 : (0 : Int) ≤ (i : Int) := by omega
  have i2 : i < n := by have := (List.getElem?_eq_some_iff.1 hx).1; omega
  have i1 : (i : Int) < (n : Int) := by omega
  have hrow0 := h.row
  rw [hn] at hv hrow0
  subst hv
  have HROW0 := Lib.hid hrow0
  have HF := Lib.hid h; have HX := Lib.hid hx
  clear hr hrow0 h hx hin hn he hck hs
  go_enter Try.func50, Try.ntmps50
  go_upto_region 3 with (go_at_call 71; (with_reducible refine HH.out.mono ?_); rintro e wq ⟨rfl, rfl⟩)
  go_cut [11] (fun v wx => ∃ g cap, v = .slice (some ⟨g, 0, none⟩) n cap ∧ wx.ownsRow w.heap.size 30 19 (.slice (some ⟨g, 0, none⟩) n cap) n (bubC bs) ∧ Below w.heap.size w wx)
  case first =>
    have hrow1 : (w.alloc (.cells #[] 30)).ownsRow 0 30 19 (.slice (some ⟨g0, 0, none⟩) n cp0) n (bubC bs) := HROW0.out.alloc _
    have HROW1 := Lib.hid hrow1
    have HLIT : Hid ((w.alloc (.cells #[] 30)).ownsRow w.heap.size 30 19 (.slice (some ⟨w.heap.size, 0, none⟩) 0 0) 0 []) := Lib.hid (World.ownsRow_lit w #[] 0 (Nat.le_refl _) (Nat.zero_le _) rfl)
    have HAL : Hid (Below w.heap.size w (w.alloc (.cells #[] 30))) := Lib.hid ((Below.refl _ _).alloc (Nat.le_refl _) _)
    obtain ⟨q0, hi0, hz0, hz1, hz2⟩ := info_parts infoBub
    clear hrow1 y17
    go_wp2_with (at_builtin; refine haltM ?_)
    refine Lib.hid ?_
    refine wpList_append_row _ rfl (.tmp 22) (.tmp 23) 66 rfl w.heap.size 0 30 q0 _ 19 152 Try.underlying66 hi0 hz0 hz1 hz2 HZ19.out (by decide) (.slice (some ⟨w.heap.size, 0, none⟩) 0 0) 0 [] rfl HLIT.out (.slice (some ⟨g0, 0, none⟩) n cp0) n (bubC bs) rfl HROW1.out HONE.out (by unfold maxLen; omega) (by omega) HAL.out.size ?_
    intro v5 w5 own5 gr5
    rw [Nat.zero_add, List.nil_append] at own5
    have hv6 : ∃ g cap, v5 = .slice (some ⟨g, 0, none⟩) n cap := by
      rcases rowForm own5 with ⟨_, e⟩ | e
      · omega
      · exact e
    obtain ⟨g, cap, rfl⟩ := hv6
    have HO5 := Lib.hid own5
    have HB5 : Hid (Below w.heap.size w w5) := Lib.hid (HAL.out.grown gr5 HAL.out.size (fun k hk => by simp [Value.ownBlock] at hk; omega))
    clear own5 gr5 HROW1 HLIT hi0 hz0 hz1 hz2
    go_wp2_with fail
    go_meet
    exact ⟨g, cap, rfl, HO5.out, HB5.out⟩
  case rest =>
    obtain ⟨g, cap, rfl, ho1, hb1⟩ := hcut
    rename World => w1
    have HO1 := Lib.hid ho1; have HB1 := Lib.hid hb1
    have HD1 := Lib.hid (HF.out.below hb1)
    have hg0 : g0 < w.heap.size := (HROW0.out.lt g0 rfl).2
    have c17 : w1.cell? ⟨g0, i * 19 + 17, none⟩ = some (.int .i64 x.state) := (hb1.cell (p := ⟨g0, _, none⟩) hg0).trans y17
    have hgl : w.heap.size ≤ g := (ho1.lt g rfl).1
    clear ho1 hb1 y17 HROW0 HH HONE HZ19
    have HST : Hid (OutS w n bs g cap (.slice (some ⟨w1.heap.size, 0, none⟩) 1 1) [(i : Int)] (w1.alloc (.cells #[.int .i64 i] 3))) := by
      have hgs : g < w1.heap.size := (HO1.out.lt g rfl).2
      refine ⟨HO1.out.alloc _, HLN.out, ?_, HB1.out.alloc HB1.out.size _, by simp [Value.ownBlock]; omega, hgl⟩
      have := World.ownsRow_lit (base := w.heap.size) (e := 3) (size := 1) w1 #[.int .i64 i] 1 HB1.out.size (by unfold maxLen; omega) rfl
      exact this
    have f17 := HST.out.free (i * 19 + 17)
    have o17 := HST.out.has HX.out 17 (bubL_17 x)
    have f18 := HST.out.free (i * 19 + 18)
    have o18 := HST.out.has HX.out 18 (bubL_18 x)
    have R1 := HST.out.turn HX.out 17 (.int .i64 3) (by omega) (bubL_state x 3)
    have HR := Lib.hid R1
    rw [HS1.out] at c17
    obtain ⟨ask, hask⟩ : ∃ ask, insAsk bs i = ask := ⟨_, rfl⟩
    obtain ⟨S0, hS0⟩ : ∃ S0, bs.set i { x with state := 3, home := home } = S0 := ⟨_, rfl⟩
    have HASK := Lib.hid hask; have HS0 := Lib.hid hS0
    clear R1
    go_upto_region 12 with fail
    go_cut [] (fun wx => OutS w n (bs.set i { x with state := 3 }) g cap (.slice (some ⟨w1.heap.size, 0, none⟩) 1 1) [(i : Int)] wx)
    case first =>
      go_wp2_with fail
      go_meet
      exact HR.out
    have HA := Lib.hid hcut
    rename World => w2
    clear hcut HR HST f17 o17 f18 o18 c17 hask hS0
    have hxa : (bs.set i { x with state := 3 })[i]? = some { x with state := 3 } := by
      rw [List.getElem?_set_self (List.getElem?_eq_some_iff.1 HX.out).1]
    have R2 := HA.out.turn hxa 18 (.int .i64 home) (by omega) (bubL_home _ home)
    rw [List.set_set] at R2
    have HR2 : Hid (OutS w n S0 g cap (.slice (some ⟨w1.heap.size, 0, none⟩) 1 1) [(i : Int)] (w2.setCell ⟨g, i * 19 + 18, none⟩ (.int .i64 home))) := by rw [← HS0.out]; exact Lib.hid R2
    have f2 := HA.out.free (i * 19 + 18)
    have o2 := HA.out.has hxa 18 (bubL_18 _)
    clear R2 hxa
    go_upto_region 13 with fail
    go_cut [] (fun wx => OutS w n S0 g cap (.slice (some ⟨w1.heap.size, 0, none⟩) 1 1) [(i : Int)] wx)
    case first =>
      go_wp2_with fail
      go_meet
      exact HR2.out
    have H2 := Lib.hid hcut
    rename World => w3
    clear hcut HR2 f2 o2 HA
    go_wp2_with fail
    go_loopw [14, 16, 97] (fun uv sv iv wr => ∃ (j : Nat) (u1 : Value), j ≤ n ∧ u1 = sv ∧ iv = .int .i64 j ∧ OutS w n (sealOwn S0 (selI ask j)) g cap uv ((i : Int) :: selI ask j) wr) (fun _ _ iv _ => n - (intOf iv).toNat)
    case atStart => exact ⟨0, _, Nat.zero_le _, rfl, rfl, H2.out⟩
    case round =>
      obtain ⟨j, us, hj, rfl, rfl, hS⟩ := hrel
      have HS := Lib.hid hS; clear hS H2
      by_cases hlt : j < n
      · have hjb : j < bs.length := by have := HLN.out; omega
        obtain ⟨z, hz⟩ : ∃ z, bs[j]? = some z := ⟨_, List.getElem?_eq_getElem hjb⟩
        have k0 : (0 : Int) ≤ (j : Int) := by omega
        have k1 : (j : Int) < (n : Int) := by omega
        have k2 : decide (j < n) = true := by simpa using hlt
        have HDr := HF.out.below HS.out.old
        have hrow : ∃ g1 cp1, (Value.slice (some ⟨g0, 0, none⟩) n cp0) = .slice (some ⟨g1, 0, none⟩) bs.length cp1 ∧ w.rangeAt g1 (j * 19) (bubL z) ∧ g1 < w.heap.size := row_at HF.out.row hz
        obtain ⟨g1, cp1, e1, hr1, -⟩ := hrow
        simp only [Value.slice.injEq, Option.some.injEq, Addr.mk.injEq] at e1
        obtain ⟨⟨rfl, -, -⟩, -, -⟩ := e1
        have zz := hr1 17 _ (bubL_17 z)
        have HZC : Hid (∀ W, Below w.heap.size w W → W.cell? ⟨g0, j * 19 + 17, none⟩ = some (.int .i64 z.state)) := fun W hW => (hW.cell (p := ⟨g0, j * 19 + 17, none⟩) hg0).trans zz
        have hsu : Hid (selI ask (j + 1) = if ask j then selI ask j ++ [(j : Int)] else selI ask j) := selI_succ ask j
        have hst := HF.out.inv.st j z hz
        have haj : Hid (ask j = (!(j == i) && (insideP bs (j : Int) (i : Int) && decide (3 ≤ z.state)))) := by
          show _ = _
          rw [← HASK.out]; unfold insAsk inAsk; rw [atB_of hz]
          have : (z.state == 3 || z.state == 4) = decide (3 ≤ z.state) := by
            by_cases q3 : z.state = 3
            · simp [q3]
            · by_cases q4 : z.state = 4
              · simp [q4]
              · have : ¬ 3 ≤ z.state := by omega
                simp [q3, q4, this]
          rw [this]
        have HI := Lib.hid (rinside_any (j : Int) (i : Int) HDr)
        have HZ := Lib.hid hz
        clear hr1 hz hjb HDr zz hst
        cases t1 : (j == i) with
        | true =>
          have hn2 := hsu.out
          rw [haj.out, t1] at hn2
          have HN2 := Lib.hid hn2; clear hn2
          have hji : j = i := by simpa using t1
          have t2 : ((j : Int) != (i : Int)) = false := by simp [hji]
          have t3 : (j != i) = false := by simp [hji]
          clear hji
          go_wp2_with fail
          go_roundw
          case rel => exact ⟨j + 1, _, hlt, rfl, by go_num, by rw [HN2.out]; exact HS.out⟩
          case measure => simp [intOf]; omega
        | false =>
          have hji : j ≠ i := by simpa using t1
          have t2 : ((j : Int) != (i : Int)) = true := by simp; omega
          have t3 : (j != i) = true := by simp [hji]
          cases t4 : insideP bs (j : Int) (i : Int) with
          | false =>
            rw [t4] at HI
            have hn2 := hsu.out
            rw [haj.out, t1, t4] at hn2
            have HN2 := Lib.hid hn2; clear hn2
            clear hji
            go_wp2_with (go_at_call 72; (with_reducible refine HI.out.mono ?_); rintro e w4 ⟨rfl, h4⟩; have HB4 := Lib.hid h4; clear h4)
            go_roundw
            case rel => exact ⟨j + 1, _, hlt, rfl, by go_num, by rw [HN2.out]; exact HS.out.below HB4.out⟩
            case measure => simp [intOf]; omega
          | true =>
            rw [t4] at HI
            cases t5 : decide (3 ≤ z.state) with
            | false =>
              have hn2 := hsu.out
              rw [haj.out, t1, t4, t5] at hn2
              have HN2 := Lib.hid hn2; clear hn2
              clear hji
              generalize z.state = zs at *
              go_upto_if 108 with (go_at_call 72; (with_reducible refine HI.out.mono ?_); rintro e w4 ⟨rfl, h4⟩; have HB4 := Lib.hid h4; have z17 := HZC.out w4 (HS.out.old.trans (h4.mono HS.out.old.size)); clear h4)
              go_wp2_with fail
              go_roundw
              case rel => exact ⟨j + 1, _, hlt, rfl, by go_num, by rw [HN2.out]; exact HS.out.below HB4.out⟩
              case measure => simp [intOf]; omega
            | true =>
              have hn2 := hsu.out
              rw [haj.out, t1, t4, t5] at hn2
              have HN2 := Lib.hid hn2; clear hn2
              have hTz : (sealOwn S0 (selI ask j))[j]? = some z := by
                rw [sealOwn_at _ _ _ _ (by rw [← HS0.out, List.length_set]; have := HLN.out; omega), if_neg (by omega), ← HS0.out, List.getElem?_set_ne (fun q => hji q.symm)]; exact HZ.out
              have HTZ := Lib.hid hTz
              clear hji hTz
              go_upto_region 18 with (go_at_call 72; (with_reducible refine HI.out.mono ?_); rintro e w4 ⟨rfl, h4⟩; have HB4 := Lib.hid h4; have z17 := HZC.out w4 (HS.out.old.trans (h4.mono HS.out.old.size)); clear h4)
              have HS4 := Lib.hid (HS.out.below HB4.out)
              have R1 := HS4.out.turn HTZ.out 17 (.int .i64 2) (by omega) (bubL_state z 2)
              have f1 := HS4.out.free (j * 19 + 17)
              have o1 := HS4.out.has HTZ.out 17 (bubL_17 z)
              have HR1 := Lib.hid R1
              clear R1 z17
              go_cut [] (fun wx => OutS w n (sealOwn S0 (selI ask (j + 1))) g cap u14 ((i : Int) :: selI ask j) wx)
              case first =>
                go_wp2_with fail
                go_meet
                rw [HN2.out]
                simp only [Bool.not_false, Bool.and_self, if_true]
                rw [sealOwn_app, Int.toNat_natCast, atB_of HTZ.out]
                exact HR1.out
              case rest =>
                have H4 := Lib.hid hcut
                rename World => w5
                clear hcut f1 o1 HR1 HS4
                have hll : ((i : Int) :: selI ask j).length ≤ 1000 := by have := selI_len ask j; simp; omega
                have HL4 := Lib.hid hll; clear hll
                go_wp2_with (at_builtin; refine haltM ?_)
                refine Lib.hid ?_
                refine outS_app rfl (.tmp 121) (.tmp 123) rfl H4.out (j : Int) rfl rfl HL4.out ?_
                intro u9 w9 h9
                have H9 := Lib.hid h9; clear h9
                go_wp2_with fail
                go_roundw
                case rel => exact ⟨j + 1, _, hlt, rfl, by go_num, by have := H9.out; rw [List.cons_append] at this; rw [HN2.out] at this ⊢; exact this⟩
                case measure => simp [intOf]; omega
      · have hjn : j = n := by omega
        have k2 : decide (j < n) = false := by simpa using hlt
        have k3 : ¬ (j : Int) < (n : Int) := by omega
        have hfin : Hid (OutS w n (sealOwn S0 (selI ask bs.length)) g cap u14 ((i : Int) :: selI ask bs.length) wr) := by
          rw [show bs.length = j by rw [HLN.out, hjn]]; exact HS
        clear hlt hjn HS
        go_wp2_with fail
        refine bodyPost_ret (v := .tuple #[.slice (some ⟨g, 0, none⟩) n cap, u14, .int .i64 0]) (by simp [results, Try.results50]) rfl ?_
        refine RTurnP.yes HI2.out ?_ HE.out HT.out HLL.out rfl
        rw [HASK.out, HS0.out]; exact hfin.out
end
end Go.Proofs.Ytekahmfchpgmfaa
