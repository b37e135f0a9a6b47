/- exec's Run. -/
import Derived.Test.YtdjdmkgiidbnnaaDoorR0
namespace Go.Proofs.YtdjdmkgiidbnnaaDoor
open Go.RowKit

set_option maxRecDepth 100000 in
set_option maxHeartbeats 8000000 in
theorem run_fine (prio : Int) (A : Option Addr) (l : List I4) (cap : Nat) (r : R4) (fuel : Int) (w : World) (hT : Tabs w) (hI : InsIn w A l) (hf : Fine prio l) (hr : r.Ok) :
    Calls Tryd.prog 12 #[.agg #[.int .i64 prio, .slice A l.length cap], regV r, .int .i64 fuel] w (RunP (runF prio l (min fuel 65536).toNat 0 r []) w) := by
  have hF := Four.new w prio A l.length cap r
  have HM := may_any prio A l cap _ (hT.on hF.below) (hI.below hF.below)
  rw [hf.ok, show decide ((0 : Int) = 0) = true from rfl] at HM
  have HM := Lib.hid HM; have HF := Lib.hid hF; have HT := Lib.hid hT; have HI := Lib.hid hI; have HFI := Lib.hid hf; have HR := Lib.hid hr
  obtain ⟨p0, p1, q0, q1, q2, q3, -⟩ := hF.cells
  clear hF hT hI hr hf
  obtain ⟨M, hM⟩ : ∃ M, min fuel 65536 = M := ⟨_, rfl⟩
  have hM2 : M ≤ 65536 := by omega
  rw [hM]
  obtain ⟨R, hRR⟩ : ∃ R, runF prio l M.toNat 0 r [] = R := ⟨_, rfl⟩
  rw [hRR]
  have HRR := Lib.hid hRR; clear hRR
  obtain ⟨N, hN⟩ : ∃ N, l.length = N := ⟨_, rfl⟩
  have HN := Lib.hid hN
  rw [hN] at HM HF p1 ⊢
  clear hN
  go_enter Tryd.func12, Tryd.ntmps12
  go_upto_region 2 with (go_at_call 21; (with_reducible refine HM.out.mono ?_); rintro e w2 ⟨rfl, h2⟩; have HF2 := Lib.hid (HF.out.on h2); clear h2 p0 p1 q0 q1 q2 q3)
  have HX2 : Hid (RunI w w2 prio A N cap r (.slice none 0 0) []) := ⟨HT.out.on HF2.out.below, HF2.out, mine_nil _ _⟩
  clear HF2 HM HF
  go_cut [17, 18] (fun m i wx => m = .int .i64 M ∧ i = .int .i64 0 ∧ wx = w2)
  case first =>
    by_cases hfu : fuel ≤ 65536
    · obtain rfl : fuel = M := by omega
      clear hM
      go_wp2_with fail
      go_meet
      exact ⟨rfl, rfl, rfl⟩
    · obtain rfl : M = 65536 := by omega
      have hfu : 65536 < fuel := by omega
      clear hM
      go_wp2_with fail
      go_meet
      exact ⟨rfl, rfl, rfl⟩
  case rest =>
  obtain ⟨rfl, rfl, rfl⟩ := hcut
  clear hM
  go_wp2_with fail
  go_loopw [10, 11, 18] (fun pcv tv iv wr => ∃ (k pc : Nat) (q : R4) (t : List Int) (v : Value), v = tv ∧ pcv = .int .i64 pc ∧ iv = .int .i64 k ∧ k ≤ M.toNat ∧ pc < N ∧ q.Ok ∧ t.length ≤ k ∧ runF prio l M.toNat 0 r [] = runF prio l (M.toNat - k) pc q t ∧ RunI w wr prio A N cap q v t) (fun _ _ iv _ => M.toNat - (intOf iv).toNat)
  case atStart => exact ⟨0, 0, r, [], _, rfl, rfl, rfl, Nat.zero_le _, by have := HFI.out.len; rw [HN.out] at this; omega, HR.out, Nat.le_refl _, rfl, HX2.out⟩
  case round =>
    obtain ⟨k, pc, q, t, v, rfl, rfl, rfl, hk, hpc, hq, ht, hrun, hX⟩ := hrel
    clear HX2
    have HQ := Lib.hid hq; have HRUN := Lib.hid hrun; have HX := Lib.hid hX
    clear hq hrun hX
    by_cases hlt : (k : Int) < M
    · obtain ⟨x, hx⟩ : ∃ x, l[pc]? = some x := ⟨_, List.getElem?_eq_getElem (by rw [HN.out]; exact hpc)⟩
      have hn := (HI.out pc x hx).1.n
      have hm := HFI.out.may hx hn
      have hlen := HFI.out.len
      rw [HN.out] at hlen
      obtain ⟨j, hj, hjl⟩ := stepP_pc HFI.out hx hn q
      rw [HN.out] at hjl
      have hgo := stepP_regs (pc := (pc : Int)) HQ.out hn
      have hz := stepP_zero (x := x) (pc := (pc : Int)) (r := q)
      have HST : Hid (∀ W, Calls Tryd.prog 22 #[insV x, .int .i64 pc, regV q] W (StepG (stepP x pc q) W)) := fun W => step_any x l.length pc q W hm (by omega)
      have hsf : stepF prio l pc q = stepP x pc q := stepF_in (by rw [HFI.out.ok]) hx
      have HRS : Hid (runF prio l (M.toNat - k) pc q t = if (stepP x pc q).e.op = 13 then runF prio l (M.toNat - (k + 1)) (stepP x pc q).pc (stepP x pc q).r (t ++ [(stepP x pc q).e.n]) else if (stepP x pc q).e.op = 0 ∨ (stepP x pc q).e.op = 6 then runF prio l (M.toNat - (k + 1)) (stepP x pc q).pc (stepP x pc q).r t else ⟨(stepP x pc q).pc, (stepP x pc q).r, t, (stepP x pc q).e⟩) := by
        show _ = _
        rw [show M.toNat - k = (M.toNat - (k + 1)) + 1 by omega, runF, hsf]
      obtain ⟨G, hG⟩ : ∃ G, stepP x pc q = G := ⟨_, rfl⟩
      rw [hG] at HST HRS hj hgo hz
      have HGO := Lib.hid hgo; have HZ := Lib.hid hz; have HXX := Lib.hid hx
      clear hG hsf hgo hz hm hn hx
      obtain ⟨gp, g, ⟨fo, fr, fn⟩⟩ := G
      dsimp only at hj
      subst hj
      obtain ⟨op, xa, xb, xn⟩ := x
      have hB := HX.out.box
      have HBX := Lib.hid hB
      clear hB
      go_upto_region 7 with fail
      generalize wr.alloc (.cells #[.int .i64 0, .int .i64 0, .int .i32 0] 29) = W1 at *
      generalize wr.heap.size = E at *
      go_cut [10] (fun pcv wx => pcv = .int .i64 j ∧ RunE w wx prio A N cap g v t E ⟨fo, fr, fn⟩)
      case first =>
        have HB1 := Lib.hid HBX.out.drew
        obtain ⟨ft, bb, off, rfl, -, c0, c1, c2, c3⟩ := (HI.out.below HB1.out.run.four.below) pc _ HXX.out
        obtain ⟨p0, p1, q0, q1, q2, q3, -⟩ := HB1.out.run.four.cells
        have k0 : (0 : Int) ≤ (pc : Int) := by omega
        have k1 : (pc : Int) < (N : Int) := by omega
        dsimp only at c0 c1 c2 c3
        go_region_with (go_at_call 22; (with_reducible refine (HST.out _).mono ?_); rintro e w4 ⟨rfl, h4⟩; have H4 := Lib.hid (HB1.out.on h4); clear h4; obtain ⟨-, -, z0, z1, z2, z3, -⟩ := H4.out.run.four.cells; obtain ⟨uq, -, -⟩ := H4.out.run.four.frees; obtain ⟨e0, e1, e2, ue, hE, hE2⟩ := H4.out.cells)
        all_goals
          go_wp2_with fail
          go_meet
          exact ⟨rfl, H4.out.put HT.out g ⟨fo, fr, fn⟩⟩
      case rest =>
        obtain ⟨rfl, hX7⟩ := hcut
        clear HBX HST HX
        generalize wc = W7 at *
        have HX7 := Lib.hid hX7; clear hX7
        obtain ⟨e0, e1, e2, ue, hE, hE2⟩ := HX7.out.cells
        dsimp only at e0 e1 e2
        by_cases h13 : fo = 13
        · subst h13
          rw [if_pos rfl] at HRS
          have HB8 := HX7.out.run.on ((Below.refl _ _).alloc (Nat.le_refl _) (.cells #[.int .i32 fn] 21))
          have HBS := (Blk.new W7 21 #[.int .i32 fn]).cell 0
          simp only [List.getElem?_toArray, List.getElem?_cons_zero] at HBS
          have HB8 := Lib.hid HB8; have HBS := Lib.hid HBS
          go_wp2_with (at_builtin; refine haltW ?_)
          refine Lib.hid ?_
          refine app_word rfl (.tmp 48) (.tmp 51) rfl (w.heap.size + 1 + 1 + 1 + 1) v t rfl HB8.out.mine _ fn rfl HBS.out (by omega) (by have := HB8.out.four.f.lt; omega) ?_
          intro v' w9 own9 g9 b9
          have h9 : RunI w w9 prio A N cap g v' (t ++ [fn]) := ⟨HT.out.on (HB8.out.four.low b9).below, HB8.out.four.low b9, own9⟩
          have H9 := Lib.hid h9
          clear own9 g9 b9 h9 e0 e1 e2 ue HB8 HBS HX7
          go_wp2_with fail
          go_roundw
          case rel => exact ⟨k + 1, j, g, t ++ [fn], v', rfl, rfl, by go_num, by omega, by omega, HGO.out, by simp; omega, HRUN.out.trans HRS.out, H9.out⟩
          case measure => simp [intOf]; omega
        · by_cases h06 : fo = 0 ∨ fo = 6
          · rw [if_neg h13, if_pos h06] at HRS
            rcases h06 with rfl | rfl
            all_goals
              clear h13
              go_wp2_with fail
              go_roundw
              case rel => exact ⟨k + 1, j, g, t, v, rfl, rfl, by go_num, by omega, by omega, HGO.out, by omega, HRUN.out.trans HRS.out, HX7.out.run⟩
              case measure => simp [intOf]; omega
          · rw [if_neg h13, if_neg h06] at HRS
            have q0 : (fo == 0) = false := by simp; omega
            have q6 : (fo == 6) = false := by simp; omega
            have q13 : (fo == 13) = false := by simp; omega
            clear h13 h06
            obtain ⟨⟨q0', q1', q2', q3'⟩, ⟨z0, z1, z2, z3⟩, ⟨f0, f1, f2⟩, uz, uf⟩ := HX7.out.run.cells
            go_wp2_with fail
            go_region
            all_goals go_wp2
            all_goals refine bodyPost_ret (v := .tuple #[.int .i64 j, .agg #[.int .i32 g.a, .int .i32 g.b, .int .i32 g.c, .int .i32 g.d], v, .agg #[.int .i64 fo, .int .i64 fr, .int .i32 fn]]) (by simp [results, Tryd.results12, go_sem, *]) rfl ?_
            all_goals
              obtain rfl : R = ⟨j, g, t, ⟨fo, fr, fn⟩⟩ := by rw [← HRR.out, HRUN.out, HRS.out]
              have hd := HX7.out.run.done' g ⟨fo, fr, fn⟩
              exact ⟨v, hd.1, rfl, hd.2⟩
    · have hz : M.toNat - k = 0 := by omega
      have hrun := HRUN.out
      rw [hz] at hrun
      have hR : R = ⟨pc, q, t, Eff.zero⟩ := by rw [← HRR.out, hrun]; rfl
      have HR' := Lib.hid hR
      have hlt' : decide ((k : Int) < M) = false := by simpa using hlt
      obtain ⟨⟨q0', q1', q2', q3'⟩, ⟨z0, z1, z2, z3⟩, ⟨f0, f1, f2⟩, uz, uf⟩ := HX.out.cells
      clear hrun hR hz hlt hk hpc ht
      go_wp2_with fail
      go_region
      all_goals go_wp2
      all_goals refine bodyPost_ret (v := .tuple #[.int .i64 pc, .agg #[.int .i32 q.a, .int .i32 q.b, .int .i32 q.c, .int .i32 q.d], v, .agg #[.int .i64 0, .int .i64 0, .int .i32 0]]) (by simp [results, Tryd.results12, go_sem, *]) rfl ?_
      all_goals
        obtain rfl := HR'.out
        have hd := HX.out.done' q Eff.zero
        exact ⟨v, hd.1, rfl, hd.2⟩
end Go.Proofs.YtdjdmkgiidbnnaaDoor
