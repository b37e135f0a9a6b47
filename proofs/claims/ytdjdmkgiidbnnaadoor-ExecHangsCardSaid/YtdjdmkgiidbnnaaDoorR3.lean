/- The document's Run. -/
import Derived.Test.YtdjdmkgiidbnnaaDoorR0
import Derived.Test.YtdjdmkgiidbnnaaDoorH0
namespace Go.Proofs.YtdjdmkgiidbnnaaDoor
open Go.RowKit

theorem stepF_regs {prio : Int} {l : List I4} {pc : Int} {r : R4} (h : r.Ok) (hl : ∀ (k : Nat) x, l[k]? = some x → In32 x.n) : (stepF prio l pc r).r.Ok := by
  unfold stepF; split
  · split
    · rename_i x hx; exact stepP_regs h (hl _ x hx)
    · exact h
  · exact h
set_option maxRecDepth 100000 in
set_option maxHeartbeats 8000000 in
theorem refRun_any (prio : Int) (A : Option Addr) (l : List I4) (cap : Nat) (r : R4) (fuel : Int) (w : World) (hT : Tabs w) (hI : InsIn w A l) (hr : r.Ok) :
    Calls Tryd.prog 13 #[.agg #[.int .i64 prio, .slice A l.length cap], regV r, .int .i64 fuel] w (RunP (runF prio l (min fuel 65536).toNat 0 r []) w) := by
  have hF := Four.new w prio A l.length cap r
  have HX2 : Hid (RunI w _ prio A l.length cap r (.slice none 0 0) []) := ⟨hT.on hF.below, hF, mine_nil _ _⟩
  have HT := Lib.hid hT; have HI := Lib.hid hI; have HR := Lib.hid hr
  have HW : Hid (∀ (k : Nat) x, l[k]? = some x → In32 x.n) := fun k x hx => (hI k x hx).1.n
  have HST : Hid (∀ W pc q, InsIn W A l → q.Ok → Calls Tryd.prog 11 #[.agg #[.int .i64 prio, .slice A l.length cap], .int .i64 pc, regV q] W (StepG (stepF prio l pc q) W)) := fun W pc q h1 h2 => refStep_any prio A l cap pc q W h1 h2
  clear hF hT hI hr
  obtain ⟨M, hM⟩ : ∃ M, min fuel 65536 = M := ⟨_, rfl⟩
  have hM2 : M ≤ 65536 := by omega
  rw [hM]
  obtain ⟨R, hRR⟩ : ∃ R, runF prio l M.toNat 0 r [] = R := ⟨_, rfl⟩
  rw [hRR]
  have HRR := Lib.hid hRR; clear hRR
  generalize l.length = N at *
  go_enter Tryd.func13, Tryd.ntmps13
  go_wp2_with fail
  generalize (((w.alloc (.cells #[.int .i64 prio, .slice A N cap] 24)).alloc (.cells #[.int .i32 r.a, .int .i32 r.b, .int .i32 r.c, .int .i32 r.d] 25)).alloc (.cells #[.int .i32 0, .int .i32 0, .int .i32 0, .int .i32 0] 25)).alloc (.cells #[.int .i64 0, .int .i64 0, .int .i32 0] 29) = w2 at *
  go_loopw [10, 11, 12] (fun pcv tv iv wr => ∃ (k : Nat) (pc : Int) (q : R4) (t : List Int) (v : Value), v = tv ∧ pcv = .int .i64 pc ∧ iv = .int .i64 k ∧ k ≤ M.toNat ∧ q.Ok ∧ t.length ≤ k ∧ runF prio l M.toNat 0 r [] = runF prio l (M.toNat - k) pc q t ∧ RunI w wr prio A N cap q v t) (fun _ _ iv _ => M.toNat - (intOf iv).toNat)
  case atStart => exact ⟨0, 0, r, [], _, rfl, rfl, rfl, Nat.zero_le _, HR.out, Nat.le_refl _, rfl, HX2.out⟩
  case round =>
    obtain ⟨k, pc, q, t, v, rfl, rfl, rfl, hk, hq, ht, hrun, hX⟩ := hrel
    clear HX2
    have HQ := Lib.hid hq; have HRUN := Lib.hid hrun; have HX := Lib.hid hX
    clear hq hrun hX
    by_cases hlt : (k : Int) < M
    · have hgo := stepF_regs (prio := prio) (l := l) (pc := pc) HQ.out HW.out
      have HRS : Hid (runF prio l (M.toNat - k) pc q t = if (stepF prio l pc q).e.op = 13 then runF prio l (M.toNat - (k + 1)) (stepF prio l pc q).pc (stepF prio l pc q).r (t ++ [(stepF prio l pc q).e.n]) else if (stepF prio l pc q).e.op = 0 ∨ (stepF prio l pc q).e.op = 6 then runF prio l (M.toNat - (k + 1)) (stepF prio l pc q).pc (stepF prio l pc q).r t else ⟨(stepF prio l pc q).pc, (stepF prio l pc q).r, t, (stepF prio l pc q).e⟩) := by
        show _ = _
        rw [show M.toNat - k = (M.toNat - (k + 1)) + 1 by omega, runF]
      have HC := Lib.hid (HST.out wr pc q (HI.out.below HX.out.four.below) HQ.out)
      obtain ⟨G, hG⟩ : ∃ G, stepF prio l pc q = G := ⟨_, rfl⟩
      rw [hG] at HC HRS hgo
      have HGO := Lib.hid hgo
      clear hG hgo
      obtain ⟨gp, g, ⟨fo, fr, fn⟩⟩ := G
      have h1 : (k : Int) < fuel := by omega
      have h2 : (k : Int) < 65536 := by omega
      obtain ⟨p0, p1, q0, q1, q2, q3, -⟩ := HX.out.four.cells
      go_wp2_with fail
      refine HC.out.mono ?_
      rintro e w4 ⟨rfl, h4⟩
      dsimp only
      obtain ⟨b5, r5, e5⟩ := two (w := w4) (t := 25) (u := 29) (a := #[.int .i32 g.a, .int .i32 g.b, .int .i32 g.c, .int .i32 g.d]) (b := #[.int .i64 fo, .int .i64 fr, .int .i32 fn])
      have hX4 := HX.out.on h4
      have HE5 : Hid (RunE w _ prio A N cap q v t (w4.heap.size + 1) ⟨fo, fr, fn⟩) := ⟨hX4.on b5, e5, by have := hX4.four.f.lt; omega, fun x hx => by have := (hX4.mine.lt x hx).2; omega⟩
      have hs4 := h4.size
      clear h4 hX4 b5 e5 p0 p1 q0 q1 q2 q3 HC HX
      go_upto_region 8 with fail
      generalize ((w4.alloc (.cells #[.int .i32 g.a, .int .i32 g.b, .int .i32 g.c, .int .i32 g.d] 25)).alloc (.cells #[.int .i64 fo, .int .i64 fr, .int .i32 fn] 29)) = W5 at *
      obtain ⟨x0, x1, x2, x3⟩ : W5.cell? ⟨w4.heap.size, 0, none⟩ = some (.int .i32 g.a) ∧ W5.cell? ⟨w4.heap.size, 1, none⟩ = some (.int .i32 g.b) ∧ W5.cell? ⟨w4.heap.size, 2, none⟩ = some (.int .i32 g.c) ∧ W5.cell? ⟨w4.heap.size, 3, none⟩ = some (.int .i32 g.d) := ⟨r5.cell 0, r5.cell 1, r5.cell 2, r5.cell 3⟩
      obtain ⟨-, -, q0, q1, q2, q3, -⟩ := HE5.out.run.four.cells
      obtain ⟨uq, -, -⟩ := HE5.out.run.four.frees
      clear r5
      go_upto_region 9 with fail
      have HX7 := HE5.out.putR HT.out g
      dsimp only [setR] at HX7
      have HX7 := Lib.hid HX7
      clear x0 x1 x2 x3 q0 q1 q2 q3 uq HE5
      generalize (((W5.setCell ⟨w.heap.size + 1, 0, none⟩ (.int .i32 g.a)).setCell ⟨w.heap.size + 1, 1, none⟩ (.int .i32 g.b)).setCell ⟨w.heap.size + 1, 2, none⟩ (.int .i32 g.c)).setCell ⟨w.heap.size + 1, 3, none⟩ (.int .i32 g.d) = W7 at *
      clear hs4
      generalize w4.heap.size + 1 = E at *
      obtain ⟨e0, e1, e2, ue, hE, hE2⟩ := HX7.out.cells
      dsimp only at e0 e1 e2
      by_cases h13 : fo = 13
      · subst h13
        rw [if_pos rfl] at HRS
        have HB8 := HX7.out.run.on ((Below.refl _ _).alloc (Nat.le_refl _) (.cells #[.int .i32 fn] 21))
        have HBS := (Blk.new W7 21 #[.int .i32 fn]).cell 0
        simp only [List.getElem?_toArray, List.getElem?_cons_zero] at HBS
        have HB8 := Lib.hid HB8; have HBS := Lib.hid HBS
        go_wp2_with (at_builtin; refine haltW ?_)
        refine Lib.hid ?_
        refine app_word rfl (.tmp 38) (.tmp 41) rfl (w.heap.size + 1 + 1 + 1 + 1) v t rfl HB8.out.mine _ fn rfl HBS.out (by omega) (by have := HB8.out.four.f.lt; omega) ?_
        intro v' w9 own9 g9 b9
        have h9 : RunI w w9 prio A N cap g v' (t ++ [fn]) := ⟨HT.out.on (HB8.out.four.low b9).below, HB8.out.four.low b9, own9⟩
        have H9 := Lib.hid h9
        clear own9 g9 b9 h9 e0 e1 e2 ue HB8 HBS HX7
        go_wp2_with fail
        go_roundw
        case rel => exact ⟨k + 1, gp, g, t ++ [fn], v', rfl, rfl, by go_num, by omega, HGO.out, by simp; omega, HRUN.out.trans HRS.out, H9.out⟩
        case measure => simp [intOf]; omega
      · by_cases h06 : fo = 0 ∨ fo = 6
        · rw [if_neg h13, if_pos h06] at HRS
          rcases h06 with rfl | rfl
          all_goals
            clear h13
            go_wp2_with fail
            go_roundw
            case rel => exact ⟨k + 1, gp, g, t, v, rfl, rfl, by go_num, by omega, HGO.out, by omega, HRUN.out.trans HRS.out, HX7.out.run⟩
            case measure => simp [intOf]; omega
        · rw [if_neg h13, if_neg h06] at HRS
          have q0 : (fo != 0) = true := by simp; omega
          have q6 : (fo != 6) = true := by simp; omega
          have q13 : (fo == 13) = false := by simp; omega
          clear h13 h06
          obtain ⟨⟨q0', q1', q2', q3'⟩, ⟨z0, z1, z2, z3⟩, ⟨f0, f1, f2⟩, uz, uf⟩ := HX7.out.run.cells
          go_wp2_with fail
          go_region
          all_goals go_wp2
          all_goals refine bodyPost_ret (v := .tuple #[.int .i64 gp, .agg #[.int .i32 g.a, .int .i32 g.b, .int .i32 g.c, .int .i32 g.d], v, .agg #[.int .i64 fo, .int .i64 fr, .int .i32 fn]]) (by simp [results, Tryd.results13, go_sem, *]) rfl ?_
          all_goals
            obtain rfl : R = ⟨gp, g, t, ⟨fo, fr, fn⟩⟩ := by rw [← HRR.out, HRUN.out, HRS.out]
            have hd := HX7.out.run.done' g ⟨fo, fr, fn⟩
            exact ⟨v, hd.1, rfl, hd.2⟩
    · have hz : M.toNat - k = 0 := by omega
      have hrun := HRUN.out
      rw [hz] at hrun
      have hR : R = ⟨pc, q, t, Eff.zero⟩ := by rw [← HRR.out, hrun]; rfl
      have HR' := Lib.hid hR
      obtain ⟨⟨q0', q1', q2', q3'⟩, ⟨z0, z1, z2, z3⟩, ⟨f0, f1, f2⟩, uz, uf⟩ := HX.out.cells
      have h12 : ¬ (k : Int) < fuel ∨ ((k : Int) < fuel ∧ ¬ (k : Int) < 65536) := by omega
      clear hrun hR hz hlt hk ht hM
      rcases h12 with h1 | ⟨h1, h2⟩
      all_goals
        go_wp2_with fail
        go_region
        all_goals go_wp2
        all_goals refine bodyPost_ret (v := .tuple #[.int .i64 pc, .agg #[.int .i32 q.a, .int .i32 q.b, .int .i32 q.c, .int .i32 q.d], v, .agg #[.int .i64 0, .int .i64 0, .int .i32 0]]) (by simp [results, Tryd.results13, go_sem, *]) rfl ?_
        all_goals
          obtain rfl := HR'.out
          have hd := HX.out.done' q Eff.zero
          exact ⟨v, hd.1, rfl, hd.2⟩
end Go.Proofs.YtdjdmkgiidbnnaaDoor
