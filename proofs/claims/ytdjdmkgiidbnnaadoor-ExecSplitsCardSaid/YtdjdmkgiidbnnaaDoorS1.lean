/- ExecSplits: the walk of splits. -/
import Derived.Test.YtdjdmkgiidbnnaaDoorS0
import Derived.Deep.DeepCutAuto
namespace Go.Proofs.YtdjdmkgiidbnnaaDoor
open Go.RowKit

theorem RunF.told_len {prio : Int} {l : List I4} {a : Nat} {r : R4} {R : Ran} (h : runF prio l a 0 r [] = R) : R.told.length ≤ a := by
  have := runF_len prio l a 0 r []
  rw [h] at this; simpa using this
set_option maxRecDepth 100000 in
set_option maxHeartbeats 8000000 in
theorem splits_any (prio : Int) (A : Option Addr) (l : List I4) (cap : Nat) (r : R4) (a b : Nat) (w : World) (ha : a < 100) (hb : b < 100) (hT : Tabs w) (hI : InsIn w A l) (hr : r.Ok) :
    Calls Tryd.prog 16 #[.agg #[.int .i64 prio, .slice A l.length cap], regV r, .int .i64 a, .int .i64 b] w (GotB w.heap.size (.bool true) w) := by
  have P1 := P2.new hT prio A l.length cap r
  have HC := refCheck_any prio A l cap _ (hI.below P1.below)
  unfold CheckP at HC
  by_cases he : (progE prio l).1 = 0
  · have hf := fine_of he
    rw [hf.ok] at HC
    have HC := Lib.hid HC; have P1 := Lib.hid P1
    have HLT : Hid (∀ W, Calls Tryd.prog 8 #[.agg #[.int .i64 prio, .slice A l.length cap]] W (GotB W.heap.size (.bool true) W)) := fun W => by
      have := light_any prio A l.length cap W; rwa [decide_eq_true (by have := hf.len; omega)] at this
    have HRA : Hid (∀ W, P2 w W prio A l.length cap r → Calls Tryd.prog 12 #[.agg #[.int .i64 prio, .slice A l.length cap], regV r, .int .i64 a] W (RunP (runF prio l a 0 r []) W)) := fun W h => by
      have := run_any prio A l cap r a W h.tabs (hI.below h.below) hr
      rwa [show (min (a : Int) 65536).toNat = a by omega] at this
    have HRB : Hid (∀ W, P2 w W prio A l.length cap r → Calls Tryd.prog 12 #[.agg #[.int .i64 prio, .slice A l.length cap], regV r, .int .i64 (a + b)] W (RunP (runF prio l (a + b) 0 r []) W)) := fun W h => by
      have := run_any prio A l cap r (a + b : Nat) W h.tabs (hI.below h.below) hr
      rwa [show (min ((a + b : Nat) : Int) 65536).toNat = a + b by omega, show ((a + b : Nat) : Int) = (a : Int) + b by omega] at this
    have HST : Hid (∀ W pc q, P2 w W prio A l.length cap r → Calls Tryd.prog 10 #[.agg #[.int .i64 prio, .slice A l.length cap], .int .i64 pc, regV q] W (StepG (stepF prio l pc q) W)) := fun W pc q h => Step_any prio A l cap pc q W h.tabs (hI.below h.below)
    have HL := Lib.hid (Left.start prio l a b r)
    obtain ⟨R1, hR1⟩ : ∃ R, runF prio l a 0 r [] = R := ⟨_, rfl⟩
    obtain ⟨R2, hR2⟩ : ∃ R, runF prio l (a + b) 0 r [] = R := ⟨_, rfl⟩
    have hl1 := RunF.told_len hR1; have hl2 := RunF.told_len hR2
    rw [hR1] at HRA HL
    rw [hR2] at HRB HL
    have HT := Lib.hid hT
    clear hT hI hr hf he hR1 hR2
    obtain ⟨ap, ⟨a0, a1, a2, a3⟩, at', ⟨ao, ar, an⟩⟩ := R1
    obtain ⟨x0, x1, x2, x3, x4, x5, x6⟩ := P1.out.cells
    dsimp only at hl1 HL
    generalize l.length = N at *
    go_enter Tryd.func16, Tryd.ntmps16
    go_wp2_with fail
    refine HC.out.mono ?_
    rintro e w2 ⟨rfl, h2⟩
    have Q2 := Lib.hid (P1.out.on h2)
    clear h2 P1 x0 x1 x2 x3 x4 x5 x6 HC
    obtain ⟨x0, x1, x2, x3, x4, x5, x6⟩ := Q2.out.cells
    go_wp2_with fail
    refine (HLT.out _).mono ?_
    rintro e w3 ⟨rfl, h3⟩
    have Q3 := Lib.hid (Q2.out.on h3)
    clear h3 x0 x1 x2 x3 x4 x5 x6 HLT Q2
    obtain ⟨x0, x1, x2, x3, x4, x5, x6⟩ := Q3.out.cells
    go_wp2_with fail
    refine (HRA.out _ Q3.out).mono ?_
    rintro e w4 ⟨v4, m4, rfl, h4⟩
    dsimp only
    have Q4 := Q3.out.on h4
    obtain ⟨b5, r5, e5⟩ := two (w := w4) (t := 25) (u := 29) (a := #[.int .i32 a0, .int .i32 a1, .int .i32 a2, .int .i32 a3]) (b := #[.int .i64 ao, .int .i64 ar, .int .i32 an])
    have S5 : Hid (SpI w _ prio A N cap r ⟨a0, a1, a2, a3⟩ v4 at' w4.heap.size (w4.heap.size + 1) ⟨ao, ar, an⟩) := ⟨Q4.on b5, r5, e5, ⟨by have := Q4.q.lt; omega, by omega⟩, (m4.on b5).less (by omega)⟩
    clear h4 Q4 b5 r5 e5 m4 Q3 x0 x1 x2 x3 x4 x5 x6
    go_wp2_with fail
    generalize (w4.alloc (.cells #[.int .i32 a0, .int .i32 a1, .int .i32 a2, .int .i32 a3] 25)).alloc (.cells #[.int .i64 ao, .int .i64 ar, .int .i32 an] 29) = W5 at *
    generalize w4.heap.size + 1 = E at *
    generalize w4.heap.size = R at *
    go_loopw [11, 13, 15] (fun pcv tv iv wr => ∃ (k : Nat) (pc : Int) (q : R4) (t : List Int) (v : Value) (e : Eff), v = tv ∧ pcv = .int .i64 pc ∧ iv = .int .i64 k ∧ k ≤ b ∧ t.length ≤ a + k ∧ Left prio l R2 (b - k) pc q t e ∧ SpI w wr prio A N cap r q v t R E e) (fun _ _ iv _ => b - (intOf iv).toNat)
    case atStart => exact ⟨0, ap, _, at', _, _, rfl, rfl, rfl, Nat.zero_le _, by omega, HL.out, S5.out⟩
    case round =>
      obtain ⟨k, pc, q, t, v, f, rfl, rfl, rfl, hk, ht, hl, hS⟩ := hrel
      clear HL S5
      have HLF := Lib.hid hl; have HS := Lib.hid hS
      clear hl hS
      have y0 := HS.out.e.cell 0
      simp only [List.getElem?_toArray, List.getElem?_cons_zero] at y0
      obtain ⟨fo, fr, fn⟩ := f
      obtain ⟨qa, qb, qc, qd⟩ := q
      dsimp only at y0
      by_cases hgo : k < b ∧ fo = 0
      · obtain ⟨hlt, rfl⟩ := hgo
        have k1 : (k : Int) < (b : Int) := by omega
        have HC := HST.out wr pc ⟨qa, qb, qc, qd⟩ HS.out.p
        obtain ⟨G, hG⟩ : ∃ G, stepF prio l pc ⟨qa, qb, qc, qd⟩ = G := ⟨_, rfl⟩
        rw [hG] at HC
        have HG := Lib.hid hG; have HC := Lib.hid HC
        clear hG
        obtain ⟨gp, ⟨ga, gb, gc, gd⟩, ⟨go, gr, gn⟩⟩ := G
        obtain ⟨x0, x1, -⟩ := HS.out.p.cells
        have z0 := HS.out.q.cell 0; have z1 := HS.out.q.cell 1; have z2 := HS.out.q.cell 2; have z3 := HS.out.q.cell 3
        simp only [List.getElem?_toArray, List.getElem?_cons_zero, List.getElem?_cons_succ] at z0 z1 z2 z3
        go_wp2_with fail
        refine HC.out.mono ?_
        rintro e w6 ⟨rfl, h6⟩
        dsimp only
        obtain ⟨b7, r7, e7⟩ := two (w := w6) (t := 25) (u := 29) (a := #[.int .i32 ga, .int .i32 gb, .int .i32 gc, .int .i32 gd]) (b := #[.int .i64 go, .int .i64 gr, .int .i32 gn])
        have S7 := Lib.hid ((HS.out.on h6).on b7)
        have hs6 := h6.size
        have hRlt := HS.out.q.lt; have hElt := HS.out.e.lt
        clear h6 b7 HS x0 x1 y0 z0 z1 z2 z3 HC
        go_upto_region 9 with fail
        generalize (w6.alloc (.cells #[.int .i32 ga, .int .i32 gb, .int .i32 gc, .int .i32 gd] 25)).alloc (.cells #[.int .i64 go, .int .i64 gr, .int .i32 gn] 29) = W7 at *
        have hRW : R ≠ w6.heap.size + 1 := by omega
        clear hs6 hRlt hElt
        generalize w6.heap.size + 1 = E2 at *
        generalize w6.heap.size = R2' at *
        have HR7 := Lib.hid r7; have HE7 := Lib.hid e7
        clear r7 e7
        go_cut [11] (fun pcv wx => pcv = .int .i64 gp ∧ SpI w wx prio A N cap r ⟨ga, gb, gc, gd⟩ v t R E ⟨0, fr, fn⟩ ∧ Blk wx E2 29 #[.int .i64 go, .int .i64 gr, .int .i32 gn])
        case first =>
          have u0 := HR7.out.cell 0; have u1 := HR7.out.cell 1; have u2 := HR7.out.cell 2; have u3 := HR7.out.cell 3
          have z0 := S7.out.q.cell 0; have z1 := S7.out.q.cell 1; have z2 := S7.out.q.cell 2; have z3 := S7.out.q.cell 3
          have uq : ∀ i, W7.frozen? ⟨R, i, none⟩ = false := fun i => S7.out.q.free i
          simp only [List.getElem?_toArray, List.getElem?_cons_zero, List.getElem?_cons_succ] at z0 z1 z2 z3 u0 u1 u2 u3
          have hfin := S7.out.putR HT.out ⟨ga, gb, gc, gd⟩
          have hfe : Blk (setR W7 R ⟨ga, gb, gc, gd⟩) E2 29 #[.int .i64 go, .int .i64 gr, .int .i32 gn] := HE7.out.but (but_setR W7 R ⟨ga, gb, gc, gd⟩) (fun e => hRW e.symm)
          have HFIN := Lib.hid hfin.drew; have HFE := Lib.hid hfe.drewS
          clear hfin hfe
          go_region
          all_goals go_wp2
          all_goals go_meet
          all_goals exact ⟨rfl, HFIN.out, HFE.out⟩
        case rest =>
          obtain ⟨rfl, hS8, hE8⟩ := hcut
          clear S7 HR7 HE7
          generalize wc = W8 at *
          have HS8 := Lib.hid hS8; have HE8 := Lib.hid hE8
          have e0 := hE8.cell 0; have e1 := hE8.cell 1; have e2 := hE8.cell 2
          simp only [List.getElem?_toArray, List.getElem?_cons_zero, List.getElem?_cons_succ] at e0 e1 e2
          clear hS8 hE8
          have hbk : b - k = (b - (k + 1)) + 1 := by omega
          have hleft := HLF.out
          rw [hbk] at hleft
          have HLE := Lib.hid hleft
          clear hleft hbk
          by_cases h13 : go = 13
          · subst h13
            have hout := Lib.hid (HLE.out.out rfl HG.out rfl)
            have HB9 := HS8.out.on ((Below.refl _ _).alloc (Nat.le_refl _) (.cells #[.int .i32 gn] 21))
            have HBS := (Blk.new W8 21 #[.int .i32 gn]).cell 0
            simp only [List.getElem?_toArray, List.getElem?_cons_zero] at HBS
            have HB9 := Lib.hid HB9; have HBS := Lib.hid HBS
            go_wp2_with (at_builtin; refine haltW ?_)
            refine Lib.hid ?_
            refine app_word rfl (.tmp 67) (.tmp 70) rfl (w.heap.size + 1 + 1) v t rfl HB9.out.mine _ gn rfl HBS.out (by omega) (by have := HB9.out.p.q.lt; omega) ?_
            intro v' w9 own9 g9 b9
            have H9 := Lib.hid (HB9.out.app HT.out own9 g9 b9)
            clear own9 g9 b9 e0 e1 e2 HB9 HBS HS8 HE8
            go_wp2_with fail
            go_roundw
            case rel => exact ⟨k + 1, gp, _, t ++ [gn], v', _, rfl, rfl, by go_num, by omega, by simp; omega, hout.out, H9.out⟩
            case measure => simp [intOf]; omega
          · by_cases h6 : go = 6
            · subst h6
              have hout := Lib.hid (HLE.out.yield rfl HG.out rfl)
              clear h13
              go_wp2_with fail
              go_roundw
              case rel => exact ⟨k + 1, gp, _, t, v, _, rfl, rfl, by go_num, by omega, by omega, hout.out, HS8.out⟩
              case measure => simp [intOf]; omega
            · have hout := Lib.hid (HLE.out.next rfl HG.out h13 h6)
              have q13 : (go == 13) = false := by simpa using h13
              have q6 : (go != 6) = true := by simpa using h6
              have y0 := HS8.out.e.cell 0; have y1 := HS8.out.e.cell 1; have y2 := HS8.out.e.cell 2
              have ue : ∀ i, W8.frozen? ⟨E, i, none⟩ = false := fun i => HS8.out.e.free i
              simp only [List.getElem?_toArray, List.getElem?_cons_zero, List.getElem?_cons_succ] at y0 y1 y2
              have H9 := HS8.out.putE HT.out ⟨go, gr, gn⟩
              dsimp only [setE] at H9
              have H9 := Lib.hid H9
              clear h13 h6
              go_wp2_with fail
              go_roundw
              case rel => exact ⟨k + 1, gp, _, t, v, _, rfl, rfl, by go_num, by omega, by omega, hout.out, H9.out⟩
              case measure => simp [intOf]; omega
      · have hor : b - k = 0 ∨ (⟨fo, fr, fn⟩ : Eff).op ≠ 0 := by
          by_cases q : k < b
          · exact .inr (fun e => hgo ⟨q, e⟩)
          · exact .inl (by omega)
        have hR := HLF.out.stop hor
        clear hor
        subst hR
        have hx : ¬ (k : Int) < (b : Int) ∨ ((k : Int) < (b : Int) ∧ (fo == 0) = false) := by
          by_cases q : k < b
          · refine .inr ⟨by omega, ?_⟩
            by_cases e : fo = 0
            · exact absurd ⟨q, e⟩ hgo
            · simpa using e
          · exact .inl (by omega)
        have HLN : Hid (t.length ≤ 100000) := by show _ ≤ _; dsimp only at hl2; omega
        obtain ⟨x0, x1, x2, x3, x4, x5, x6⟩ := HS.out.p.cells
        clear hgo hl2 ht
        rcases hx with hx | ⟨hx, hx0⟩
        all_goals
          go_wp2_with fail
          refine (HRB.out _ HS.out.p).mono ?_
          rintro e w7 ⟨v7, m7, rfl, h7⟩
          dsimp only
          obtain ⟨b8, r8, e8⟩ := two (w := w7) (t := 25) (u := 29) (a := #[.int .i32 qa, .int .i32 qb, .int .i32 qc, .int .i32 qd]) (b := #[.int .i64 fo, .int .i64 fr, .int .i32 fn])
          have S8 := Lib.hid ((HS.out.on h7).on b8)
          have HSW := Lib.hid (same_own S8.out.mine (m7.on b8) HLN.out)
          clear h7 b8 m7 x0 x1 x2 x3 x4 x5 x6
          have u0 := r8.cell 0; have u1 := r8.cell 1; have u2 := r8.cell 2; have u3 := r8.cell 3
          have z0 := S8.out.q.cell 0; have z1 := S8.out.q.cell 1; have z2 := S8.out.q.cell 2; have z3 := S8.out.q.cell 3
          simp only [List.getElem?_toArray, List.getElem?_cons_zero, List.getElem?_cons_succ] at z0 z1 z2 z3 u0 u1 u2 u3
          have HE8 := Lib.hid e8
          clear r8 e8
          have q1 := regs_same ⟨qa, qb, qc, qd⟩; have q2 := eff_same ⟨fo, fr, fn⟩
          dsimp only [regV, effV] at q1 q2
          go_wp2_with (go_at_call 14; (with_reducible refine HSW.out.mono ?_); rintro e w9 ⟨rfl, h9⟩; have S9 := Lib.hid (S8.out.on h9); have e9 := HE8.out.below h9 HE8.out.lt; have g0 := e9.cell 0; have g1 := e9.cell 1; have g2 := e9.cell 2; have g3 := S9.out.e.cell 0; have g4 := S9.out.e.cell 1; have g5 := S9.out.e.cell 2; simp only [List.getElem?_toArray, List.getElem?_cons_zero, List.getElem?_cons_succ] at g0 g1 g2 g3 g4 g5; clear e9 h9)
          go_ret
          exact ⟨rfl, S9.out.p.below⟩
  · obtain ⟨e1, he1⟩ : ∃ e, (progE prio l).1 = e := ⟨_, rfl⟩
    obtain ⟨e2, he2⟩ : ∃ e, (progE prio l).2 = e := ⟨_, rfl⟩
    rw [he1, he2] at HC
    rw [he1] at he
    have t0 : (e1 != 0) = true := by simpa using he
    have HC := Lib.hid HC; have P1 := Lib.hid P1
    obtain ⟨x0, x1, x2, x3, x4, x5, x6⟩ := P1.out.cells
    clear he he1 he2 hT hI hr
    generalize l.length = N at *
    go_enter Tryd.func16, Tryd.ntmps16
    go_wp2_with fail
    refine HC.out.mono ?_
    rintro e w2 ⟨rfl, h2⟩
    have Q2 := Lib.hid (P1.out.on h2)
    clear h2 P1 x0 x1 x2 x3 x4 x5 x6 HC
    go_wp2_with fail
    go_ret
    exact ⟨rfl, Q2.out.below⟩
end Go.Proofs.YtdjdmkgiidbnnaaDoor
