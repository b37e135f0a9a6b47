/- ExecRuns' walk. -/
import Derived.Test.YtdjdmkgiidbnnaaDoorR4
namespace Go.Proofs.YtdjdmkgiidbnnaaDoor
open Go.RowKit

set_option maxRecDepth 100000 in
set_option maxHeartbeats 4000000 in
theorem runs10_any (prio fuel : Int) (A : Option Addr) (l : List I4) (cap : Nat) (r : R4) (w : World) (hT : Tabs w) (hI : InsIn w A l) (hr : r.Ok) :
    Calls Tryd.prog 4 #[.agg #[.int .i64 prio, .slice A l.length cap], regV r, .int .i64 fuel] w (GotB w.heap.size (.bool true) w) := by
  have P1 := Lib.hid (P2.new hT prio A l.length cap r)
  obtain ⟨M, hM⟩ : ∃ M, min fuel 300 = M := ⟨_, rfl⟩
  have HS : Hid (∀ W, P2 w W prio A l.length cap r → Calls Tryd.prog 12 #[.agg #[.int .i64 prio, .slice A l.length cap], regV r, .int .i64 M] W (RunP (runF prio l (min M 65536).toNat 0 r []) W)) := fun W h => run_any prio A l cap r M W h.tabs (hI.below h.below) hr
  have HR : Hid (∀ W, P2 w W prio A l.length cap r → Calls Tryd.prog 13 #[.agg #[.int .i64 prio, .slice A l.length cap], regV r, .int .i64 M] W (RunP (runF prio l (min M 65536).toNat 0 r []) W)) := fun W h => refRun_any prio A l cap r M W h.tabs (hI.below h.below) hr
  have hlen := runF_len prio l (min M 65536).toNat 0 r []
  have HT := Lib.hid hT
  clear hT hI hr
  obtain ⟨G, hG⟩ : ∃ G, runF prio l (min M 65536).toNat 0 r [] = G := ⟨_, rfl⟩
  rw [hG] at HS HR hlen
  clear hG
  generalize l.length = N at *
  clear l
  obtain ⟨gp, ⟨g0, g1, g2, g3⟩, tl, ⟨go, gr, gn⟩⟩ := G
  dsimp only [List.length_nil] at hlen
  have HLEN : Hid (tl.length ≤ 100000) := by show _ ≤ _; omega
  clear hlen
  obtain ⟨ra, rb, rc, rd⟩ := r
  have HLT := Lib.hid (light_any prio A N cap)
  obtain ⟨x0, x1, x2, x3, x4, x5, x6⟩ := P1.out.cells
  dsimp only at x2 x3 x4 x5 P1
  by_cases hq : N ≤ 80
  · have HL : Hid (∀ W, Calls Tryd.prog 8 #[.agg #[.int .i64 prio, .slice A N cap]] W (GotB W.heap.size (.bool true) W)) := fun W => by
      have := HLT.out W; rw [decide_eq_true hq] at this; exact this
    clear HLT hq
    go_enter Tryd.func4, Tryd.ntmps4
    go_wp2_with fail
    refine (HL.out _).mono ?_
    rintro e w2 ⟨rfl, h2⟩
    have Q2 := Lib.hid (P1.out.on h2)
    clear h2 P1 x0 x1 x2 x3 x4 x5 x6
    obtain ⟨x0, x1, x2, x3, x4, x5, x6⟩ := Q2.out.cells
    dsimp only at x2 x3 x4 x5
    go_upto_region 3 with fail
    go_cut [2] (fun m wx => m = .int .i64 M ∧ wx = w2)
    case first =>
      by_cases hfu : fuel ≤ 300
      · obtain rfl : fuel = M := by omega
        clear hM
        go_wp2_with fail
        go_meet
        exact ⟨rfl, rfl⟩
      · obtain rfl : M = 300 := by omega
        have hfu : 300 < fuel := by omega
        clear hM
        go_wp2_with fail
        go_meet
        exact ⟨rfl, rfl⟩
    case rest =>
    obtain ⟨rfl, rfl⟩ := hcut
    clear hM
    go_wp2_with fail
    refine (HS.out _ Q2.out).mono ?_
    rintro e w3 ⟨v3, m3, rfl, h3⟩
    dsimp only
    have Q3 := Lib.hid (Q2.out.on h3)
    clear h3 Q2 x0 x1 x2 x3 x4 x5 x6
    obtain ⟨b4, r4, e4⟩ := two (w := w3) (t := 25) (u := 29) (a := #[.int .i32 g0, .int .i32 g1, .int .i32 g2, .int .i32 g3]) (b := #[.int .i64 go, .int .i64 gr, .int .i32 gn])
    have Q4 := Lib.hid (Q3.out.on b4)
    have M4 := Lib.hid (m3.on b4)
    clear m3
    have R4' := Lib.hid r4; have E4' := Lib.hid e4
    clear Q3 b4 r4 e4
    obtain ⟨x0, x1, x2, x3, x4, x5, x6⟩ := Q4.out.cells
    dsimp only at x2 x3 x4 x5
    go_wp2_with fail
    refine (HR.out _ Q4.out).mono ?_
    rintro e w5 ⟨v5, m5, rfl, h5⟩
    dsimp only
    have Q5 := Lib.hid (Q4.out.on h5)
    have r5 := R4'.out.below h5 R4'.out.lt; have e5 := E4'.out.below h5 E4'.out.lt
    clear Q4 x0 x1 x2 x3 x4 x5 x6 R4' E4'
    obtain ⟨b6, r6, e6⟩ := two (w := w5) (t := 25) (u := 29) (a := #[.int .i32 g0, .int .i32 g1, .int .i32 g2, .int .i32 g3]) (b := #[.int .i64 go, .int .i64 gr, .int .i32 gn])
    have Q6 := Lib.hid (Q5.out.on b6)
    have HSW := Lib.hid (same_own ((M4.out.on h5).on b6) (m5.on b6) HLEN.out)
    clear m5 M4
    have r5 := r5.below b6 r5.lt; have e5 := e5.below b6 e5.lt
    have HV : Hid (∀ W, Below w.heap.size w W → Calls Tryd.prog 9 #[] W (GotB W.heap.size (.bool true) W)) := fun W h => lives10_any W (HT.out.on h)
    clear Q5 b6 h5
    have u0 := r5.cell 0; have u1 := r5.cell 1; have u2 := r5.cell 2; have u3 := r5.cell 3
    have v0 := r6.cell 0; have v1 := r6.cell 1; have v2 := r6.cell 2; have v3 := r6.cell 3
    have HE5 := Lib.hid e5; have HE6 := Lib.hid e6
    simp only [List.getElem?_toArray, List.getElem?_cons_zero, List.getElem?_cons_succ] at u0 u1 u2 u3 v0 v1 v2 v3
    clear r5 e5 r6 e6
    have q1 := regs_same ⟨g0, g1, g2, g3⟩; have q2 := eff_same ⟨go, gr, gn⟩
    dsimp only [regV, effV] at q1 q2
    go_wp2_with (first
      | (go_at_call 14; (with_reducible refine HSW.out.mono ?_); rintro e w6 ⟨rfl, h6⟩; have H6 := Lib.hid h6; have e5' := HE5.out.below h6 HE5.out.lt; have e6' := HE6.out.below h6 HE6.out.lt; have y0 := e5'.cell 0; have y1 := e5'.cell 1; have y2 := e5'.cell 2; have z0 := e6'.cell 0; have z1 := e6'.cell 1; have z2 := e6'.cell 2; simp only [List.getElem?_toArray, List.getElem?_cons_zero, List.getElem?_cons_succ] at y0 y1 y2 z0 z1 z2; clear e5' e6' h6)
      | (go_at_call 9; (with_reducible refine (HV.out _ (Q6.out.below.trans (H6.out.mono Q6.out.below.size))).mono ?_); rintro e w7 ⟨rfl, h7⟩; have H7 := Lib.hid h7; clear h7))
    go_ret
    exact ⟨rfl, (Q6.out.below.trans (H6.out.mono Q6.out.below.size)).trans (H7.out.mono (Q6.out.below.trans (H6.out.mono Q6.out.below.size)).size)⟩
  · have HL : Hid (∀ W, Calls Tryd.prog 8 #[.agg #[.int .i64 prio, .slice A N cap]] W (GotB W.heap.size (.bool false) W)) := fun W => by
      have := HLT.out W; rw [decide_eq_false hq] at this; exact this
    clear HLT hq
    go_enter Tryd.func4, Tryd.ntmps4
    go_wp2_with fail
    refine (HL.out _).mono ?_
    rintro e w2 ⟨rfl, h2⟩
    have Q2 := Lib.hid (P1.out.on h2)
    have HV := Lib.hid (lives10_any _ Q2.out.tabs)
    clear h2 P1 x0 x1 x2 x3 x4 x5 x6
    go_wp2_with (go_at_call 9; (with_reducible refine HV.out.mono ?_); rintro e w7 ⟨rfl, h7⟩; have H7 := Lib.hid h7; clear h7)
    go_ret
    exact ⟨rfl, Q2.out.below.trans (H7.out.mono Q2.out.below.size)⟩
end Go.Proofs.YtdjdmkgiidbnnaaDoor
