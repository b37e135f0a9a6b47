/- ExecSteps' walk. -/
import Derived.Test.YtdjdmkgiidbnnaaDoorH0
import Derived.Test.YtdjdmkgiidbnnaaDoorHe
namespace Go.Proofs.YtdjdmkgiidbnnaaDoor
open Go.RowKit

structure P2 (w W : World) (prio : Int) (A : Option Addr) (n cap : Nat) (r : R4) : Prop where
  tabs : Tabs W
  below : Below w.heap.size w W
  p : Blk W w.heap.size 24 #[.int .i64 prio, .slice A n cap]
  q : Blk W (w.heap.size + 1) 25 #[.int .i32 r.a, .int .i32 r.b, .int .i32 r.c, .int .i32 r.d]
theorem P2.new {w : World} (hT : Tabs w) (prio : Int) (A : Option Addr) (n cap : Nat) (r : R4) : P2 w ((w.alloc (.cells #[.int .i64 prio, .slice A n cap] 24)).alloc (.cells #[.int .i32 r.a, .int .i32 r.b, .int .i32 r.c, .int .i32 r.d] 25)) prio A n cap r := by
  obtain ⟨b, p, q⟩ := two (w := w) (t := 24) (u := 25) (a := #[.int .i64 prio, .slice A n cap]) (b := #[.int .i32 r.a, .int .i32 r.b, .int .i32 r.c, .int .i32 r.d])
  exact ⟨hT.on b, b, p, q⟩
theorem P2.on {w W W' : World} {prio : Int} {A : Option Addr} {n cap : Nat} {r : R4} (h : P2 w W prio A n cap r) (hb : Below W.heap.size W W') : P2 w W' prio A n cap r :=
  ⟨h.tabs.on hb, h.below.trans (hb.mono h.below.size), h.p.below hb h.p.lt, h.q.below hb h.q.lt⟩
theorem P2.cells {w W : World} {prio : Int} {A : Option Addr} {n cap : Nat} {r : R4} (h : P2 w W prio A n cap r) :
    W.cell? ⟨w.heap.size, 0, none⟩ = some (.int .i64 prio) ∧ W.cell? ⟨w.heap.size, 1, none⟩ = some (.slice A n cap) ∧
    W.cell? ⟨w.heap.size + 1, 0, none⟩ = some (.int .i32 r.a) ∧ W.cell? ⟨w.heap.size + 1, 1, none⟩ = some (.int .i32 r.b) ∧ W.cell? ⟨w.heap.size + 1, 2, none⟩ = some (.int .i32 r.c) ∧ W.cell? ⟨w.heap.size + 1, 3, none⟩ = some (.int .i32 r.d) ∧ w.heap.size + 1 < W.heap.size :=
  ⟨h.p.cell 0, h.p.cell 1, h.q.cell 0, h.q.cell 1, h.q.cell 2, h.q.cell 3, h.q.lt⟩
set_option maxRecDepth 100000 in
set_option maxHeartbeats 4000000 in
theorem steps10_any (prio pc : Int) (A : Option Addr) (l : List I4) (cap : Nat) (r : R4) (w : World) (hT : Tabs w) (hI : InsIn w A l) (hr : r.Ok) :
    Calls Tryd.prog 3 #[.agg #[.int .i64 prio, .slice A l.length cap], .int .i64 pc, regV r] w (GotB w.heap.size (.bool true) w) := by
  have P1 := Lib.hid (P2.new hT prio A l.length cap r)
  have HS : Hid (∀ W, P2 w W prio A l.length cap r → Calls Tryd.prog 10 #[.agg #[.int .i64 prio, .slice A l.length cap], .int .i64 pc, regV r] W (StepG (stepF prio l pc r) W)) := fun W h => Step_any prio A l cap pc r W h.tabs (hI.below h.below)
  have HR : Hid (∀ W, P2 w W prio A l.length cap r → Calls Tryd.prog 11 #[.agg #[.int .i64 prio, .slice A l.length cap], .int .i64 pc, regV r] W (StepG (stepF prio l pc r) W)) := fun W h => refStep_any prio A l cap pc r W (hI.below h.below) hr
  clear hT hI hr
  obtain ⟨G, hG⟩ : ∃ G, stepF prio l pc r = G := ⟨_, rfl⟩
  rw [hG] at HS HR
  clear hG
  generalize l.length = N at *
  clear l
  obtain ⟨gp, ⟨g0, g1, g2, g3⟩, ⟨go, gr, gn⟩⟩ := G
  obtain ⟨ra, rb, rc, rd⟩ := r
  have HLT := Lib.hid (light_any prio A N cap)
  obtain ⟨x0, x1, x2, x3, x4, x5, x6⟩ := P1.out.cells
  dsimp only at x2 x3 x4 x5 P1
  by_cases hq : N ≤ 80
  · have HL : Hid (∀ W, Calls Tryd.prog 8 #[.agg #[.int .i64 prio, .slice A N cap]] W (GotB W.heap.size (.bool true) W)) := fun W => by
      have := HLT.out W; rw [decide_eq_true hq] at this; exact this
    clear HLT hq
    go_enter Tryd.func3, Tryd.ntmps3
    go_wp2_with fail
    refine (HL.out _).mono ?_
    rintro e w2 ⟨rfl, h2⟩
    have Q2 := Lib.hid (P1.out.on h2)
    clear h2 P1 x0 x1 x2 x3 x4 x5 x6
    obtain ⟨x0, x1, x2, x3, x4, x5, x6⟩ := Q2.out.cells
    dsimp only at x2 x3 x4 x5
    go_wp2_with fail
    refine (HS.out _ Q2.out).mono ?_
    rintro e w3 ⟨rfl, h3⟩
    dsimp only
    have Q3 := Lib.hid (Q2.out.on h3)
    clear h3 Q2 x0 x1 x2 x3 x4 x5 x6
    obtain ⟨b4, r4, e4⟩ := two (w := w3) (t := 25) (u := 29) (a := #[.int .i32 g0, .int .i32 g1, .int .i32 g2, .int .i32 g3]) (b := #[.int .i64 go, .int .i64 gr, .int .i32 gn])
    have Q4 := Lib.hid (Q3.out.on b4)
    have R4' := Lib.hid r4; have E4' := Lib.hid e4
    clear Q3 b4 r4 e4
    obtain ⟨x0, x1, x2, x3, x4, x5, x6⟩ := Q4.out.cells
    dsimp only at x2 x3 x4 x5
    go_wp2_with fail
    refine (HR.out _ Q4.out).mono ?_
    rintro e w5 ⟨rfl, h5⟩
    dsimp only
    have Q5 := Lib.hid (Q4.out.on h5)
    have r5 := R4'.out.below h5 R4'.out.lt; have e5 := E4'.out.below h5 E4'.out.lt
    clear h5 Q4 x0 x1 x2 x3 x4 x5 x6 R4' E4'
    obtain ⟨b6, r6, e6⟩ := two (w := w5) (t := 25) (u := 29) (a := #[.int .i32 g0, .int .i32 g1, .int .i32 g2, .int .i32 g3]) (b := #[.int .i64 go, .int .i64 gr, .int .i32 gn])
    have Q6 := Lib.hid (Q5.out.on b6)
    have r5 := r5.below b6 r5.lt; have e5 := e5.below b6 e5.lt
    have HV := Lib.hid (lives10_any _ Q6.out.tabs)
    clear Q5 b6
    have u0 := r5.cell 0; have u1 := r5.cell 1; have u2 := r5.cell 2; have u3 := r5.cell 3
    have v0 := r6.cell 0; have v1 := r6.cell 1; have v2 := r6.cell 2; have v3 := r6.cell 3
    have y0 := e5.cell 0; have y1 := e5.cell 1; have y2 := e5.cell 2
    have z0 := e6.cell 0; have z1 := e6.cell 1; have z2 := e6.cell 2
    simp only [List.getElem?_toArray, List.getElem?_cons_zero, List.getElem?_cons_succ] at u0 u1 u2 u3 v0 v1 v2 v3 y0 y1 y2 z0 z1 z2
    clear r5 e5 r6 e6
    have q1 := regs_same ⟨g0, g1, g2, g3⟩; have q2 := eff_same ⟨go, gr, gn⟩
    dsimp only [regV, effV] at q1 q2
    go_wp2_with (go_at_call 9; (with_reducible refine HV.out.mono ?_); rintro e w7 ⟨rfl, h7⟩; have H7 := Lib.hid h7; clear h7)
    go_ret
    exact ⟨rfl, Q6.out.below.trans (H7.out.mono Q6.out.below.size)⟩
  · have HL : Hid (∀ W, Calls Tryd.prog 8 #[.agg #[.int .i64 prio, .slice A N cap]] W (GotB W.heap.size (.bool false) W)) := fun W => by
      have := HLT.out W; rw [decide_eq_false hq] at this; exact this
    clear HLT hq
    go_enter Tryd.func3, Tryd.ntmps3
    go_wp2_with fail
    refine (HL.out _).mono ?_
    rintro e w2 ⟨rfl, h2⟩
    have Q2 := Lib.hid (P1.out.on h2)
    have HV := Lib.hid (lives10_any _ Q2.out.tabs)
    clear h2 P1 x0 x1 x2 x3 x4 x5 x6
    go_wp2_with (go_at_call 9; (with_reducible refine HV.out.mono ?_); rintro e w7 ⟨rfl, h7⟩; have H7 := Lib.hid h7; clear h7)
    go_ret
    exact ⟨rfl, Q2.out.below.trans (H7.out.mono Q2.out.below.size)⟩
end Go.Proofs.YtdjdmkgiidbnnaaDoor
