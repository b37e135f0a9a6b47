/- ExecHangs' walk. -/
import Derived.Test.YtdjdmkgiidbnnaaDoorT1
namespace Go.Proofs.YtdjdmkgiidbnnaaDoor
open Go.RowKit

set_option maxRecDepth 100000 in
set_option maxHeartbeats 8000000 in
theorem hangs_not (p p' : Int) (A A' : Option Addr) (l m : List I4) (cap cap' at' : Nat) (r : R4) (w : World) (hT : Tabs w) (hI : InsIn w A l) (hx : ¬ ((progE p l).1 = 0 ∧ m.length = l.length)) :
    Calls Tryd.prog 15 #[.agg #[.int .i64 p, .slice A l.length cap], .agg #[.int .i64 p', .slice A' m.length cap'], .int .u64 at', regV r] w (GotB w.heap.size (.bool true) w) := by
  have P1 := P3.new hT p A l.length cap p' A' m.length cap' r
  have HC := refCheck_any p A l cap _ (hI.below P1.below)
  unfold CheckP at HC
  obtain ⟨e1, he1⟩ : ∃ e, (progE p l).1 = e := ⟨_, rfl⟩
  obtain ⟨e2, he2⟩ : ∃ e, (progE p l).2 = e := ⟨_, rfl⟩
  rw [he1, he2] at HC
  rw [he1] at hx
  have HC := Lib.hid HC; have P1 := Lib.hid P1
  clear hI hT he1 he2
  generalize l.length = N at *
  generalize m.length = N' at *
  have hcase : 80 < N ∨ (N ≤ 80 ∧ 80 < N') ∨ (N ≤ 80 ∧ N' ≤ 80 ∧ e1 ≠ 0) ∨ (N ≤ 80 ∧ N' ≤ 80 ∧ e1 = 0 ∧ N' ≠ N) := by
    by_cases h1 : N ≤ 80
    · by_cases h2 : N' ≤ 80
      · by_cases h3 : e1 = 0
        · exact .inr (.inr (.inr ⟨h1, h2, h3, fun e => hx ⟨h3, e⟩⟩))
        · exact .inr (.inr (.inl ⟨h1, h2, h3⟩))
      · exact .inr (.inl ⟨h1, by omega⟩)
    · exact .inl (by omega)
  clear hx
  have L1 : ∀ (b : Bool), decide (N ≤ 80) = b → Hid (∀ W, Calls Tryd.prog 8 #[.agg #[.int .i64 p, .slice A N cap]] W (GotB W.heap.size (.bool b) W)) := fun b h W => h ▸ light_any p A N cap W
  have L2 : ∀ (b : Bool), decide (N' ≤ 80) = b → Hid (∀ W, Calls Tryd.prog 8 #[.agg #[.int .i64 p', .slice A' N' cap']] W (GotB W.heap.size (.bool b) W)) := fun b h W => h ▸ light_any p' A' N' cap' W
  obtain ⟨x0, x1, x2, x3, x4, x5, x6, x7, x8⟩ := P1.out.cells
  rcases hcase with h1 | ⟨h1, h2⟩ | ⟨h1, h2, h3⟩ | ⟨h1, h2, h3, h4⟩
  · have H1 := L1 false (by simpa using h1)
    clear L1 L2 h1
    go_enter Tryd.func15, Tryd.ntmps15
    go_wp2_with fail
    refine HC.out.mono ?_
    rintro e w2 ⟨rfl, h2⟩
    have Q2 := Lib.hid (P1.out.on h2)
    clear h2 x0 x1 x2 x3 x4 x5 x6 x7 x8 HC P1
    obtain ⟨x0, x1, x2, x3, x4, x5, x6, x7, x8⟩ := Q2.out.cells
    go_wp2_with fail
    refine (H1.out _).mono ?_
    rintro e w3 ⟨rfl, h3⟩
    have Q3 := Lib.hid (Q2.out.on h3)
    clear h3 x0 x1 x2 x3 x4 x5 x6 x7 x8 Q2 H1
    go_wp2_with fail
    go_ret
    exact ⟨rfl, Q3.out.below⟩
  all_goals
    have H1 := L1 true (by simpa using h1)
    clear L1 h1
    go_enter Tryd.func15, Tryd.ntmps15
    go_wp2_with fail
    refine HC.out.mono ?_
    rintro e w2 ⟨rfl, hw2⟩
    have Q2 := Lib.hid (P1.out.on hw2)
    clear hw2 x0 x1 x2 x3 x4 x5 x6 x7 x8 HC P1
    obtain ⟨x0, x1, x2, x3, x4, x5, x6, x7, x8⟩ := Q2.out.cells
    go_wp2_with fail
    refine (H1.out _).mono ?_
    rintro e w3 ⟨rfl, hw3⟩
    have Q3 := Lib.hid (Q2.out.on hw3)
    clear hw3 x0 x1 x2 x3 x4 x5 x6 x7 x8 Q2 H1
    obtain ⟨x0, x1, x2, x3, x4, x5, x6, x7, x8⟩ := Q3.out.cells
    go_wp2_with fail
  · refine ((L2 false (by simpa using h2)).out _).mono ?_
    rintro e w4 ⟨rfl, hw4⟩
    have Q4 := Lib.hid (Q3.out.on hw4)
    clear hw4 x0 x1 x2 x3 x4 x5 x6 x7 x8 Q3 L2
    go_wp2_with fail
    go_ret
    exact ⟨rfl, Q4.out.below⟩
  · refine ((L2 true (by simpa using h2)).out _).mono ?_
    rintro e w4 ⟨rfl, hw4⟩
    have Q4 := Lib.hid (Q3.out.on hw4)
    have t0 : (e1 != 0) = true := by simpa using h3
    clear hw4 x0 x1 x2 x3 x4 x5 x6 x7 x8 Q3 L2
    go_wp2_with fail
    go_ret
    exact ⟨rfl, Q4.out.below⟩
  · refine ((L2 true (by simpa using h2)).out _).mono ?_
    rintro e w4 ⟨rfl, hw4⟩
    have Q4 := Lib.hid (Q3.out.on hw4)
    subst h3
    have t0 : ((N' : Int) != (N : Int)) = true := by simp; omega
    clear hw4 x0 x1 x2 x3 x4 x5 x6 x7 x8 Q3 L2
    obtain ⟨x0, x1, x2, x3, x4, x5, x6, x7, x8⟩ := Q4.out.cells
    go_wp2_with fail
    go_ret
    exact ⟨rfl, Q4.out.below⟩
theorem hangs_any (p p' : Int) (A A' : Option Addr) (l m : List I4) (cap cap' at' : Nat) (r : R4) (w : World) (hT : Tabs w) (hI : InsIn w A l) (hJ : InsIn w A' m) (hat : at' < 18446744073709551616) :
    Calls Tryd.prog 15 #[.agg #[.int .i64 p, .slice A l.length cap], .agg #[.int .i64 p', .slice A' m.length cap'], .int .u64 at', regV r] w (GotB w.heap.size (.bool true) w) := by
  by_cases h : (progE p l).1 = 0 ∧ m.length = l.length
  · exact hangs_fine p p' A A' l m cap cap' at' r w hT hI hJ hat (fine_of h.1) h.2
  · exact hangs_not p p' A A' l m cap cap' at' r w hT hI h
set_option maxRecDepth 100000 in
set_option maxHeartbeats 4000000 in
theorem hangs10_any (p p' : Int) (A A' : Option Addr) (l m : List I4) (cap cap' at' : Nat) (r : R4) (w : World) (hT : Tabs w) (hI : InsIn w A l) (hJ : InsIn w A' m) (hat : at' < 18446744073709551616) :
    Calls Tryd.prog 5 #[.agg #[.int .i64 p, .slice A l.length cap, .int .i64 p', .slice A' m.length cap'], .int .u64 at', regV r] w (GotB w.heap.size (.bool true) w) := by
  obtain ⟨b, hp, hq⟩ := two (w := w) (t := 38) (u := 25) (a := #[.int .i64 p, .slice A l.length cap, .int .i64 p', .slice A' m.length cap']) (b := #[.int .i32 r.a, .int .i32 r.b, .int .i32 r.c, .int .i32 r.d])
  have HL := Lib.hid (lives10_any _ (hT.on b))
  have HH : Hid (∀ W, Below w.heap.size w W → Calls Tryd.prog 15 #[.agg #[.int .i64 p, .slice A l.length cap], .agg #[.int .i64 p', .slice A' m.length cap'], .int .u64 at', regV r] W (GotB W.heap.size (.bool true) W)) := fun W h => hangs_any p p' A A' l m cap cap' at' r W (hT.on h) (hI.below h) (hJ.below h) hat
  have HB := Lib.hid b; have HP := Lib.hid hp; have HQ := Lib.hid hq
  clear b hp hq hT hI hJ hat
  generalize l.length = N at *
  generalize m.length = N' at *
  go_enter Tryd.func5, Tryd.ntmps5
  go_wp2_with fail
  refine HL.out.mono ?_
  rintro e w2 ⟨rfl, h2⟩
  have hp2 := HP.out.below h2 HP.out.lt; have hq2 := HQ.out.below h2 HQ.out.lt
  have x0 := hp2.cell 0; have x1 := hp2.cell 1; have x2 := hp2.cell 2; have x3 := hp2.cell 3
  have y0 := hq2.cell 0; have y1 := hq2.cell 1; have y2 := hq2.cell 2; have y3 := hq2.cell 3
  simp only [List.getElem?_toArray, List.getElem?_cons_zero, List.getElem?_cons_succ] at x0 x1 x2 x3 y0 y1 y2 y3
  have HB2 := Lib.hid (HB.out.trans (h2.mono HB.out.size))
  clear h2 HB HP HQ HL hp2 hq2
  go_wp2_with fail
  refine (HH.out w2 HB2.out).mono ?_
  rintro e w3 ⟨rfl, h3⟩
  have H3 := Lib.hid h3
  clear h3
  dsimp only
  go_wp2_with fail
  go_ret
  exact ⟨rfl, HB2.out.trans (H3.out.mono HB2.out.size)⟩
end Go.Proofs.YtdjdmkgiidbnnaaDoor
