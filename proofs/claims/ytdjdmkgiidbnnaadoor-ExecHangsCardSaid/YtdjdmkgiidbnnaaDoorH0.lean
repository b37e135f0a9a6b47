/- Layer 10's lives, and light. -/
import Derived.Test.YtdjdmkgiidbnnaaDoorG5
import Derived.Test.YtdjdmkgiidbnnaaDoorFt
namespace Go.Proofs.YtdjdmkgiidbnnaaDoor
open Go.RowKit

set_option maxHeartbeats 1000000 in
theorem light_any (prio : Int) (A : Option Addr) (n cap : Nat) (w : World) :
    Calls Tryd.prog 8 #[.agg #[.int .i64 prio, .slice A n cap]] w (GotB w.heap.size (.bool (decide (n ≤ 80))) w) := by
  have hb : Below w.heap.size w (w.alloc (.cells #[.int .i64 prio, .slice A n cap] 24)) := (Below.refl _ _).alloc (Nat.le_refl _) _
  have HB := Lib.hid hb; clear hb
  obtain ⟨q, hq⟩ : ∃ q, decide (n ≤ 80) = q := ⟨_, rfl⟩
  have t : decide ((n : Int) ≤ 80) = q := by rw [← hq, decide_eq_decide]; omega
  rw [hq]
  clear hq
  go_enter Tryd.func8, Tryd.ntmps8
  go_wp2
  go_ret
  exact ⟨rfl, HB.out⟩
def exP : List I4 := [⟨1, 1, 0, 3⟩, ⟨2, 0, 1, 0⟩, ⟨14, 0, 0, 0⟩]
abbrev exCells : Array Value := #[.int .i64 1, .int .i64 1, .int .i64 0, .int .i32 3, .int .i64 2, .int .i64 0, .int .i64 1, .int .i32 0, .int .i64 14, .int .i64 0, .int .i64 0, .int .i32 0]
theorem exP_fits : ∀ x, x ∈ exP → Fits x := fun x hx => by
  simp only [exP, List.mem_cons, List.not_mem_nil, or_false] at hx
  rcases hx with rfl | rfl | rfl <;> exact ⟨by unfold In64; decide, by unfold In64; decide, by unfold In64; decide, by decide⟩
theorem exP_in {W : World} {b : Nat} (h : Blk W b 51 exCells) : InsIn W (some ⟨b, 0, none⟩) exP := fun i x hx => by
  match i, hx with
  | 0, hx => cases hx; exact ⟨exP_fits _ (by simp [exP]), b, 0, rfl, h.lt, h.cell 0, h.cell 1, h.cell 2, h.cell 3⟩
  | 1, hx => cases hx; exact ⟨exP_fits _ (by simp [exP]), b, 0, rfl, h.lt, h.cell 4, h.cell 5, h.cell 6, h.cell 7⟩
  | 2, hx => cases hx; exact ⟨exP_fits _ (by simp [exP]), b, 0, rfl, h.lt, h.cell 8, h.cell 9, h.cell 10, h.cell 11⟩
  | i + 3, hx => simp [exP] at hx
theorem ex_1 : stepF 0 exP 0 ⟨0, 0, 0, 0⟩ = ⟨1, ⟨0, 3, 0, 0⟩, ⟨0, 0, 0⟩⟩ := by decide +kernel
theorem ex_2 : stepF 0 exP 1 ⟨0, 3, 0, 0⟩ = ⟨2, ⟨3, 3, 0, 0⟩, ⟨0, 0, 0⟩⟩ := by decide +kernel
theorem ex_3 : stepF 0 exP 2 ⟨3, 3, 0, 0⟩ = ⟨2, ⟨3, 3, 0, 0⟩, ⟨14, 0, 3⟩⟩ := by decide +kernel
theorem exC_1 (W : World) (bk : Nat) (hT : Tabs W) (hB : Blk W bk 51 exCells) :
    Calls Tryd.prog 10 #[.agg #[.int .i64 0, .slice (some ⟨bk, 0, none⟩) 3 3], .int .i64 0, .agg #[.int .i32 0, .int .i32 0, .int .i32 0, .int .i32 0]] W (fun e w' => e = .returned (.tuple #[.int .i64 1, .agg #[.int .i32 0, .int .i32 3, .int .i32 0, .int .i32 0], .agg #[.int .i64 0, .int .i64 0, .int .i32 0]]) ∧ Below W.heap.size W w') := by
  have h := Step_any 0 _ exP 3 0 ⟨0, 0, 0, 0⟩ W hT (exP_in hB)
  rw [ex_1] at h
  exact h.mono fun _ _ q => q
theorem exC_2 (W : World) (bk : Nat) (hT : Tabs W) (hB : Blk W bk 51 exCells) :
    Calls Tryd.prog 10 #[.agg #[.int .i64 0, .slice (some ⟨bk, 0, none⟩) 3 3], .int .i64 1, .agg #[.int .i32 0, .int .i32 3, .int .i32 0, .int .i32 0]] W (fun e w' => e = .returned (.tuple #[.int .i64 2, .agg #[.int .i32 3, .int .i32 3, .int .i32 0, .int .i32 0], .agg #[.int .i64 0, .int .i64 0, .int .i32 0]]) ∧ Below W.heap.size W w') := by
  have h := Step_any 0 _ exP 3 1 ⟨0, 3, 0, 0⟩ W hT (exP_in hB)
  rw [ex_2] at h
  exact h.mono fun _ _ q => q
theorem exC_3 (W : World) (bk : Nat) (hT : Tabs W) (hB : Blk W bk 51 exCells) :
    Calls Tryd.prog 10 #[.agg #[.int .i64 0, .slice (some ⟨bk, 0, none⟩) 3 3], .int .i64 2, .agg #[.int .i32 3, .int .i32 3, .int .i32 0, .int .i32 0]] W (fun e w' => e = .returned (.tuple #[.int .i64 2, .agg #[.int .i32 3, .int .i32 3, .int .i32 0, .int .i32 0], .agg #[.int .i64 14, .int .i64 0, .int .i32 3]]) ∧ Below W.heap.size W w') := by
  have h := Step_any 0 _ exP 3 2 ⟨3, 3, 0, 0⟩ W hT (exP_in hB)
  rw [ex_3] at h
  exact h.mono fun _ _ q => q
structure Lv (w W : World) : Prop where
  tabs : Tabs W
  below : Below w.heap.size w W
  ins : Blk W w.heap.size 51 exCells
  prog : Blk W (w.heap.size + 1) 24 #[.int .i64 0, .slice (some ⟨w.heap.size, 0, none⟩) 3 3]
theorem Lv.on {w W W' : World} (h : Lv w W) (hb : Below W.heap.size W W') : Lv w W' :=
  ⟨h.tabs.on hb, h.below.trans (hb.mono h.below.size), h.ins.below hb h.ins.lt, h.prog.below hb h.prog.lt⟩
theorem Lv.cells {w W : World} (h : Lv w W) : W.cell? ⟨w.heap.size + 1, 0, none⟩ = some (.int .i64 0) ∧ W.cell? ⟨w.heap.size + 1, 1, none⟩ = some (.slice (some ⟨w.heap.size, 0, none⟩) 3 3) ∧ w.heap.size + 1 < W.heap.size := ⟨h.prog.cell 0, h.prog.cell 1, h.prog.lt⟩
theorem two {w : World} {t u : TypeId} {a b : Array Value} : Below w.heap.size w ((w.alloc (.cells a t)).alloc (.cells b u)) ∧ Blk ((w.alloc (.cells a t)).alloc (.cells b u)) w.heap.size t a ∧ Blk ((w.alloc (.cells a t)).alloc (.cells b u)) (w.heap.size + 1) u b := by
  have h1 := Blk.new (w.alloc (.cells a t)) u b
  rw [World.size_alloc] at h1
  exact ⟨((Below.refl _ _).alloc (Nat.le_refl _) _).alloc (by simp) _, (Blk.new _ _ _).alloc _, h1⟩
set_option maxRecDepth 100000 in
set_option maxHeartbeats 4000000 in
theorem lives10_any (w : World) (hT : Tabs w) : Calls Tryd.prog 9 #[] w (GotB w.heap.size (.bool true) w) := by
  obtain ⟨b1, hb, hp⟩ := two (w := w) (t := 51) (u := 24) (a := exCells) (b := #[.int .i64 0, .slice (some ⟨w.heap.size, 0, none⟩) 3 3])
  have L1 := Lib.hid (⟨hT.on b1, b1, hb, hp⟩ : Lv w _)
  have C1 := Lib.hid (exC_1 _ _ L1.out.tabs L1.out.ins)
  clear b1 hb hp hT
  obtain ⟨y0, y1, y2⟩ := L1.out.cells
  go_enter Tryd.func9, Tryd.ntmps9
  go_wp2_with fail
  refine C1.out.mono ?_
  rintro e w2 ⟨rfl, h2⟩
  have L2 := Lib.hid (L1.out.on h2)
  clear h2 C1 L1 y0 y1 y2
  obtain ⟨b3, r3, e3⟩ := two (w := w2) (t := 25) (u := 29) (a := #[.int .i32 0, .int .i32 3, .int .i32 0, .int .i32 0]) (b := #[.int .i64 0, .int .i64 0, .int .i32 0])
  have L3 := Lib.hid (L2.out.on b3)
  obtain ⟨y0, y1, y2⟩ := L3.out.cells
  go_wp2_with fail
  refine (exC_2 _ _ L3.out.tabs L3.out.ins).mono ?_
  rintro e w4 ⟨rfl, h4⟩
  have L4 := Lib.hid (L3.out.on h4)
  have r4 := r3.below h4 r3.lt; have e4 := e3.below h4 e3.lt
  clear h4 L3 L2 y0 y1 y2 r3 e3 b3
  have R4' := Lib.hid r4; have E4' := Lib.hid e4
  clear r4 e4
  obtain ⟨b5, r5, e5⟩ := two (w := w4) (t := 25) (u := 29) (a := #[.int .i32 3, .int .i32 3, .int .i32 0, .int .i32 0]) (b := #[.int .i64 0, .int .i64 0, .int .i32 0])
  have L5 := Lib.hid (L4.out.on b5)
  obtain ⟨y0, y1, y2⟩ := L5.out.cells
  go_wp2_with fail
  refine (exC_3 _ _ L5.out.tabs L5.out.ins).mono ?_
  rintro e w6 ⟨rfl, h6⟩
  have L6 := Lib.hid (L5.out.on h6)
  have r6 := r5.below h6 r5.lt; have e6 := e5.below h6 e5.lt
  have r7 := (R4'.out.below b5 R4'.out.lt).below h6 (Nat.lt_of_lt_of_le R4'.out.lt b5.size)
  have e7 := (E4'.out.below b5 E4'.out.lt).below h6 (Nat.lt_of_lt_of_le E4'.out.lt b5.size)
  clear h6 L5 L4 y0 y1 y2 r5 e5 b5 R4' E4'
  obtain ⟨b7, r8, e8⟩ := two (w := w6) (t := 25) (u := 29) (a := #[.int .i32 3, .int .i32 3, .int .i32 0, .int .i32 0]) (b := #[.int .i64 14, .int .i64 0, .int .i32 3])
  have B8 := Lib.hid (L6.out.on b7).below
  have r7 := r7.below b7 r7.lt; have e7 := e7.below b7 e7.lt
  have r6 := r6.below b7 r6.lt; have e6 := e6.below b7 e6.lt
  have u0 := r7.cell 1; have u1 := e7.cell 0; have u2 := e7.cell 1; have u3 := e7.cell 2
  have v0 := r6.cell 0; have v1 := e6.cell 0; have v2 := e6.cell 1; have v3 := e6.cell 2
  have w0 := e8.cell 0; have w1 := e8.cell 1; have w2' := e8.cell 2
  simp only [List.getElem?_toArray, List.getElem?_cons_zero, List.getElem?_cons_succ] at u0 u1 u2 u3 v0 v1 v2 v3 w0 w1 w2'
  clear r6 e6 r7 e7 r8 e8 b7
  go_wp2_with fail
  go_ret
  exact ⟨rfl, B8.out⟩
end Go.Proofs.YtdjdmkgiidbnnaaDoor
