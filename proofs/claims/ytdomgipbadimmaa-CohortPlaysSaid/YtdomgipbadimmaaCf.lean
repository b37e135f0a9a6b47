/- The questions that a lock asks of its rows (layer 14). -/
import Derived.Test.YtdomgipbadimmaaCm
import Derived.Test.YtdomgipbadimmaaShelf
import Derived.Deep.CutBlock
import Derived.Deep.DeepCutAuto
namespace Go.Proofs.Ytdomgipbadimmaa
open Go.RowKit
set_option maxRecDepth 100000

/-- The three closures. -/
def fOf (q : Nat) : Value := .func (.func 82) #[] #[.pointer (some ⟨q, 0, none⟩)]
def fNot (q : Nat) : Value := .func (.func 83) #[] #[.pointer (some ⟨q, 0, none⟩)]
def fWith (q : Nat) : Value := .func (.func 65) #[] #[.pointer (some ⟨q, 0, none⟩)]
theorem of_any (s : Int) (w : World) : Calls Try.prog 67 #[.int .i64 s] w fun e w' => e = .returned (fOf w.heap.size) ∧ w.alloc (.cells #[.int .i64 s] 3) = w' := by
  go_enter Try.func67, Try.ntmps67
  go_wp2_with fail
  go_ret
  exact ⟨rfl, rfl⟩
theorem with_any (s : Int) (w : World) : Calls Try.prog 46 #[.int .i64 s] w fun e w' => e = .returned (fWith w.heap.size) ∧ w.alloc (.cells #[.int .i64 s] 3) = w' := by
  go_enter Try.func46, Try.ntmps46
  go_wp2_with fail
  go_ret
  exact ⟨rfl, rfl⟩
theorem not_any (q : Nat) (w : World) : Calls Try.prog 68 #[fOf q] w fun e w' => e = .returned (fNot w.heap.size) ∧ w.alloc (.cells #[fOf q] 101) = w' := by
  unfold fOf
  go_enter Try.func68, Try.ntmps68
  go_wp2_with fail
  go_ret
  exact ⟨rfl, rfl⟩
theorem of1_any (s z : Int) (tv : Value) (q : Nat) (w : World) (hq : w.cell? ⟨q, 0, none⟩ = some (.int .i64 z)) :
    Calls Try.prog 82 #[.agg #[.int .i64 s, tv], .pointer (some ⟨q, 0, none⟩)] w fun e w' => e = .returned (.bool (s == z)) ∧ Below w.heap.size w w' := by
  have hlt : q < w.heap.size := by
    unfold World.cell? at hq
    by_cases h : q < w.heap.size
    · exact h
    · rw [Array.getElem?_eq_none (by simpa using h)] at hq; cases hq
  have hal : Below w.heap.size w (w.alloc (.cells #[.int .i64 s, tv] 105)) := (Below.refl _ _).alloc (Nat.le_refl _) _
  have c0 := (hal.cell (p := ⟨q, 0, none⟩) hlt).trans hq
  have d0 := (Blk.new w 105 #[.int .i64 s, tv]).cell 0
  simp only [List.getElem?_toArray, List.getElem?_cons_zero] at d0
  have HB := Lib.hid hal
  clear hal hq
  go_enter Try.func82, Try.ntmps82
  go_wp2_with fail
  go_ret
  exact ⟨rfl, HB.out⟩
theorem lt_of_cell {w : World} {p : Addr} {v : Value} (h : w.cell? p = some v) : p.block < w.heap.size := by
  unfold World.cell? at h
  by_cases q : p.block < w.heap.size
  · exact q
  · rw [Array.getElem?_eq_none (by omega)] at h; cases h
theorem not1_any (s z : Int) (tv : Value) (q q0 : Nat) (w : World) (hq : w.cell? ⟨q, 0, none⟩ = some (fOf q0)) (hq0 : w.cell? ⟨q0, 0, none⟩ = some (.int .i64 z)) :
    Calls Try.prog 83 #[.agg #[.int .i64 s, tv], .pointer (some ⟨q, 0, none⟩)] w fun e w' => e = .returned (.bool (!(s == z))) ∧ Below w.heap.size w w' := by
  have hal : Below w.heap.size w (w.alloc (.cells #[.int .i64 s, tv] 105)) := (Below.refl _ _).alloc (Nat.le_refl _) _
  have c0 := (hal.cell (p := ⟨q, 0, none⟩) (lt_of_cell hq)).trans hq
  have P := Lib.hid (of1_any s z tv q0 _ ((hal.cell (p := ⟨q0, 0, none⟩) (lt_of_cell hq0)).trans hq0))
  have d0 := (Blk.new w 105 #[.int .i64 s, tv]).cell 0
  have d1 := (Blk.new w 105 #[.int .i64 s, tv]).cell 1
  simp only [List.getElem?_toArray, List.getElem?_cons_zero, List.getElem?_cons_succ] at d0 d1
  have HB := Lib.hid hal
  unfold fOf at c0
  obtain ⟨r, hr⟩ : ∃ r, (s == z) = r := ⟨_, rfl⟩
  rw [hr] at P ⊢
  clear hal hq hq0 hr
  go_enter Try.func83, Try.ntmps83
  go_wp2_with (go_at_call 82; (with_reducible refine P.out.mono ?_); rintro e w2 ⟨rfl, h2⟩; have HB2 := Lib.hid (HB.out.trans (h2.mono HB.out.size)); clear h2)
  go_ret
  exact ⟨rfl, HB2.out⟩
theorem CutR.contains_any {B : Nat} {v : Value} {L : List Int} {w : World} (h : CutR B v L w) (hl : L.length ≤ 1000) (x : Int) :
    Calls Try.prog 66 #[v, .int .i64 x] w fun e w' => e = .returned (.bool (L.contains x)) ∧ w' = w := by
  rcases h with ⟨rfl, rfl⟩ | ⟨b, off, cap, cs, rfl, hc, hB, hb, hs, hcell⟩
  · exact Try.slices_Contains_int_empty none 0 x w
  · cases L with
    | nil => exact Try.slices_Contains_int_empty (some ⟨b, off, none⟩) cap x w
    | cons y r =>
      have := Try.slices_Contains_int b off (y :: r).length cap (y :: r) x w (Nat.le_refl _) (by omega) (fun j hj => by
        rw [hb.cell, hcell j _ (List.getElem?_eq_getElem hj), List.getD_eq_getElem?_getD, List.getElem?_eq_getElem hj]; rfl)
      rwa [List.take_length] at this
theorem with1_any (s z : Int) (tv : Value) (ts : List Int) (q : Nat) (w : World) (hq : w.cell? ⟨q, 0, none⟩ = some (.int .i64 z)) (ht : CutR 0 tv ts w) (hl : ts.length ≤ 1000) :
    Calls Try.prog 65 #[.agg #[.int .i64 s, tv], .pointer (some ⟨q, 0, none⟩)] w fun e w' => e = .returned (.bool (ts.contains z)) ∧ Below w.heap.size w w' := by
  have hal : Below w.heap.size w (w.alloc (.cells #[.int .i64 s, tv] 105)) := (Below.refl _ _).alloc (Nat.le_refl _) _
  have c0 := (hal.cell (p := ⟨q, 0, none⟩) (lt_of_cell hq)).trans hq
  have P := Lib.hid ((ht.but (But.of_below (X := Nob) hal) (fun _ _ => id)).contains_any hl z)
  have d1 := (Blk.new w 105 #[.int .i64 s, tv]).cell 1
  simp only [List.getElem?_toArray, List.getElem?_cons_zero, List.getElem?_cons_succ] at d1
  have HB := Lib.hid hal
  obtain ⟨A, cap, hv, -⟩ := ht.slice
  generalize ts.length = n at hv
  subst hv
  generalize ts.contains z = r at *
  clear hal hq ht
  go_enter Try.func65, Try.ntmps65
  go_wp2_with (go_at_call 66; (with_reducible refine P.out.mono ?_); rintro e w2 ⟨rfl, rfl⟩)
  go_ret
  exact ⟨rfl, HB.out⟩
end Go.Proofs.Ytdomgipbadimmaa
