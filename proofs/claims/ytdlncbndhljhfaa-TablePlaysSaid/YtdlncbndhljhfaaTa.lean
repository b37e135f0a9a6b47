/- Tasks as rows of cells; which may be (layer 12). -/
import Derived.Test.YtdlncbndhljhfaaBu
import Derived.Deep.MidRow
namespace Go.Proofs.Ytdlncbndhljhfaa
open Go.RowKit

def GotB (B : Nat) (v : Value) (w : World) (e : Ending) (w' : World) : Prop := e = .returned v ∧ Below B w w'
def kindT (j : Nat) : IntKind := if 2 ≤ j ∧ j ≤ 5 then .i32 else if 7 ≤ j ∧ j ≤ 22 then .u64 else .i64
/-- A task's cells. -/
structure OkT (cs : List Value) : Prop where
  len : cs.length = 29
  cell : ∀ j, j < 29 → ∃ n, cs[j]? = some (.int (kindT j) n)
def fld (cs : List Value) (j : Nat) : Int := match cs[j]? with
  | some (.int _ n) => n
  | _ => 0
theorem OkT.get {cs : List Value} (h : OkT cs) {j : Nat} (hj : j < 29) : cs[j]? = some (.int (kindT j) (fld cs j)) := by
  obtain ⟨n, hn⟩ := h.cell j hj
  unfold fld; rw [hn]
theorem OkT.one {cs : List Value} (h : OkT cs) : ∀ v ∈ cs, v.oneCell' = true := fun v hv => by
  obtain ⟨j, hj⟩ := List.getElem?_of_mem hv
  have hl : j < 29 := by have := (List.getElem?_eq_some_iff.1 hj).1; rwa [h.len] at this
  rw [h.get hl] at hj; cases hj; rfl
/-- A task's own block. -/
def BT (w : World) (b : Nat) (cs : List Value) : Prop := Blk w b 38 cs.toArray
theorem BT.cell {w : World} {b : Nat} {cs : List Value} (h : BT w b cs) (ho : OkT cs) {j : Nat} (hj : j < 29) : w.cell? ⟨b, j, none⟩ = some (.int (kindT j) (fld cs j)) := by
  have := Blk.cell h j
  rw [this]; simpa using ho.get hj
theorem BT.range {w : World} {b : Nat} {cs : List Value} (h : BT w b cs) : w.rangeAt b 0 cs := fun j v hv => by
  rw [Nat.zero_add, Blk.cell h j]; simpa using hv
theorem BT.new (w : World) (cs : List Value) : BT (w.alloc (.cells cs.toArray 38)) w.heap.size cs := Blk.new w _ _
theorem infoT : (Try.prog.info? 38).map (·.size) = some 29 := by kernel_rfl
/-- A task, loaded whole. -/
theorem load_task {w : World} {b o : Nat} {cs : List Value} (h : w.rangeAt b o cs) (hl : cs.length = 29) : (Instr.loadAt 38 (.pointer (some ⟨b, o, none⟩))).run Try.prog w = .ok (.agg cs.toArray) w :=
  run_loadAt_mid w b o 38 cs _ h Try.underlying38 rfl (by rw [infoT, hl])
def inT (n a b : Int) : Bool := decide (a ≤ n ∧ n ≤ b)
/-- May it be in a table? -/
def mayT (cs : List Value) : Bool := inT (fld cs 0) 0 15 && inT (fld cs 6) 0 3 && inT (fld cs 23) (-1) 1023 && inT (fld cs 24) (-1) 31 && inT (fld cs 25) 1 8 && inT (fld cs 1) 0 63
set_option maxHeartbeats 1000000 in
theorem within_any (n a b : Int) (w : World) : Calls Try.prog 43 #[.int .i64 n, .int .i64 a, .int .i64 b] w fun e w' => e = .returned (.bool (inT n a b)) ∧ w = w' := by
  obtain ⟨q, hq⟩ : ∃ q, inT n a b = q := ⟨_, rfl⟩
  rw [hq]; unfold inT at hq
  by_cases h : a ≤ n
  · have t : decide (a ≤ n) = true := by simpa using h
    have t2 : decide (n ≤ b) = q := by rw [← hq]; simp [h]
    clear hq h
    go_enter Try.func43, Try.ntmps43
    go_wp2
    go_ret
    exact ⟨rfl, rfl⟩
  · have t : decide (a ≤ n) = false := by simpa using h
    obtain rfl : q = false := by rw [← hq]; simp [h]
    clear hq h
    go_enter Try.func43, Try.ntmps43
    go_wp2
    go_ret
    exact ⟨rfl, rfl⟩
set_option maxRecDepth 100000 in
set_option maxHeartbeats 4000000 in
theorem may_any (cs : List Value) (ho : OkT cs) (w : World) : Calls Try.prog 13 #[.agg cs.toArray] w (GotB w.heap.size (.bool (mayT cs)) w) := by
  have hb := BT.new w cs
  have hB : Below w.heap.size w (w.alloc (.cells cs.toArray 38)) := (Below.refl _ _).alloc (Nat.le_refl _) _
  have HB := Lib.hid hB
  have y0 : (w.alloc (.cells cs.toArray 38)).cell? ⟨w.heap.size, 0, none⟩ = some (.int .i64 (fld cs 0)) := hb.cell ho (by omega : 0 < 29)
  have y1 : (w.alloc (.cells cs.toArray 38)).cell? ⟨w.heap.size, 6, none⟩ = some (.int .i64 (fld cs 6)) := hb.cell ho (by omega : 6 < 29)
  have y2 : (w.alloc (.cells cs.toArray 38)).cell? ⟨w.heap.size, 23, none⟩ = some (.int .i64 (fld cs 23)) := hb.cell ho (by omega : 23 < 29)
  have y3 : (w.alloc (.cells cs.toArray 38)).cell? ⟨w.heap.size, 24, none⟩ = some (.int .i64 (fld cs 24)) := hb.cell ho (by omega : 24 < 29)
  have y4 : (w.alloc (.cells cs.toArray 38)).cell? ⟨w.heap.size, 25, none⟩ = some (.int .i64 (fld cs 25)) := hb.cell ho (by omega : 25 < 29)
  have y5 : (w.alloc (.cells cs.toArray 38)).cell? ⟨w.heap.size, 1, none⟩ = some (.int .i64 (fld cs 1)) := hb.cell ho (by omega : 1 < 29)
  unfold mayT
  have H0 := Lib.hid (within_any (fld cs 0) 0 15)
  obtain ⟨q0, hq0⟩ : ∃ q, inT (fld cs 0) 0 15 = q := ⟨_, rfl⟩
  rw [hq0] at H0 ⊢
  have H1 := Lib.hid (within_any (fld cs 6) 0 3)
  obtain ⟨q1, hq1⟩ : ∃ q, inT (fld cs 6) 0 3 = q := ⟨_, rfl⟩
  rw [hq1] at H1 ⊢
  have H2 := Lib.hid (within_any (fld cs 23) (-1) 1023)
  obtain ⟨q2, hq2⟩ : ∃ q, inT (fld cs 23) (-1) 1023 = q := ⟨_, rfl⟩
  rw [hq2] at H2 ⊢
  have H3 := Lib.hid (within_any (fld cs 24) (-1) 31)
  obtain ⟨q3, hq3⟩ : ∃ q, inT (fld cs 24) (-1) 31 = q := ⟨_, rfl⟩
  rw [hq3] at H3 ⊢
  have H4 := Lib.hid (within_any (fld cs 25) 1 8)
  obtain ⟨q4, hq4⟩ : ∃ q, inT (fld cs 25) 1 8 = q := ⟨_, rfl⟩
  rw [hq4] at H4 ⊢
  have H5 := Lib.hid (within_any (fld cs 1) 0 63)
  obtain ⟨q5, hq5⟩ : ∃ q, inT (fld cs 1) 0 63 = q := ⟨_, rfl⟩
  rw [hq5] at H5 ⊢
  generalize fld cs 0 = n0 at *
  generalize fld cs 6 = n1 at *
  generalize fld cs 23 = n2 at *
  generalize fld cs 24 = n3 at *
  generalize fld cs 25 = n4 at *
  generalize fld cs 1 = n5 at *
  clear hq0 hq1 hq2 hq3 hq4 hq5 hB hb ho
  cases q0 with
  | false =>
    go_enter Try.func13, Try.ntmps13
    go_wp2_with (first
      | (go_at_call 43; (with_reducible refine (H0.out _).mono ?_); rintro e wq ⟨rfl, rfl⟩))
    go_ret
    exact ⟨by simp, HB.out⟩
  | true =>
    cases q1 with
    | false =>
      go_enter Try.func13, Try.ntmps13
      go_wp2_with (first
        | (go_at_call 43; (with_reducible refine (H0.out _).mono ?_); rintro e wq ⟨rfl, rfl⟩)
        | (go_at_call 43; (with_reducible refine (H1.out _).mono ?_); rintro e wq ⟨rfl, rfl⟩))
      go_ret
      exact ⟨by simp, HB.out⟩
    | true =>
      cases q2 with
      | false =>
        go_enter Try.func13, Try.ntmps13
        go_wp2_with (first
          | (go_at_call 43; (with_reducible refine (H0.out _).mono ?_); rintro e wq ⟨rfl, rfl⟩)
          | (go_at_call 43; (with_reducible refine (H1.out _).mono ?_); rintro e wq ⟨rfl, rfl⟩)
          | (go_at_call 43; (with_reducible refine (H2.out _).mono ?_); rintro e wq ⟨rfl, rfl⟩))
        go_ret
        exact ⟨by simp, HB.out⟩
      | true =>
        cases q3 with
        | false =>
          go_enter Try.func13, Try.ntmps13
          go_wp2_with (first
            | (go_at_call 43; (with_reducible refine (H0.out _).mono ?_); rintro e wq ⟨rfl, rfl⟩)
            | (go_at_call 43; (with_reducible refine (H1.out _).mono ?_); rintro e wq ⟨rfl, rfl⟩)
            | (go_at_call 43; (with_reducible refine (H2.out _).mono ?_); rintro e wq ⟨rfl, rfl⟩)
            | (go_at_call 43; (with_reducible refine (H3.out _).mono ?_); rintro e wq ⟨rfl, rfl⟩))
          go_ret
          exact ⟨by simp, HB.out⟩
        | true =>
          cases q4 with
          | false =>
            go_enter Try.func13, Try.ntmps13
            go_wp2_with (first
              | (go_at_call 43; (with_reducible refine (H0.out _).mono ?_); rintro e wq ⟨rfl, rfl⟩)
              | (go_at_call 43; (with_reducible refine (H1.out _).mono ?_); rintro e wq ⟨rfl, rfl⟩)
              | (go_at_call 43; (with_reducible refine (H2.out _).mono ?_); rintro e wq ⟨rfl, rfl⟩)
              | (go_at_call 43; (with_reducible refine (H3.out _).mono ?_); rintro e wq ⟨rfl, rfl⟩)
              | (go_at_call 43; (with_reducible refine (H4.out _).mono ?_); rintro e wq ⟨rfl, rfl⟩))
            go_ret
            exact ⟨by simp, HB.out⟩
          | true =>
            go_enter Try.func13, Try.ntmps13
            go_wp2_with (first
              | (go_at_call 43; (with_reducible refine (H0.out _).mono ?_); rintro e wq ⟨rfl, rfl⟩)
              | (go_at_call 43; (with_reducible refine (H1.out _).mono ?_); rintro e wq ⟨rfl, rfl⟩)
              | (go_at_call 43; (with_reducible refine (H2.out _).mono ?_); rintro e wq ⟨rfl, rfl⟩)
              | (go_at_call 43; (with_reducible refine (H3.out _).mono ?_); rintro e wq ⟨rfl, rfl⟩)
              | (go_at_call 43; (with_reducible refine (H4.out _).mono ?_); rintro e wq ⟨rfl, rfl⟩)
              | (go_at_call 43; (with_reducible refine (H5.out _).mono ?_); rintro e wq ⟨rfl, rfl⟩))
            go_ret
            exact ⟨by simp, HB.out⟩
set_option maxRecDepth 100000 in
set_option maxHeartbeats 4000000 in
theorem refMay_any (cs : List Value) (ho : OkT cs) (w : World) : Calls Try.prog 14 #[.agg cs.toArray] w (GotB w.heap.size (.bool (mayT cs)) w) := by
  have hb := BT.new w cs
  have hB : Below w.heap.size w (w.alloc (.cells cs.toArray 38)) := (Below.refl _ _).alloc (Nat.le_refl _) _
  have HB := Lib.hid hB
  obtain ⟨q, hq⟩ : ∃ q, mayT cs = q := ⟨_, rfl⟩
  rw [hq]
  have hm : mayT cs = decide (0 ≤ fld cs 0 ∧ fld cs 0 < 16 ∧ 0 ≤ fld cs 6 ∧ fld cs 6 < 4 ∧ -1 ≤ fld cs 23 ∧ fld cs 23 < 1024 ∧ -1 ≤ fld cs 24 ∧ fld cs 24 < 32 ∧ 1 ≤ fld cs 25 ∧ fld cs 25 ≤ 8 ∧ 0 ≤ fld cs 1 ∧ fld cs 1 < 64) := by
    unfold mayT inT; rw [Bool.eq_iff_iff]; simp only [Bool.and_eq_true, decide_eq_true_eq]; omega
  rw [hm] at hq
  clear hm
  have y0 : (w.alloc (.cells cs.toArray 38)).cell? ⟨w.heap.size, 0, none⟩ = some (.int .i64 (fld cs 0)) := hb.cell ho (by omega : 0 < 29)
  have y1 : (w.alloc (.cells cs.toArray 38)).cell? ⟨w.heap.size, 6, none⟩ = some (.int .i64 (fld cs 6)) := hb.cell ho (by omega : 6 < 29)
  have y2 : (w.alloc (.cells cs.toArray 38)).cell? ⟨w.heap.size, 23, none⟩ = some (.int .i64 (fld cs 23)) := hb.cell ho (by omega : 23 < 29)
  have y3 : (w.alloc (.cells cs.toArray 38)).cell? ⟨w.heap.size, 24, none⟩ = some (.int .i64 (fld cs 24)) := hb.cell ho (by omega : 24 < 29)
  have y4 : (w.alloc (.cells cs.toArray 38)).cell? ⟨w.heap.size, 25, none⟩ = some (.int .i64 (fld cs 25)) := hb.cell ho (by omega : 25 < 29)
  have y5 : (w.alloc (.cells cs.toArray 38)).cell? ⟨w.heap.size, 1, none⟩ = some (.int .i64 (fld cs 1)) := hb.cell ho (by omega : 1 < 29)
  generalize fld cs 0 = n0 at *
  generalize fld cs 6 = n6 at *
  generalize fld cs 23 = n23 at *
  generalize fld cs 24 = n24 at *
  generalize fld cs 25 = n25 at *
  generalize fld cs 1 = n1 at *
  clear hB hb ho
  by_cases h0 : (0 : Int) ≤ n0
  · have t0 : decide ((0 : Int) ≤ n0) = true := by simpa using h0
    by_cases h1 : n0 < 16
    · have t1 : decide (n0 < 16) = true := by simpa using h1
      by_cases h2 : (0 : Int) ≤ n6
      · have t2 : decide ((0 : Int) ≤ n6) = true := by simpa using h2
        by_cases h3 : n6 < 4
        · have t3 : decide (n6 < 4) = true := by simpa using h3
          by_cases h4 : (-1 : Int) ≤ n23
          · have t4 : decide ((-1 : Int) ≤ n23) = true := by simpa using h4
            by_cases h5 : n23 < 1024
            · have t5 : decide (n23 < 1024) = true := by simpa using h5
              by_cases h6 : (-1 : Int) ≤ n24
              · have t6 : decide ((-1 : Int) ≤ n24) = true := by simpa using h6
                by_cases h7 : n24 < 32
                · have t7 : decide (n24 < 32) = true := by simpa using h7
                  by_cases h8 : (1 : Int) ≤ n25
                  · have t8 : decide ((1 : Int) ≤ n25) = true := by simpa using h8
                    by_cases h9 : n25 ≤ 8
                    · have t9 : decide (n25 ≤ 8) = true := by simpa using h9
                      by_cases h10 : (0 : Int) ≤ n1
                      · have t10 : decide ((0 : Int) ≤ n1) = true := by simpa using h10
                        by_cases h11 : n1 < 64
                        · have t11 : decide (n1 < 64) = true := by simpa using h11
                          obtain rfl : q = true := by rw [← hq]; exact decide_eq_true (by omega)
                          clear hq h0 h1 h2 h3 h4 h5 h6 h7 h8 h9 h10 h11
                          go_enter Try.func14, Try.ntmps14
                          go_wp2_with fail
                          go_ret
                          exact ⟨rfl, HB.out⟩
                        · have t11 : decide (n1 < 64) = false := by simpa using h11
                          obtain rfl : q = false := by rw [← hq]; exact decide_eq_false (by omega)
                          clear hq h0 h1 h2 h3 h4 h5 h6 h7 h8 h9 h10 h11
                          go_enter Try.func14, Try.ntmps14
                          go_wp2_with fail
                          go_ret
                          exact ⟨rfl, HB.out⟩
                      · have t10 : decide ((0 : Int) ≤ n1) = false := by simpa using h10
                        obtain rfl : q = false := by rw [← hq]; exact decide_eq_false (by omega)
                        clear hq h0 h1 h2 h3 h4 h5 h6 h7 h8 h9 h10
                        go_enter Try.func14, Try.ntmps14
                        go_wp2_with fail
                        go_ret
                        exact ⟨rfl, HB.out⟩
                    · have t9 : decide (n25 ≤ 8) = false := by simpa using h9
                      obtain rfl : q = false := by rw [← hq]; exact decide_eq_false (by omega)
                      clear hq h0 h1 h2 h3 h4 h5 h6 h7 h8 h9
                      go_enter Try.func14, Try.ntmps14
                      go_wp2_with fail
                      go_ret
                      exact ⟨rfl, HB.out⟩
                  · have t8 : decide ((1 : Int) ≤ n25) = false := by simpa using h8
                    obtain rfl : q = false := by rw [← hq]; exact decide_eq_false (by omega)
                    clear hq h0 h1 h2 h3 h4 h5 h6 h7 h8
                    go_enter Try.func14, Try.ntmps14
                    go_wp2_with fail
                    go_ret
                    exact ⟨rfl, HB.out⟩
                · have t7 : decide (n24 < 32) = false := by simpa using h7
                  obtain rfl : q = false := by rw [← hq]; exact decide_eq_false (by omega)
                  clear hq h0 h1 h2 h3 h4 h5 h6 h7
                  go_enter Try.func14, Try.ntmps14
                  go_wp2_with fail
                  go_ret
                  exact ⟨rfl, HB.out⟩
              · have t6 : decide ((-1 : Int) ≤ n24) = false := by simpa using h6
                obtain rfl : q = false := by rw [← hq]; exact decide_eq_false (by omega)
                clear hq h0 h1 h2 h3 h4 h5 h6
                go_enter Try.func14, Try.ntmps14
                go_wp2_with fail
                go_ret
                exact ⟨rfl, HB.out⟩
            · have t5 : decide (n23 < 1024) = false := by simpa using h5
              obtain rfl : q = false := by rw [← hq]; exact decide_eq_false (by omega)
              clear hq h0 h1 h2 h3 h4 h5
              go_enter Try.func14, Try.ntmps14
              go_wp2_with fail
              go_ret
              exact ⟨rfl, HB.out⟩
          · have t4 : decide ((-1 : Int) ≤ n23) = false := by simpa using h4
            obtain rfl : q = false := by rw [← hq]; exact decide_eq_false (by omega)
            clear hq h0 h1 h2 h3 h4
            go_enter Try.func14, Try.ntmps14
            go_wp2_with fail
            go_ret
            exact ⟨rfl, HB.out⟩
        · have t3 : decide (n6 < 4) = false := by simpa using h3
          obtain rfl : q = false := by rw [← hq]; exact decide_eq_false (by omega)
          clear hq h0 h1 h2 h3
          go_enter Try.func14, Try.ntmps14
          go_wp2_with fail
          go_ret
          exact ⟨rfl, HB.out⟩
      · have t2 : decide ((0 : Int) ≤ n6) = false := by simpa using h2
        obtain rfl : q = false := by rw [← hq]; exact decide_eq_false (by omega)
        clear hq h0 h1 h2
        go_enter Try.func14, Try.ntmps14
        go_wp2_with fail
        go_ret
        exact ⟨rfl, HB.out⟩
    · have t1 : decide (n0 < 16) = false := by simpa using h1
      obtain rfl : q = false := by rw [← hq]; exact decide_eq_false (by omega)
      clear hq h0 h1
      go_enter Try.func14, Try.ntmps14
      go_wp2_with fail
      go_ret
      exact ⟨rfl, HB.out⟩
  · have t0 : decide ((0 : Int) ≤ n0) = false := by simpa using h0
    obtain rfl : q = false := by rw [← hq]; exact decide_eq_false (by omega)
    clear hq h0
    go_enter Try.func14, Try.ntmps14
    go_wp2_with fail
    go_ret
    exact ⟨rfl, HB.out⟩
end Go.Proofs.Ytdlncbndhljhfaa
