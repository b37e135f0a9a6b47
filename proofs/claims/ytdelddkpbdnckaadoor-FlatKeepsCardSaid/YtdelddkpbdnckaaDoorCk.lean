/- prog's Name, has, mayReg, checkNumber, checkIns. -/
import Derived.Test.YtdelddkpbdnckaaDoorTb
import Derived.OwnWalk
namespace Go.Proofs.YtdelddkpbdnckaaDoor
open Go.RowKit

set_option maxHeartbeats 1000000 in
theorem name_any (op : Int) (w : World) (hT : Tabs w) :
    Calls Tryd.prog 66 #[.int .i64 op] w fun e w' => e = .returned (.string (nameS op)) ∧ w = w' := by
  unfold nameS
  by_cases h0 : op < 0
  · rw [nameL_none (.inl (by omega))]
    go_enter Tryd.func66, Tryd.ntmps66
    go_wp2
    go_ret
    exact ⟨rfl, rfl⟩
  · by_cases h1 : 15 ≤ op
    · rw [nameL_none (.inr (by omega))]
      clear hT
      go_enter Tryd.func66, Tryd.ntmps66
      go_wp2
      go_ret
      exact ⟨rfl, rfl⟩
    · obtain ⟨k, rfl⟩ : ∃ k : Nat, op = k := ⟨op.toNat, by omega⟩
      have hc := hT.names k (by omega)
      have k0 : (0 : Int) ≤ (k : Int) := by omega
      have k1 : (k : Int) < 15 := by omega
      have e : nameL (k : Int) = nmL k := by unfold nameL; simp
      rw [e]
      have E := Lib.hid e
      clear e hT h0 h1
      go_enter Tryd.func66, Tryd.ntmps66
      go_wp2
      go_ret
      exact ⟨rfl, rfl⟩
def HasP (op : Int) (w : World) (e : Ending) (w' : World) : Prop := e = .returned (.tuple #[.bool (hasA op), .bool (hasB op), .bool (hasN op)]) ∧ w = w'
set_option maxHeartbeats 2000000 in
theorem has_any (op : Int) (w : World) :
    Calls Tryd.prog 67 #[.int .i64 op] w (HasP op w) := by
  by_cases h : op = 1 ∨ op = 2 ∨ op = 3 ∨ op = 4 ∨ op = 5 ∨ op = 6 ∨ op = 7 ∨ op = 8 ∨ op = 9 ∨ op = 10 ∨ op = 12
  · rcases h with rfl | rfl | rfl | rfl | rfl | rfl | rfl | rfl | rfl | rfl | rfl
    all_goals
      go_enter Tryd.func67, Tryd.ntmps67
      go_wp2
      go_ret3
      exact ⟨rfl, rfl⟩
  · have a : hasA op = true := by simp [hasA]; omega
    have b : hasB op = false := by simp [hasB]; omega
    have n : hasN op = false := by simp [hasN]; omega
    unfold HasP
    rw [a, b, n]
    have A := Lib.hid a; have B := Lib.hid b; have C := Lib.hid n
    clear a b n
    have q1 : (op == 1) = false := by simp; omega
    have q2 : (op == 2) = false := by simp; omega
    have q3 : (op == 3) = false := by simp; omega
    have q4 : (op == 4) = false := by simp; omega
    have q5 : (op == 5) = false := by simp; omega
    have q6 : (op == 6) = false := by simp; omega
    have q7 : (op == 7) = false := by simp; omega
    have q8 : (op == 8) = false := by simp; omega
    have q9 : (op == 9) = false := by simp; omega
    have q10 : (op == 10) = false := by simp; omega
    have q12 : (op == 12) = false := by simp; omega
    clear h
    go_enter Tryd.func67, Tryd.ntmps67
    go_wp2
    go_ret3
    exact ⟨rfl, rfl⟩
set_option maxHeartbeats 1000000 in
theorem mayReg_any (r : Int) (one : Bool) (w : World) :
    Calls Tryd.prog 68 #[.int .i64 r, .bool one] w fun e w' => e = .returned (.bool (regOk r one)) ∧ w = w' := by
  cases one with
  | false =>
    cases h : regOk r false with
    | true =>
      have t : (r == 0) = true := by simpa [regOk] using h
      have H := Lib.hid h; clear h
      go_enter Tryd.func68, Tryd.ntmps68
      go_wp2
      go_ret
      exact ⟨rfl, rfl⟩
    | false =>
      have t : (r == 0) = false := by simpa [regOk] using h
      have H := Lib.hid h; clear h
      go_enter Tryd.func68, Tryd.ntmps68
      go_wp2
      go_ret
      exact ⟨rfl, rfl⟩
  | true =>
    by_cases h0 : 0 ≤ r
    · by_cases h1 : r < 4
      · have h : regOk r true = true := by simp [regOk]; omega
        rw [h]
        have H := Lib.hid h; clear h
        go_enter Tryd.func68, Tryd.ntmps68
        go_wp2
        go_ret
        exact ⟨rfl, rfl⟩
      · have h : regOk r true = false := by simp [regOk]; omega
        have d : decide (r < 4) = false := by simp; omega
        rw [h]
        have H := Lib.hid h; clear h
        go_enter Tryd.func68, Tryd.ntmps68
        go_wp2
        go_ret
        exact ⟨rfl, rfl⟩
    · have h : regOk r true = false := by simp [regOk]; omega
      have d : decide (0 ≤ r) = false := by simp; omega
      rw [h]
      have H := Lib.hid h; clear h
      go_enter Tryd.func68, Tryd.ntmps68
      go_wp2
      go_ret
      exact ⟨rfl, rfl⟩
set_option maxHeartbeats 4000000 in
theorem checkNumber_any (op n places : Int) (w : World) (hp : 0 ≤ places ∧ places ≤ 100000) (ho : 1 ≤ op ∧ op ≤ 14) (hn : -2147483648 ≤ n ∧ n ≤ 2147483647) :
    Calls Tryd.prog 69 #[.int .i64 op, .int .i64 n, .int .i64 places] w fun e w' => e = .returned (.int .i64 (numE op n places)) ∧ w = w' := by
  obtain ⟨p0, p1⟩ := hp
  obtain ⟨n0, n1⟩ := hn
  by_cases h1 : op = 1
  · subst h1
    go_enter Tryd.func69, Tryd.ntmps69
    go_wp2
    go_ret
    exact ⟨rfl, rfl⟩
  · by_cases hlo : n < 0
    · have hl : op = 2 ∨ op = 3 ∨ op = 4 ∨ op = 5 ∨ op = 6 ∨ op = 7 ∨ op = 8 ∨ op = 9 ∨ op = 10 ∨ op = 11 ∨ op = 12 ∨ op = 13 ∨ op = 14 := by omega
      clear h1 ho
      rcases hl with rfl | rfl | rfl | rfl | rfl | rfl | rfl | rfl | rfl | rfl | rfl | rfl | rfl
      all_goals
        simp only [numE, hlo]
        go_enter Tryd.func69, Tryd.ntmps69
        go_wp2
        go_ret
        exact ⟨rfl, rfl⟩
    · have hl : (op = 4 ∨ op = 5) ∨ (op = 7 ∨ op = 12 ∨ op = 9 ∨ op = 10) ∨ (op = 2 ∨ op = 3 ∨ op = 6 ∨ op = 8 ∨ op = 11 ∨ op = 13 ∨ op = 14) := by omega
      have d0 : decide (n < 0) = false := by simp; omega
      clear h1 ho
      rcases hl with hl | hl | hl
      · by_cases hh : places - 1 < n
        · rcases hl with rfl | rfl
          all_goals
            simp only [numE, hh]
            go_enter Tryd.func69, Tryd.ntmps69
            go_wp2
            go_ret
            exact ⟨rfl, rfl⟩
        · have d1 : decide (places - 1 < n) = false := by simp; omega
          rcases hl with rfl | rfl
          all_goals
            simp only [numE, hh, hlo]
            go_enter Tryd.func69, Tryd.ntmps69
            go_wp2
            go_ret
            exact ⟨rfl, rfl⟩
      · by_cases hh : 15 < n
        · rcases hl with rfl | rfl | rfl | rfl
          all_goals
            simp only [numE, hh]
            go_enter Tryd.func69, Tryd.ntmps69
            go_wp2
            go_ret
            exact ⟨rfl, rfl⟩
        · have d1 : decide (15 < n) = false := by simp; omega
          rcases hl with rfl | rfl | rfl | rfl
          all_goals
            simp only [numE, hh, hlo]
            go_enter Tryd.func69, Tryd.ntmps69
            go_wp2
            go_ret
            exact ⟨rfl, rfl⟩
      · by_cases hh : 0 < n
        · rcases hl with rfl | rfl | rfl | rfl | rfl | rfl | rfl
          all_goals
            simp only [numE, hh]
            go_enter Tryd.func69, Tryd.ntmps69
            go_wp2
            go_ret
            exact ⟨rfl, rfl⟩
        · have d1 : decide (0 < n) = false := by simp; omega
          rcases hl with rfl | rfl | rfl | rfl | rfl | rfl | rfl
          all_goals
            simp only [numE, hh, hlo]
            go_enter Tryd.func69, Tryd.ntmps69
            go_wp2
            go_ret
            exact ⟨rfl, rfl⟩
end Go.Proofs.YtdelddkpbdnckaaDoor
