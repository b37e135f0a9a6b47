/- The document's Join, where it refuses at once (layer 12). -/
import Derived.Test.YtdlncbndhljhfaaVf
import Derived.BigQuiet
namespace Go.Proofs.Ytdlncbndhljhfaa
open Go.RowKit

/-- What Join answers, and the waits behind it. -/
def joinE (ts : List (List Value)) (ws : List (Nat × Nat)) (id on : Int) : Int :=
  if 0 ≤ id ∧ id < (ts.length : Int) ∧ 0 ≤ on ∧ on < (ts.length : Int) then (if id = on then 1 else if fld (ts[on.toNat]?.getD []) 25 = 8 then 5 else if ws.any (fun y => (y.1 : Int) == id) then 9 else 0) else 3
def joinW (ts : List (List Value)) (ws : List (Nat × Nat)) (id on : Int) : List (Nat × Nat) := if joinE ts ws id on = 0 then ws ++ [(id.toNat, on.toNat)] else ws
section
variable {tb most : Nat} {vL vW : Value} {ts : List (List Value)} {ws : List (Nat × Nat)} {w w' : World}
set_option maxHeartbeats 4000000 in
theorem djoin_out (id on : Int) (h : TabR tb vL vW most ts ws w) (hq : ¬ (0 ≤ id ∧ id < (ts.length : Int) ∧ 0 ≤ on ∧ on < (ts.length : Int))) :
    Calls Try.prog 45 #[.pointer (some ⟨tb, 0, none⟩), .int .i64 id, .int .i64 on] w (GotB w.heap.size (.int .i64 3) w) := by
  have c1 := h.cells.2.1
  have hq' : ∃ A cap, vL = .slice A ts.length cap := by
    rcases rowForm h.row with ⟨e1, e2⟩ | ⟨g, cap, e1⟩
    · exact ⟨none, 0, by rw [e2]; exact e1⟩
    · exact ⟨_, cap, e1⟩
  obtain ⟨A, cap, hA⟩ := hq'
  rw [hA] at c1
  have hlim := h.lim.1
  clear h hA
  generalize ts.length = n at *
  have hc : decide (id < 0) = true ∨ (decide (id < 0) = false ∧ decide ((n : Int) ≤ id) = true) ∨ (decide (id < 0) = false ∧ decide ((n : Int) ≤ id) = false ∧ decide (on < 0) = true) ∨ (decide (id < 0) = false ∧ decide ((n : Int) ≤ id) = false ∧ decide (on < 0) = false ∧ decide ((n : Int) ≤ on) = true) := by
    simp only [decide_eq_true_eq, decide_eq_false_iff_not]; omega
  clear hq
  rcases hc with t0 | ⟨t0, t1⟩ | ⟨t0, t1, t2⟩ | ⟨t0, t1, t2, t3⟩
  all_goals
    go_enter Try.func45, Try.ntmps45
    go_wp2_with fail
    go_ret
    exact ⟨rfl, Below.refl _ _⟩
set_option maxHeartbeats 4000000 in
theorem djoin_self (i : Nat) (h : TabR tb vL vW most ts ws w) (hi : i < ts.length) :
    Calls Try.prog 45 #[.pointer (some ⟨tb, 0, none⟩), .int .i64 i, .int .i64 i] w (GotB w.heap.size (.int .i64 1) w) := by
  have c1 := h.cells.2.1
  have hq' : ∃ A cap, vL = .slice A ts.length cap := by
    rcases rowForm h.row with ⟨e1, e2⟩ | ⟨g, cap, e1⟩
    · exact ⟨none, 0, by rw [e2]; exact e1⟩
    · exact ⟨_, cap, e1⟩
  obtain ⟨A, cap, hA⟩ := hq'
  rw [hA] at c1
  have hlim := h.lim.1
  clear h hA
  generalize ts.length = n at *
  have t0 : decide ((i : Int) < 0) = false := by simp
  have t1 : decide ((n : Int) ≤ (i : Int)) = false := by simp; omega
  have t2 : ((i : Int) == (i : Int)) = true := by simp
  go_enter Try.func45, Try.ntmps45
  go_wp2_with fail
  go_ret
  exact ⟨rfl, Below.refl _ _⟩
set_option maxHeartbeats 4000000 in
theorem djoin_over (i o : Nat) (h : TabR tb vL vW most ts ws w) (hi : i < ts.length) (ho : o < ts.length) (hne : i ≠ o) (hs : fld (ts[o]?.getD []) 25 = 8) :
    Calls Try.prog 45 #[.pointer (some ⟨tb, 0, none⟩), .int .i64 i, .int .i64 o] w (GotB w.heap.size (.int .i64 5) w) := by
  have c1 := h.cells.2.1
  have hlim := h.lim.1
  obtain ⟨x, hx⟩ : ∃ x, ts[o]? = some x := ⟨_, List.getElem?_eq_getElem ho⟩
  rw [hx] at hs
  obtain ⟨g, cap, hv, hr, hox⟩ := h.at_ hx
  have y := hr 25 _ (hox.get (by omega))
  rw [show kindT 25 = .i64 from rfl, show fld x 25 = 8 from hs] at y
  rw [hv] at c1
  clear h hv hr hox hx hs
  generalize ts.length = n at *
  have t0 : decide ((i : Int) < 0) = false := by simp
  have t1 : decide ((n : Int) ≤ (i : Int)) = false := by simp; omega
  have t2 : decide ((o : Int) < 0) = false := by simp
  have t3 : decide ((n : Int) ≤ (o : Int)) = false := by simp; omega
  have t4 : ((i : Int) == (o : Int)) = false := by simp; omega
  have i0 : (0 : Int) ≤ (o : Int) := by omega
  have i1 : (o : Int) < (n : Int) := by omega
  go_enter Try.func45, Try.ntmps45
  go_wp2_with fail
  go_ret
  exact ⟨rfl, Below.refl _ _⟩
end
end Go.Proofs.Ytdlncbndhljhfaa
