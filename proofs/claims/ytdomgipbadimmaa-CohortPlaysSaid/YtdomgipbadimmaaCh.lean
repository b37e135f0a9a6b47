/- Where in a lock's round the first row is of which a question holds (layer 14). -/
import Derived.Test.YtdomgipbadimmaaCg
namespace Go.Proofs.Ytdomgipbadimmaa
open Go.RowKit
set_option maxRecDepth 100000

section
variable {w : World} {lb : Nat} {lab : Nat → LabC} {i : Nat} {c : Coh} {cs : Array Value} {rv : Value}
theorem LockM.cell (h : LockM w lb lab i c cs rv) : w.cell? ⟨lb, 4 * i, none⟩ = some (.int .i64 c.own) ∧ w.cell? ⟨lb, 4 * i + 1, none⟩ = some (.int .i64 c.soc) ∧ w.cell? ⟨lb, 4 * i + 2, none⟩ = some (.int .i64 c.pas) ∧ w.cell? ⟨lb, 4 * i + 3, none⟩ = some rv :=
  ⟨by rw [h.blk.cell]; exact h.val.c0, by rw [h.blk.cell]; exact h.val.c1, by rw [h.blk.cell]; exact h.val.c2, by rw [h.blk.cell]; exact h.val.c3⟩
theorem find_of (s : Int) (hl : c.rnd.length ≤ 1000) (h : LockM w lb lab i c cs rv) (q : Nat) (hq : w.cell? ⟨q, 0, none⟩ = some (.int .i64 s)) :
    Calls Try.prog 45 #[.pointer (some ⟨lb, 4 * i, none⟩), fOf q] w fun e w' => e = .returned (.int .i64 (idxR (ofR s) c.rnd 0)) ∧ Below w.heap.size w w' := by
  obtain ⟨_, _, _, c3⟩ := h.cell
  have P := Lib.hid (idx_of s hl h.rnd q hq)
  obtain ⟨A, cap, rfl, -⟩ := h.rnd.slice
  generalize c.rnd.length = n at *
  clear h hq
  unfold fOf at P ⊢
  go_enter Try.func45, Try.ntmps45
  go_wp2_with fail
  refine P.out.mono ?_
  rintro e w2 ⟨rfl, h2⟩
  dsimp only
  go_wp2_with fail
  go_ret
  exact ⟨rfl, h2⟩
theorem find_not (s : Int) (hl : c.rnd.length ≤ 1000) (h : LockM w lb lab i c cs rv) (q q0 : Nat) (hq : w.cell? ⟨q, 0, none⟩ = some (fOf q0)) (hq0 : w.cell? ⟨q0, 0, none⟩ = some (.int .i64 s)) :
    Calls Try.prog 45 #[.pointer (some ⟨lb, 4 * i, none⟩), fNot q] w fun e w' => e = .returned (.int .i64 (idxR (notR s) c.rnd 0)) ∧ Below w.heap.size w w' := by
  obtain ⟨_, _, _, c3⟩ := h.cell
  have P := Lib.hid (idx_not s hl h.rnd q q0 hq hq0)
  obtain ⟨A, cap, rfl, -⟩ := h.rnd.slice
  generalize c.rnd.length = n at *
  clear h hq hq0
  unfold fNot at P ⊢
  go_enter Try.func45, Try.ntmps45
  go_wp2_with fail
  refine P.out.mono ?_
  rintro e w2 ⟨rfl, h2⟩
  dsimp only
  go_wp2_with fail
  go_ret
  exact ⟨rfl, h2⟩
theorem find_with (t : Int) (hl : c.rnd.length ≤ 1000) (hm : ∀ r ∈ c.rnd, r.2.length ≤ 1000) (h : LockM w lb lab i c cs rv) (q : Nat) (hq : w.cell? ⟨q, 0, none⟩ = some (.int .i64 t)) :
    Calls Try.prog 45 #[.pointer (some ⟨lb, 4 * i, none⟩), fWith q] w fun e w' => e = .returned (.int .i64 (idxR (withR t) c.rnd 0)) ∧ Below w.heap.size w w' := by
  obtain ⟨_, _, _, c3⟩ := h.cell
  have P := Lib.hid (idx_with t hl h.rnd q hq hm)
  obtain ⟨A, cap, rfl, -⟩ := h.rnd.slice
  generalize c.rnd.length = n at *
  clear h hq hm
  unfold fWith at P ⊢
  go_enter Try.func45, Try.ntmps45
  go_wp2_with fail
  refine P.out.mono ?_
  rintro e w2 ⟨rfl, h2⟩
  dsimp only
  go_wp2_with fail
  go_ret
  exact ⟨rfl, h2⟩
end
end Go.Proofs.Ytdomgipbadimmaa
