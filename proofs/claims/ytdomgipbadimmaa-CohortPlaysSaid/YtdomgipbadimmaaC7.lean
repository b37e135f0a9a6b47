/- Locks, as the laws see them: Owner (layer 14). -/
import Derived.Test.YtdomgipbadimmaaCr
namespace Go.Proofs.Ytdomgipbadimmaa
open Go.RowKit
set_option maxRecDepth 100000

section
variable {B : Nat → Prop} {pb lb : Nat} {lab : Nat → LabC} {ks : List Coh} {w : World} {i : Nat} {c : Coh}
theorem ownerL_any (h : CohL B pb lb lab ks w) (hc : ks[i]? = some c) : Calls Try.prog 18 #[.pointer (some ⟨pb, 0, none⟩), .int .i64 (i : Int)] w fun e w' => e = .returned (.tuple #[.int .i64 (if c.own = -1 then 0 else c.own), .bool (!(c.own == -1))]) ∧ w = w' := by
  have hlt := (List.getElem?_eq_some_iff.1 hc).1
  obtain ⟨cs, rv, hl, -⟩ := h.lock hc
  have P := Lib.hid (has_any h (i : Int))
  rw [show decide ((0 : Int) ≤ (i : Int) ∧ (i : Int) < (ks.length : Int)) = true by simp; omega] at P
  have c0 := h.box.cell 0
  simp only [List.getElem?_toArray, List.getElem?_cons_zero] at c0
  obtain ⟨n, hn⟩ : ∃ n, ks.length = n := ⟨_, rfl⟩
  rw [hn] at c0
  have i0 : (0 : Int) ≤ (i : Int) := by omega
  have i1 : (i : Int) < (n : Int) := by omega
  have c1 := hl.cell.1
  rw [Nat.mul_comm 4 i] at c1
  clear hl h hc hn
  obtain ⟨o, ho⟩ : ∃ o, c.own = o := ⟨_, rfl⟩
  rw [ho] at c1 ⊢
  clear ho
  by_cases h1 : o = -1
  · have t1 : (o == -1) = true := by simpa using h1
    rw [t1, if_pos h1]
    clear h1
    go_enter Try.func18, Try.ntmps18
    go_wp2_with (go_at_call 43; (with_reducible refine P.out.mono ?_); rintro e w2 ⟨rfl, rfl⟩)
    go_ret2
    exact ⟨rfl, rfl⟩
  · have t1 : (o == -1) = false := by simpa using h1
    rw [t1, if_neg h1]
    clear h1
    go_enter Try.func18, Try.ntmps18
    go_wp2_with (go_at_call 43; (with_reducible refine P.out.mono ?_); rintro e w2 ⟨rfl, rfl⟩)
    go_ret2
    exact ⟨rfl, rfl⟩
end
end Go.Proofs.Ytdomgipbadimmaa
