/- Locks, as the laws see them: Socket; of those that there are not (layer 14). -/
import Derived.Test.YtdomgipbadimmaaCr
namespace Go.Proofs.Ytdomgipbadimmaa
open Go.RowKit
set_option maxRecDepth 100000

section
variable {B : Nat → Prop} {pb lb : Nat} {lab : Nat → LabC} {ks : List Coh} {w : World} {i : Nat} {c : Coh}
theorem socketL_any (h : CohL B pb lb lab ks w) (hc : ks[i]? = some c) : Calls Try.prog 19 #[.pointer (some ⟨pb, 0, none⟩), .int .i64 (i : Int)] w fun e w' => e = .returned (.int .i64 c.soc) ∧ w = w' := by
  have hlt := (List.getElem?_eq_some_iff.1 hc).1
  obtain ⟨cs, rv, hl, -⟩ := h.lock hc
  have P := Lib.hid (has_any h (i : Int))
  rw [show decide ((0 : Int) ≤ (i : Int) ∧ (i : Int) < (ks.length : Int)) = true by simp; omega] at P
  have c0 := h.box.cell 0
  simp only [List.getElem?_toArray, List.getElem?_cons_zero] at c0
  obtain ⟨n, hn⟩ : ∃ n, ks.length = n := ⟨_, rfl⟩
  rw [hn] at c0
  have i0 : (0 : Int) ≤ (i : Int) := by omega
  have i1 : (i : Int) < (n : Int) := by omega
  have c1 := hl.cell.2.1
  rw [Nat.mul_comm 4 i] at c1
  clear hl h hc hn
  go_enter Try.func19, Try.ntmps19
  go_wp2_with (go_at_call 43; (with_reducible refine P.out.mono ?_); rintro e w2 ⟨rfl, rfl⟩)
  go_ret
  exact ⟨rfl, rfl⟩
end
theorem takeL_nil (i t s : Int) (w : World) : Calls Try.prog 17 #[.pointer none, .int .i64 i, .int .i64 t, .int .i64 s] w fun e w' => e = .returned (.tuple #[.bool false, .int .i64 3]) ∧ w = w' := by
  have P := Lib.hid (has_nil i w)
  go_enter Try.func17, Try.ntmps17
  go_wp2_with (go_at_call 43; (with_reducible refine P.out.mono ?_); rintro e w2 ⟨rfl, rfl⟩)
  go_ret2
  exact ⟨rfl, rfl⟩
theorem giveL_nil (i t : Int) (w : World) : Calls Try.prog 21 #[.pointer none, .int .i64 i, .int .i64 t] w fun e w' => e = .returned (.tuple #[.int .i64 0, .bool false, .int .i64 3]) ∧ w = w' := by
  have P := Lib.hid (has_nil i w)
  go_enter Try.func21, Try.ntmps21
  go_wp2_with (go_at_call 43; (with_reducible refine P.out.mono ?_); rintro e w2 ⟨rfl, rfl⟩)
  exact bodyPost_ret (v := .tuple #[.int .i64 0, .bool false, .int .i64 3]) (by simp [results, Try.results21, go_sem]) rfl ⟨rfl, rfl⟩
theorem ownerL_nil (i : Int) (w : World) : Calls Try.prog 18 #[.pointer none, .int .i64 i] w fun e w' => e = .returned (.tuple #[.int .i64 0, .bool false]) ∧ w = w' := by
  have P := Lib.hid (has_nil i w)
  go_enter Try.func18, Try.ntmps18
  go_wp2_with (go_at_call 43; (with_reducible refine P.out.mono ?_); rintro e w2 ⟨rfl, rfl⟩)
  go_ret2
  exact ⟨rfl, rfl⟩
theorem waitL_nil (i : Int) (w : World) : Calls Try.prog 20 #[.pointer none, .int .i64 i] w fun e w' => e = .returned (.slice none 0 0) ∧ w = w' := by
  have P := Lib.hid (has_nil i w)
  go_enter Try.func20, Try.ntmps20
  go_wp2_with (go_at_call 43; (with_reducible refine P.out.mono ?_); rintro e w2 ⟨rfl, rfl⟩)
  go_ret
  exact ⟨rfl, rfl⟩
theorem ownedL_nil (t : Int) (w : World) : Calls Try.prog 23 #[.pointer none, .int .i64 t] w fun e w' => e = .returned (.slice none 0 0) ∧ w = w' := by
  have P := Lib.hid (len_nil w)
  go_enter Try.func23, Try.ntmps23
  go_wp2_with (go_at_call 22; (with_reducible refine P.out.mono ?_); rintro e w2 ⟨rfl, rfl⟩)
  go_loopw [5, 9] (fun ov iv wr => ov = .slice none 0 0 ∧ iv = .int .i64 0 ∧ wr = w) (fun _ _ _ => 0)
  case atStart => exact ⟨rfl, rfl, rfl⟩
  case round =>
    obtain ⟨rfl, rfl, rfl⟩ := hrel
    go_wp2_with fail
    go_ret
    exact ⟨rfl, rfl⟩
end Go.Proofs.Ytdomgipbadimmaa
