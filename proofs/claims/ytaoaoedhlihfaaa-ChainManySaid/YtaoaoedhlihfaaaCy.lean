/- ChainMany's walk. -/
import Derived.Test.YtaoaoedhlihfaaaCl
namespace Go.Proofs.Ytaoaoedhlihfaaa
open Go.RowKit

set_option maxRecDepth 100000 in
set_option maxHeartbeats 4000000 in
theorem many_any (nodes lists : Int) (w : World) : Calls Try.prog 12 #[.int .i64 nodes, .int .i64 lists] w fun e w' => e = .returned (.bool true) ∧ Below w.heap.size w w' := by
  obtain ⟨n, hn⟩ : ∃ n : Nat, min (max nodes 0) 4096 = (n : Int) := ⟨(min (max nodes 0) 4096).toNat, by omega⟩
  obtain ⟨m, hm⟩ : ∃ m : Nat, min (max lists 0) 4096 = (m : Int) := ⟨(min (max lists 0) 4096).toNat, by omega⟩
  have HN := Lib.hid (new_lc nodes lists n m hn hm w)
  have C1 := Lib.hid (fun w => refCount_any nodes n hn w); have C2 := Lib.hid (fun w => refCount_any lists m hm w)
  have hn4 : n ≤ 4096 := by omega
  have hm4 : m ≤ 4096 := by omega
  clear hn hm
  go_enter Try.func12, Try.ntmps12
  go_wp2_with fail
  refine HN.out.mono ?_
  rintro e w1 ⟨b, gl, gn, rfl, h1⟩
  have H1 := Lib.hid h1; clear h1 HN
  go_wp2_with fail
  refine (C1.out _).mono ?_
  rintro e wq ⟨rfl, rfl⟩
  go_wp2_with fail
  refine (C2.out _).mono ?_
  rintro e wq ⟨rfl, rfl⟩
  clear C1 C2
  by_cases hz : n = 0 ∨ m = 0
  · have Q1 : Hid (∀ a c : Int, a = (m : Int) - 1 → c = (n : Int) - 1 → Calls Try.prog 46 #[.pointer (some ⟨b, 0, none⟩), .int .i64 a, .int .i64 c] w1 fun e w' => e = .returned (.int .i64 1) ∧ w1 = w') := fun a c ha hc => push_out a c H1.out.1 (by
      rcases hz with rfl | rfl
      · exact .inr (inB_no (by omega))
      · exact .inl (inB_no (by omega)))
    have Q2 := Lib.hid (push_out m 0 H1.out.1 (.inl (inB_no (by omega)))); have Q3 := Lib.hid (push_out 0 n H1.out.1 (.inr (inB_no (by omega))))
    rcases Nat.eq_zero_or_pos n with hn0 | hn0
    · subst hn0
      go_wp2_with fail
      refine (Q1.out _ _ (by omega) (by omega)).mono ?_
      rintro e wq ⟨rfl, rfl⟩
      go_wp2_with fail
      refine Q2.out.mono ?_
      rintro e wq ⟨rfl, rfl⟩
      go_wp2_with fail
      refine Q3.out.mono ?_
      rintro e wq ⟨rfl, rfl⟩
      clear Q1 Q2 Q3
      go_wp2_with fail
      refine (lives7_any _).mono ?_
      rintro e w9 ⟨rfl, h9⟩
      have H9 := Lib.hid h9; clear h9
      go_wp2_with fail
      go_ret
      exact ⟨rfl, H1.out.below.trans (H9.out.mono H1.out.below.size)⟩
    · obtain rfl : m = 0 := by omega
      have n0 : ¬ n = 0 := by omega
      go_wp2_with fail
      refine (Q1.out _ _ (by omega) (by omega)).mono ?_
      rintro e wq ⟨rfl, rfl⟩
      go_wp2_with fail
      refine Q2.out.mono ?_
      rintro e wq ⟨rfl, rfl⟩
      go_wp2_with fail
      refine Q3.out.mono ?_
      rintro e wq ⟨rfl, rfl⟩
      clear Q1 Q2 Q3
      go_wp2_with fail
      refine (lives7_any _).mono ?_
      rintro e w9 ⟨rfl, h9⟩
      have H9 := Lib.hid h9; clear h9
      go_wp2_with fail
      go_ret
      exact ⟨rfl, H1.out.below.trans (H9.out.mono H1.out.below.size)⟩
  · have n0 : ¬ n = 0 := by omega
    have m0 : ¬ m = 0 := by omega
    have bn : ((n : Int) == 0) = false := by simp; omega
    have bm : ((m : Int) == 0) = false := by simp; omega
    have Q1 : Hid (∀ a c : Int, a = (m : Int) - 1 → c = (n : Int) - 1 → Calls Try.prog 46 #[.pointer (some ⟨b, 0, none⟩), .int .i64 a, .int .i64 c] w1 fun e w' => e = .returned (.int .i64 0) ∧ ∃ ls, Lc w b gl gn n m ls w') := fun a c ha hc => by
      obtain rfl : a = ((m - 1 : Nat) : Int) := by omega
      obtain rfl : c = ((n - 1 : Nat) : Int) := by omega
      exact (push_lc (m - 1) (n - 1) H1.out (by omega) (by omega) (fun _ _ h => by simp at h)).mono fun _ _ ⟨e, h⟩ => ⟨e, _, h⟩
    clear H1
    go_wp2_with fail
    refine (Q1.out _ _ (by omega) (by omega)).mono ?_
    rintro e w2 ⟨rfl, ls, h2⟩
    have H2 := Lib.hid h2; clear h2 Q1
    have Q2 := Lib.hid (push_out m 0 H2.out.1 (.inl (inB_no (by omega)))); have Q3 := Lib.hid (push_out 0 n H2.out.1 (.inr (inB_no (by omega))))
    go_wp2_with fail
    refine Q2.out.mono ?_
    rintro e wq ⟨rfl, rfl⟩
    go_wp2_with fail
    refine Q3.out.mono ?_
    rintro e wq ⟨rfl, rfl⟩
    clear Q2 Q3
    go_wp2_with fail
    refine (lives7_any _).mono ?_
    rintro e w9 ⟨rfl, h9⟩
    have H9 := Lib.hid h9; clear h9
    go_wp2_with fail
    go_ret
    exact ⟨rfl, H2.out.below.trans (H9.out.mono H2.out.below.size)⟩
end Go.Proofs.Ytaoaoedhlihfaaa
