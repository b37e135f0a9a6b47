/- Layer 7's laws: rows of links as they see them; their lives. -/
import Derived.Test.YtlgdeadghmbfmaaCk
namespace Go.Proofs.Ytlgdeadghmbfmaa
open Go.RowKit

/-- Rows of links, made behind the world w0. -/
def Lc (w0 : World) (b gl gn n m : Nat) (ls : Nat → List Nat) (w : World) : Prop := Ch b gl gn n m ls w ∧ But Nob w0 w ∧ ∀ k, Own3 b gl gn k → w0.heap.size ≤ k
section
variable {w0 : World} {b gl gn n m : Nat} {ls : Nat → List Nat} {w : World}
theorem Lc.next {ls' : Nat → List Nat} {w' : World} (h : Lc w0 b gl gn n m ls w) (hC : Ch b gl gn n m ls' w') (hB : But (Own3 b gl gn) w w') : Lc w0 b gl gn n m ls' w' :=
  ⟨hC, h.2.1.step hB fun k hk q => absurd (h.2.2 k q) (by omega), h.2.2⟩
theorem Lc.nob {w' : World} (h : Lc w0 b gl gn n m ls w) (hB : But Nob w w') : Lc w0 b gl gn n m ls w' := h.next (h.1.but hB fun _ _ q => q.elim) hB.nob
theorem Lc.below (h : Lc w0 b gl gn n m ls w) : Below w0.heap.size w0 w := h.2.1.below (Nat.le_refl _) fun _ _ q => q.elim
theorem new_lc (nodes lists : Int) (n m : Nat) (hn : min (max nodes 0) 4096 = (n : Int)) (hm : min (max lists 0) 4096 = (m : Int)) (w : World) :
    Calls Try.prog 41 #[.int .i64 nodes, .int .i64 lists] w fun e w' => ∃ b gl gn, e = .returned (.pointer (some ⟨b, 0, none⟩)) ∧ Lc w b gl gn n m (fun _ => []) w' :=
  (newc_any nodes lists n m hn hm w).mono fun _ _ ⟨b, gl, gn, h1, h2⟩ => ⟨b, gl, gn, h1, h2⟩
theorem push_lc (k x : Nat) (h : Lc w0 b gl gn n m ls w) (hk : k < m) (hx : x < n) (hf : ∀ j, j < m → x ∉ ls j) :
    Calls Try.prog 46 #[.pointer (some ⟨b, 0, none⟩), .int .i64 k, .int .i64 x] w fun e w' => e = .returned (.int .i64 0) ∧ Lc w0 b gl gn n m (updL ls k (ls k ++ [x])) w' :=
  (push_ok k x h.1 hk hx hf).mono fun _ _ ⟨e, h1, h2⟩ => ⟨e, h.next h1 h2⟩
theorem remove_lc (k x : Nat) (ys ws : List Nat) (h : Lc w0 b gl gn n m ls w) (hk : k < m) (hl : ls k = ys ++ x :: ws) :
    Calls Try.prog 48 #[.pointer (some ⟨b, 0, none⟩), .int .i64 x] w fun e w' => e = .returned (.tuple #[.int .i64 k, .int .i64 0]) ∧ Lc w0 b gl gn n m (updL ls k (ys ++ ws)) w' :=
  (remove_ok k x ys ws h.1 hk hl).mono fun _ _ ⟨e, h1, h2⟩ => ⟨e, h.next h1 h2⟩
theorem pop_lc (k x : Nat) (ws : List Nat) (h : Lc w0 b gl gn n m ls w) (hk : k < m) (hl : ls k = x :: ws) :
    Calls Try.prog 49 #[.pointer (some ⟨b, 0, none⟩), .int .i64 k] w fun e w' => e = .returned (.tuple #[.int .i64 x, .bool true]) ∧ Lc w0 b gl gn n m (updL ls k ws) w' :=
  (pop_ok k x ws h.1 hk hl).mono fun _ _ ⟨e, h1, h2⟩ => ⟨e, h.next h1 h2⟩
end
set_option maxRecDepth 100000 in
set_option maxHeartbeats 4000000 in
theorem lives7_any (w : World) : Calls Try.prog 44 #[] w fun e w' => e = .returned (.bool true) ∧ Below w.heap.size w w' := by
  have HN := Lib.hid (new_lc 4 2 4 2 (by decide) (by decide) w)
  go_enter Try.func44, Try.ntmps44
  go_wp2_with fail
  refine HN.out.mono ?_
  rintro e w1 ⟨b, gl, gn, rfl, h1⟩
  have P1 := Lib.hid (push_lc 0 3 h1 (by decide) (by decide) (by decide)); clear h1 HN
  go_wp2_with fail
  refine P1.out.mono ?_
  rintro e w2 ⟨rfl, h2⟩
  have P2 := Lib.hid (push_lc 0 1 h2 (by decide) (by decide) (by decide)); clear h2 P1
  go_wp2_with fail
  refine P2.out.mono ?_
  rintro e w3 ⟨rfl, h3⟩
  have P3 := Lib.hid (push_in 1 3 0 h3.1 (by decide) (by decide) (by decide)); clear P2
  have P4 := Lib.hid (remove_lc 0 3 [] [1] h3 (by decide) (by decide)); clear h3
  go_wp2_with fail
  refine P3.out.mono ?_
  rintro e wq ⟨rfl, rfl⟩
  go_wp2_with fail
  refine P4.out.mono ?_
  rintro e w4 ⟨rfl, h4⟩
  have P5 := Lib.hid (pop_lc 0 1 [] h4 (by decide) (by decide)); clear h4 P3 P4
  go_wp2_with fail
  refine P5.out.mono ?_
  rintro e w5 ⟨rfl, h5⟩
  have H5 := Lib.hid h5; clear h5 P5
  go_wp2_with fail
  go_ret
  exact ⟨rfl, H5.out.below⟩
theorem refCount_any (c : Int) (n : Nat) (hn : min (max c 0) 4096 = (n : Int)) (w : World) :
    Calls Try.prog 45 #[.int .i64 c] w fun e w' => e = .returned (.int .i64 n) ∧ w = w' := by
  by_cases h0 : c < 0
  · obtain rfl : n = 0 := by omega
    go_enter Try.func45, Try.ntmps45
    go_wp2
    go_ret
    exact ⟨rfl, rfl⟩
  · by_cases h1 : 4096 < c
    · obtain rfl : n = 4096 := by omega
      go_enter Try.func45, Try.ntmps45
      go_wp2
      go_ret
      exact ⟨rfl, rfl⟩
    · obtain rfl : c = (n : Int) := by omega
      go_enter Try.func45, Try.ntmps45
      go_wp2
      go_ret
      exact ⟨rfl, rfl⟩
end Go.Proofs.Ytlgdeadghmbfmaa
