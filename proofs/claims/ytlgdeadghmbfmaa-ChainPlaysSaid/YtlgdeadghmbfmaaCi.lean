/- Len, In, Next of a chain. -/
import Derived.Test.YtlgdeadghmbfmaaCe
namespace Go.Proofs.Ytlgdeadghmbfmaa
open Go.RowKit

section
variable {b gl gn cl cn n m : Nat} {R Ah Be L : Nat → Int} {w : World}
set_option maxRecDepth 100000 in
set_option maxHeartbeats 2000000 in
theorem lenc_raw (k : Nat) (h : ChV b gl gn cl cn n m R Ah Be L w) (hk : k < m) :
    Calls Try.prog 50 #[.pointer (some ⟨b, 0, none⟩), .int .i64 k] w fun e w' => e = .returned (.int .i64 (L k)) ∧ w = w' := by
  have hin := isList_any (k : Int) h
  rw [inB_yes hk] at hin
  have c2 := h.cells.2.2
  have k2 := (h.len hk).1
  have xI0 : (0 : Int) ≤ (k : Int) := by omega
  have xI1 : (k : Int) < (m : Int) := by omega
  have HIN := Lib.hid hin; clear hin h
  go_enter Try.func50, Try.ntmps50
  go_wp2_with (first
    | (go_at_call 85; (with_reducible refine HIN.out.mono ?_); rintro e wq ⟨rfl, rfl⟩))
  go_ret
  exact ⟨rfl, rfl⟩
set_option maxHeartbeats 1000000 in
theorem lenc_out (k : Int) (h : ChV b gl gn cl cn n m R Ah Be L w) (hk : inB k m = false) :
    Calls Try.prog 50 #[.pointer (some ⟨b, 0, none⟩), .int .i64 k] w fun e w' => e = .returned (.int .i64 0) ∧ w = w' := by
  have hin := isList_any k h
  rw [hk] at hin
  have HIN := Lib.hid hin; clear hin h hk
  go_enter Try.func50, Try.ntmps50
  go_wp2_with (first
    | (go_at_call 85; (with_reducible refine HIN.out.mono ?_); rintro e wq ⟨rfl, rfl⟩))
  go_ret
  exact ⟨rfl, rfl⟩
set_option maxRecDepth 100000 in
set_option maxHeartbeats 2000000 in
theorem in_raw (x k : Nat) (h : ChV b gl gn cl cn n m R Ah Be L w) (hx : x < n) (hR : R x = k) :
    Calls Try.prog 51 #[.pointer (some ⟨b, 0, none⟩), .int .i64 x] w fun e w' => e = .returned (.tuple #[.int .i64 k, .bool true]) ∧ w = w' := by
  have hcl := h.hcl
  have hin := isNode_any (x : Int) h
  rw [inB_yes hx] at hin
  have c0 := h.cells.1
  obtain ⟨k0, -, -⟩ := h.lks.cell (i := x) (by omega)
  rw [hR] at k0
  have xI0 : (0 : Int) ≤ (x : Int) := by omega
  have xI1 : (x : Int) < (n : Int) + (m : Int) := by omega
  have t1 : ((k : Int) == -1) = false := by rw [beq_eq_false_iff_ne]; omega
  have HIN := Lib.hid hin; clear hin h hR
  go_enter Try.func51, Try.ntmps51
  go_wp2_with (first
    | (go_at_call 86; (with_reducible refine HIN.out.mono ?_); rintro e wq ⟨rfl, rfl⟩))
  go_ret2
  exact ⟨rfl, rfl⟩
set_option maxRecDepth 100000 in
set_option maxHeartbeats 2000000 in
theorem in_none (x : Nat) (h : ChV b gl gn cl cn n m R Ah Be L w) (hx : x < n) (hR : R x = -1) :
    Calls Try.prog 51 #[.pointer (some ⟨b, 0, none⟩), .int .i64 x] w fun e w' => e = .returned (.tuple #[.int .i64 0, .bool false]) ∧ w = w' := by
  have hcl := h.hcl
  have hin := isNode_any (x : Int) h
  rw [inB_yes hx] at hin
  have c0 := h.cells.1
  obtain ⟨k0, -, -⟩ := h.lks.cell (i := x) (by omega)
  rw [hR] at k0
  have xI0 : (0 : Int) ≤ (x : Int) := by omega
  have xI1 : (x : Int) < (n : Int) + (m : Int) := by omega
  have HIN := Lib.hid hin; clear hin h hR
  go_enter Try.func51, Try.ntmps51
  go_wp2_with (first
    | (go_at_call 86; (with_reducible refine HIN.out.mono ?_); rintro e wq ⟨rfl, rfl⟩))
  go_ret2
  exact ⟨rfl, rfl⟩
set_option maxHeartbeats 1000000 in
theorem in_out (x : Int) (h : ChV b gl gn cl cn n m R Ah Be L w) (hx : inB x n = false) :
    Calls Try.prog 51 #[.pointer (some ⟨b, 0, none⟩), .int .i64 x] w fun e w' => e = .returned (.tuple #[.int .i64 0, .bool false]) ∧ w = w' := by
  have hin := isNode_any x h
  rw [hx] at hin
  have HIN := Lib.hid hin; clear hin h hx
  go_enter Try.func51, Try.ntmps51
  go_wp2_with (first
    | (go_at_call 86; (with_reducible refine HIN.out.mono ?_); rintro e wq ⟨rfl, rfl⟩))
  go_ret2
  exact ⟨rfl, rfl⟩
set_option maxRecDepth 100000 in
set_option maxHeartbeats 2000000 in
theorem next_raw (x k c : Nat) (h : ChV b gl gn cl cn n m R Ah Be L w) (hx : x < n) (hR : R x = k) (hc : Be x = c) :
    Calls Try.prog 53 #[.pointer (some ⟨b, 0, none⟩), .int .i64 x] w fun e w' => e = .returned (.tuple #[.int .i64 (if c < n then (c : Int) else 0), .bool (decide (c < n))]) ∧ w = w' := by
  have hin := in_raw x k h hx hR
  have hbe := behind_raw x c h (by omega) hc
  obtain ⟨v, hv⟩ : ∃ v, v = (if c < n then (c : Int) else 0) := ⟨_, rfl⟩
  obtain ⟨d, hd⟩ : ∃ d, d = decide (c < n) := ⟨_, rfl⟩
  rw [← hv, ← hd] at hbe ⊢
  have HIN := Lib.hid hin; have HBE := Lib.hid hbe; clear hin hbe h hR hc hv hd
  go_enter Try.func53, Try.ntmps53
  go_wp2_with (first
    | (go_at_call 51; (with_reducible refine HIN.out.mono ?_); rintro e wq ⟨rfl, rfl⟩)
    | (go_at_call 89; (with_reducible refine HBE.out.mono ?_); rintro e wq ⟨rfl, rfl⟩))
  go_ret2
  exact ⟨rfl, rfl⟩
set_option maxHeartbeats 1000000 in
theorem next_no {p : Option Addr} (x : Int) (hin : Calls Try.prog 51 #[.pointer p, .int .i64 x] w fun e w' => e = .returned (.tuple #[.int .i64 0, .bool false]) ∧ w = w') :
    Calls Try.prog 53 #[.pointer p, .int .i64 x] w fun e w' => e = .returned (.tuple #[.int .i64 0, .bool false]) ∧ w = w' := by
  have HIN := Lib.hid hin; clear hin
  go_enter Try.func53, Try.ntmps53
  go_wp2_with (first
    | (go_at_call 51; (with_reducible refine HIN.out.mono ?_); rintro e wq ⟨rfl, rfl⟩))
  go_ret2
  exact ⟨rfl, rfl⟩
end
section
variable {b gl gn n m : Nat} {ls : Nat → List Nat} {w : World}
theorem lenc_ok (k : Nat) (h : Ch b gl gn n m ls w) (hk : k < m) :
    Calls Try.prog 50 #[.pointer (some ⟨b, 0, none⟩), .int .i64 k] w fun e w' => e = .returned (.int .i64 (ls k).length) ∧ w = w' := by
  obtain ⟨cl, cn, R, Ah, Be, L, h, hI⟩ := h
  rw [← hI.lens k hk]; exact lenc_raw k h hk
theorem inc_ok (x k : Nat) (h : Ch b gl gn n m ls w) (hk : k < m) (hx : x ∈ ls k) :
    Calls Try.prog 51 #[.pointer (some ⟨b, 0, none⟩), .int .i64 x] w fun e w' => e = .returned (.tuple #[.int .i64 k, .bool true]) ∧ w = w' := by
  obtain ⟨cl, cn, R, Ah, Be, L, h, hI⟩ := h
  obtain ⟨h1, h2⟩ := hI.mem k hk x hx
  exact in_raw x k h h1 h2
theorem inc_free (x : Nat) (h : Ch b gl gn n m ls w) (hx : x < n) (hf : ∀ j, j < m → x ∉ ls j) :
    Calls Try.prog 51 #[.pointer (some ⟨b, 0, none⟩), .int .i64 x] w fun e w' => e = .returned (.tuple #[.int .i64 0, .bool false]) ∧ w = w' := by
  obtain ⟨cl, cn, R, Ah, Be, L, h, hI⟩ := h
  refine in_none x h hx ?_
  rcases hI.free x hx with ⟨q, _⟩ | ⟨j, hj, _, q⟩
  · exact q
  · exact absurd q (hf j hj)
theorem nextc_ok (x k : Nat) (ys ws : List Nat) (h : Ch b gl gn n m ls w) (hk : k < m) (hl : ls k = ys ++ x :: ws) :
    Calls Try.prog 53 #[.pointer (some ⟨b, 0, none⟩), .int .i64 x] w fun e w' => e = .returned (.tuple #[.int .i64 (hd ws), .bool (!ws.isEmpty)]) ∧ w = w' := by
  obtain ⟨cl, cn, R, Ah, Be, L, h, hI⟩ := h
  obtain ⟨h1, h2⟩ := hI.mem k hk x (by rw [hl]; simp)
  obtain ⟨c, hc⟩ := head_snoc_some (n + k) ws
  have hrow := hI.row k hk
  rw [hl] at hrow
  have hB : Be x = c := by
    have hr : Pth Ah Be (((n + k) :: ys ++ [x]) ++ (ws ++ [n + k])) := by have := hrow; unfold Row at this; simpa using this
    exact ((pth_append.1 hr).2.2 x c List.getLast?_concat hc).1
  have := next_raw x k c h h1 h2 hB
  cases ws with
  | nil =>
    simp at hc; subst hc
    rw [if_neg (by omega), decide_eq_false (by omega)] at this
    exact this
  | cons y t =>
    simp at hc; subst hc
    have hy := (hI.mem k hk y (by rw [hl]; simp)).1
    simpa [hd, hy] using this
end
end Go.Proofs.Ytlgdeadghmbfmaa
