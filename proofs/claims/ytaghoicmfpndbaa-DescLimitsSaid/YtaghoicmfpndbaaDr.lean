/- The contracts of desc's reader: more, here, step, pass. -/
import Derived.Test.YtaghoicmfpndbaaDp
import Derived.Test.YtaghoicmfpndbaaProg
import Derived.Deep.QuietTactic
import Derived.BigQuiet
import Derived.Maps.AppendAt
import Derived.Laws.CopyOwn
import Derived.Lib.Hide
import Derived.Laws.Rows
namespace Go.Proofs.Ytaghoicmfpndbaa
open Go.RowKit

/-- A reader's block: how far it is. -/
def Rd (b : Nat) (s : ByteArray) (i : Nat) (w : World) : Prop :=
  w.heap[b]? = some (.cells #[.int .i64 i, .int .i64 (lineA (byteAt s) i), .int .i64 (colA (byteAt s) i), .string s] 42 (0, 0))
/-- The reader has come to i; all else that was there is as it was. -/
def Adv (b : Nat) (s : ByteArray) (i : Nat) (w w' : World) : Prop := w.grownBy w' (some b) ∧ Rd b s i w'
theorem Rd.cells {b : Nat} {s : ByteArray} {i : Nat} {w : World} (h : Rd b s i w) :
    w.cell? ⟨b, 0, none⟩ = some (.int .i64 i) ∧ w.cell? ⟨b, 1, none⟩ = some (.int .i64 (lineA (byteAt s) i)) ∧ w.cell? ⟨b, 2, none⟩ = some (.int .i64 (colA (byteAt s) i)) ∧ w.cell? ⟨b, 3, none⟩ = some (.string s) := by
  unfold Rd at h
  refine ⟨?_, ?_, ?_, ?_⟩ <;> (unfold World.cell?; rw [h]; rfl)
theorem Rd.free {b : Nat} {s : ByteArray} {i : Nat} {w : World} (h : Rd b s i w) (o : Nat) : w.frozen? ⟨b, o, none⟩ = false := by
  unfold Rd at h
  unfold World.frozen?; rw [h]; simp
theorem adv_drewN {b : Nat} {s : ByteArray} {i : Nat} {w : World} (h : Rd b s i w) (n : Nat) : Adv b s i w (w.drewN n) :=
  ⟨⟨rfl, rfl, rfl, Nat.le_refl _, fun _ _ _ => rfl⟩, h⟩
theorem Adv.trans {b : Nat} {s : ByteArray} {i j : Nat} {w w1 w2 : World} (h : Adv b s i w w1) (k : Adv b s j w1 w2) : Adv b s j w w2 := ⟨h.1.trans k.1, k.2⟩
theorem grown_set (w : World) (a : Addr) (u : Value) : w.grownBy (w.setCell a u) (some a.block) :=
  ⟨rfl, rfl, rfl, by simp, fun k _ hk => heap_setCell_other _ _ _ _ (fun e => hk (by rw [e]))⟩
set_option maxHeartbeats 1000000 in
theorem more_any (b : Nat) (s : ByteArray) (i : Nat) (w : World) (h : Rd b s i w) :
    Calls Try.prog 23 #[.pointer (some ⟨b, 0, none⟩)] w fun e w' => e = .returned (.bool (decide (i < s.size))) ∧ Adv b s i w w' := by
  obtain ⟨c0, c1, c2, c3⟩ := h.cells
  have H := Lib.hid h; clear h c1 c2
  go_enter Try.func23, Try.ntmps23
  go_wp2_with fail
  go_quiet (fail)
  go_wp2
  go_ret
  exact ⟨rfl, adv_drewN H.out nq⟩
theorem more_yes (b : Nat) (s : ByteArray) (i : Nat) (w : World) (h : Rd b s i w) (hi : i < s.size) :
    Calls Try.prog 23 #[.pointer (some ⟨b, 0, none⟩)] w fun e w' => e = .returned (.bool true) ∧ Adv b s i w w' := by
  have := more_any b s i w h; rw [show decide (i < s.size) = true by simpa using hi] at this; exact this
theorem more_no (b : Nat) (s : ByteArray) (i : Nat) (w : World) (h : Rd b s i w) (hi : s.size ≤ i) :
    Calls Try.prog 23 #[.pointer (some ⟨b, 0, none⟩)] w fun e w' => e = .returned (.bool false) ∧ Adv b s i w w' := by
  have := more_any b s i w h; rw [show decide (i < s.size) = false by simpa using hi] at this; exact this
set_option maxHeartbeats 1000000 in
theorem here_any (b : Nat) (s : ByteArray) (i : Nat) (w : World) (h : Rd b s i w) (hi : i < s.size) :
    Calls Try.prog 32 #[.pointer (some ⟨b, 0, none⟩)] w fun e w' => e = .returned (.int .u8 (byteAt s i)) ∧ Adv b s i w w' := by
  obtain ⟨c0, c1, c2, c3⟩ := h.cells
  have hb := byteAt_eq s i hi
  have HB := Lib.hid hb
  have H := Lib.hid h; clear h c1 c2 hb
  have h0 : (0 : Int) ≤ (i : Int) := by omega
  have h1 : (i : Int) < (s.size : Int) := by omega
  go_enter Try.func32, Try.ntmps32
  go_wp2_with fail
  go_quiet (fail)
  go_wp2
  go_ret
  exact ⟨by rw [← HB.out] <;> rfl, adv_drewN H.out nq⟩
theorem step_nl {b : Nat} {s : ByteArray} {i : Nat} {w : World} (h : Rd b s i w) (h10 : byteAt s i = 10) :
    Rd b s (i + 1) ((((w.setCell ⟨b, 1, none⟩ (.int .i64 ((lineA (byteAt s) i : Int) + 1))).setCell ⟨b, 2, none⟩ (.int .i64 0)).setCell ⟨b, 0, none⟩ (.int .i64 ((i : Int) + 1))).setCell ⟨b, 2, none⟩ (.int .i64 1)) := by
  have a1 := heap_setCell_same w b 1 _ _ (.int .i64 ((lineA (byteAt s) i : Int) + 1)) h
  have a2 := heap_setCell_same _ b 2 _ _ (.int .i64 0) a1
  have a3 := heap_setCell_same _ b 0 _ _ (.int .i64 ((i : Int) + 1)) a2
  have a4 := heap_setCell_same _ b 2 _ _ (.int .i64 1) a3
  unfold Rd
  rw [a4, lineA, colA, if_pos h10, if_pos h10]
  rfl
theorem step_on {b : Nat} {s : ByteArray} {i : Nat} {w : World} (h : Rd b s i w) (h10 : ¬ byteAt s i = 10) :
    Rd b s (i + 1) ((w.setCell ⟨b, 0, none⟩ (.int .i64 ((i : Int) + 1))).setCell ⟨b, 2, none⟩ (.int .i64 ((colA (byteAt s) i : Int) + 1))) := by
  have a1 := heap_setCell_same w b 0 _ _ (.int .i64 ((i : Int) + 1)) h
  have a2 := heap_setCell_same _ b 2 _ _ (.int .i64 ((colA (byteAt s) i : Int) + 1)) a1
  unfold Rd
  rw [a2, lineA, colA, if_neg h10, if_neg h10]
  rfl
set_option maxHeartbeats 1000000 in
theorem step_any (b : Nat) (s : ByteArray) (i : Nat) (w : World) (h : Rd b s i w) (hi : i < s.size) (hs : s.size ≤ 100000) :
    Calls Try.prog 28 #[.pointer (some ⟨b, 0, none⟩)] w fun e w' => e = .returned (.tuple #[]) ∧ Adv b s (i + 1) w w' := by
  have hl := lineA_le (byteAt s) i
  have hc := colA_le (byteAt s) i
  by_cases h10 : byteAt s i = 10
  · have ht : ((byteAt s i : Int) == 10) = true := by simp; omega
    have H10 := Lib.hid h10; clear h10
    go_enter Try.func28, Try.ntmps28
    go_wp2_with (go_at_call 32; refine (here_any b s i w h hi).mono ?_; rintro e w1 ⟨rfl, h1⟩; obtain ⟨c0, c1, c2, c3⟩ := h1.2.cells; have f0 := h1.2.free 0; have f1 := h1.2.free 1; have f2 := h1.2.free 2)
    go_end0
    exact ⟨rfl, (((h1.1.trans (grown_set _ _ _)).trans (grown_set _ _ _)).trans (grown_set _ _ _)).trans (grown_set _ _ _), step_nl h1.2 H10.out⟩
  · have ht : ((byteAt s i : Int) == 10) = false := by simp; omega
    have H10 := Lib.hid h10; clear h10
    go_enter Try.func28, Try.ntmps28
    go_wp2_with (go_at_call 32; refine (here_any b s i w h hi).mono ?_; rintro e w1 ⟨rfl, h1⟩; obtain ⟨c0, c1, c2, c3⟩ := h1.2.cells; have f0 := h1.2.free 0; have f1 := h1.2.free 1; have f2 := h1.2.free 2)
    go_end0
    exact ⟨rfl, (h1.1.trans (grown_set _ _ _)).trans (grown_set _ _ _), step_on h1.2 H10.out⟩
end Go.Proofs.Ytaghoicmfpndbaa
