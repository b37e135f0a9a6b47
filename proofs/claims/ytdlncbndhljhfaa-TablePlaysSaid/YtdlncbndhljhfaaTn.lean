/- A table that there is not (layer 12). -/
import Derived.Test.YtdlncbndhljhfaaTg
namespace Go.Proofs.Ytdlncbndhljhfaa
open Go.RowKit

set_option maxRecDepth 100000 in
set_option maxHeartbeats 4000000 in
theorem tget_nil (i : Int) (w : World) : Calls Try.prog 22 #[.pointer none, .int .i64 i] w (GotB w.heap.size (.tuple #[.agg zT.toArray, .bool false]) w) := by
  have hB : Below w.heap.size w (w.alloc (.cells zT.toArray 38)) := (Below.refl _ _).alloc (Nat.le_refl _) _
  have HB := Lib.hid hB
  have HH := Lib.hid (fun W => has_nil i W)
  have hl := Lib.hid (loadVar_task (BT.new w zT) rfl)
  clear hB
  go_enter Try.func22, Try.ntmps22
  go_upto_region 2 with (go_at_call 49; (with_reducible refine (HH.out _).mono ?_); rintro e wq ⟨rfl, rfl⟩)
  apply wp_region_lit
  refine build_op rfl _ _ rfl (.agg zT.toArray) (by kernel_rfl) ?_
  have h29 : zT.toArray.size = 29 := rfl
  have h1 : zT.toArray.all (·.oneCell') = true := all_oneCell_toArray zT_ok.one
  generalize zT = S at *
  refine st_new rfl (.tmp 4) (.tmp 10) rfl w.heap.size rfl _ S.toArray rfl rfl (infoT.trans (congrArg some h29.symm)) h29.symm h1 ?_
  go_wp2_with fail
  have hl := hl.out
  refine bodyPost_ret (v := .tuple #[.agg S.toArray, .bool false]) (by simp [results, Try.results22, asAddr, hl]) rfl ?_
  exact ⟨rfl, HB.out⟩
set_option maxHeartbeats 2000000 in
theorem tset_none {p : Option Addr} (i : Int) (n : Nat) (cs : List Value) (w : World) (hi : inB i n = false)
    (hL : ∀ W, Below w.heap.size w W → Calls Try.prog 23 #[.pointer p] W fun e w' => e = .returned (.int .i64 n) ∧ W = w') :
    Calls Try.prog 20 #[.pointer p, .int .i64 i, .agg cs.toArray] w (GotB w.heap.size (.int .i64 3) w) := by
  have hB : Below w.heap.size w (w.alloc (.cells cs.toArray 38)) := (Below.refl _ _).alloc (Nat.le_refl _) _
  have H := has_of i n (hL _ hB)
  rw [hi] at H
  have HH := Lib.hid H; have HB := Lib.hid hB
  clear H hB hL
  go_enter Try.func20, Try.ntmps20
  go_wp2_with (go_at_call 49; (with_reducible refine HH.out.mono ?_); rintro e wq ⟨rfl, rfl⟩)
  go_ret
  exact ⟨rfl, HB.out⟩
set_option maxHeartbeats 2000000 in
theorem joined_none {p : Option Addr} (i : Int) (w : World) (H : Calls Try.prog 49 #[.pointer p, .int .i64 i] w fun e w' => e = .returned (.bool false) ∧ w = w') :
    Calls Try.prog 24 #[.pointer p, .int .i64 i] w fun e w' => e = .returned (.slice none 0 0) ∧ w = w' := by
  have HH := Lib.hid H
  clear H
  go_enter Try.func24, Try.ntmps24
  go_wp2_with (go_at_call 49; (with_reducible refine HH.out.mono ?_); rintro e wq ⟨rfl, rfl⟩)
  go_ret
  exact ⟨rfl, rfl⟩
set_option maxHeartbeats 2000000 in
theorem tin_nil (s o : Int) (w : World) : Calls Try.prog 25 #[.pointer none, .int .i64 s, .int .i64 o] w fun e w' => e = .returned (.slice none 0 0) ∧ w = w' := by
  have HL := tlen_nil w
  rw [show (((0 : Nat) : Int)) = 0 from rfl] at HL
  have HL := Lib.hid HL
  go_enter Try.func25, Try.ntmps25
  go_wp2_with (go_at_call 23; (with_reducible refine HL.out.mono ?_); rintro e wq ⟨rfl, rfl⟩)
  go_loopw [7, 12] (fun l i wr => l = .slice none 0 0 ∧ i = .int .i64 0 ∧ w = wr) (fun _ _ _ => 0)
  case atStart => exact ⟨rfl, rfl, rfl⟩
  case round =>
    obtain ⟨rfl, rfl, rfl⟩ := hrel
    go_wp2_with fail
    go_ret
    exact ⟨rfl, rfl⟩
set_option maxHeartbeats 2000000 in
theorem tcount_nil (s : Int) (w : World) : Calls Try.prog 26 #[.pointer none, .int .i64 s] w fun e w' => e = .returned (.int .i64 0) ∧ w = w' := by
  have HL := tlen_nil w
  rw [show (((0 : Nat) : Int)) = 0 from rfl] at HL
  have HL := Lib.hid HL
  go_enter Try.func26, Try.ntmps26
  go_wp2_with (go_at_call 23; (with_reducible refine HL.out.mono ?_); rintro e wq ⟨rfl, rfl⟩)
  go_loopw [5, 9] (fun l i wr => l = .int .i64 0 ∧ i = .int .i64 0 ∧ w = wr) (fun _ _ _ => 0)
  case atStart => exact ⟨rfl, rfl, rfl⟩
  case round =>
    obtain ⟨rfl, rfl, rfl⟩ := hrel
    go_wp2_with fail
    go_ret
    exact ⟨rfl, rfl⟩
end Go.Proofs.Ytdlncbndhljhfaa
