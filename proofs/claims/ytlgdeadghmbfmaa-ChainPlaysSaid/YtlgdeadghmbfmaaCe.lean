/- Each of a chain; the calls on none. -/
import Derived.Test.YtlgdeadghmbfmaaCl
import Derived.Test.YtlgdeadghmbfmaaRa
namespace Go.Proofs.Ytlgdeadghmbfmaa
open Go.RowKit Go.Shelf
attribute [local go_sem] Oper.semAt_some

theorem func1_nil (k : Nat) (a b : Array Value) (w : World) : (binOp .eql 81 (.func (.func k) a b) Value.nilFunc).run Try.prog w = .ok (.bool false) w := by
  have hu := Try.underlying81
  have h : ∀ d : Nat, (Op.equalIn (d + 1) 81 (.func (.func k) a b) Value.nilFunc).run Try.prog w = .ok false w := fun d => by simp [Op.equalIn, run_underlying hu]
  simp only [binOp]
  simp [Op.equal, Op.maxDepth, h 9999]
section
variable {w : World}
set_option maxHeartbeats 1000000 in
theorem in_nil (x : Int) : Calls Try.prog 51 #[.pointer none, .int .i64 x] w fun e w' => e = .returned (.tuple #[.int .i64 0, .bool false]) ∧ w = w' := by
  have HF := Lib.hid (isNode_nil x (w := w))
  go_enter Try.func51, Try.ntmps51
  go_wp2_with (first
    | (go_at_call 86; (with_reducible refine HF.out.mono ?_); rintro e wq ⟨rfl, rfl⟩))
  go_ret2
  exact ⟨rfl, rfl⟩
set_option maxHeartbeats 1000000 in
theorem next_nil (x : Int) : Calls Try.prog 53 #[.pointer none, .int .i64 x] w fun e w' => e = .returned (.tuple #[.int .i64 0, .bool false]) ∧ w = w' := by
  have HF := Lib.hid (in_nil x (w := w))
  go_enter Try.func53, Try.ntmps53
  go_wp2_with (first
    | (go_at_call 51; (with_reducible refine HF.out.mono ?_); rintro e wq ⟨rfl, rfl⟩))
  go_ret2
  exact ⟨rfl, rfl⟩
set_option maxHeartbeats 1000000 in
theorem lenc_nil (k : Int) : Calls Try.prog 50 #[.pointer none, .int .i64 k] w fun e w' => e = .returned (.int .i64 0) ∧ w = w' := by
  have HF := Lib.hid (isList_nil k (w := w))
  go_enter Try.func50, Try.ntmps50
  go_wp2_with (first
    | (go_at_call 85; (with_reducible refine HF.out.mono ?_); rintro e wq ⟨rfl, rfl⟩))
  go_ret
  exact ⟨rfl, rfl⟩
set_option maxHeartbeats 1000000 in
theorem all_none {p : Option Addr} (k : Int) (hf : Calls Try.prog 52 #[.pointer p, .int .i64 k] w fun e w' => e = .returned (.tuple #[.int .i64 0, .bool false]) ∧ w = w') : Calls Try.prog 88 #[.pointer p, .int .i64 k] w fun e w' => e = .returned (.slice none 0 0) ∧ w = w' := by
  have HF := Lib.hid hf
  clear hf
  go_enter Try.func88, Try.ntmps88
  go_wp2_with (first
    | (go_at_call 52; (with_reducible refine HF.out.mono ?_); rintro e wq ⟨rfl, rfl⟩))
  go_loopw [5, 6, 7] (fun x y z wr => x = .slice none 0 0 ∧ y = .int .i64 0 ∧ z = .bool false ∧ w = wr) (fun _ _ _ _ => 0)
  case atStart => exact ⟨rfl, rfl, rfl, rfl⟩
  case round =>
    obtain ⟨rfl, rfl, rfl, rfl⟩ := hrel
    go_wp2_with fail
    go_ret
    exact ⟨rfl, rfl⟩
end
set_option maxHeartbeats 1000000 in
theorem eachc_any (p : Option Addr) (k : Int) (w : World) :
    Calls Try.prog 47 #[.pointer p, .int .i64 k] w fun e w' => e = .returned (.func (.func 87) #[] #[.pointer (some ⟨w.heap.size, 0, none⟩), .pointer (some ⟨w.heap.size + 1, 0, none⟩)]) ∧
      (w.alloc (.cells #[.pointer p] 67)).alloc (.cells #[.int .i64 k] 3) = w' := by
  have h := hmf
  go_enter Try.func47, Try.ntmps47
  go_wp2
  go_ret
  exact ⟨rfl, rfl⟩
/-- A row of numbers in a slice of its own. -/
def RowQ (l : List Int) (w : World) (e : Ending) (w' : World) : Prop :=
  ∃ A L c, e = .returned (.slice A L c) ∧ L = l.length ∧ L ≤ 4096 ∧
    (∀ j, j < L → ∃ g2 S, A = some ⟨g2, 0, none⟩ ∧ w.heap.size ≤ g2 ∧ Blk w' g2 3 S ∧ S[j]? = some (.int .i64 (l[j]?.getD 0))) ∧ But Nob w w'
def enc1 (x : Int) : Array Value := #[.int .i64 x]
theorem take_snoc {l : List Int} {k : Nat} (h : k < l.length) : l.take k ++ [l[k]?.getD 0] = l.take (k + 1) := by
  rw [List.take_add_one, List.getElem?_eq_getElem h]; rfl
set_option maxRecDepth 100000 in
set_option maxHeartbeats 4000000 in
theorem eachc_stops (n : Nat) (hn : 1 ≤ n) (X : Nat → Prop) (p : Option Addr) (k0 : Int) (l : List Int) (B0 B1 : Nat) (w : World) (hX : ∀ k, X k → k < w.heap.size)
    (h0 : Blk w B0 67 #[.pointer p]) (h1 : Blk w B1 3 #[.int .i64 k0])
    (hall : ∀ W, But Nob w W → Calls Try.prog 88 #[.pointer p, .int .i64 k0] W (RowQ l W)) :
    SeqStopsK Fence.wide n Try.prog 87 #[.pointer (some ⟨B0, 0, none⟩), .pointer (some ⟨B1, 0, none⟩)] enc1 (ButC X) (fun ys => ys = l)
      (fun pre => ∃ k, k ≤ l.length ∧ pre = l.take k) l.length w := fun l0 J Jx W hW hJ _ hY hJ0 => by
  have hW' : But Nob w W := But.of_below hW
  have g0 := (h0.but hW' id).cell 0; have g1 := (h1.but hW' id).cell 0
  simp only [List.getElem?_toArray, List.getElem?_cons_zero] at g0 g1
  have HB := Lib.hid (hall W hW')
  have hsz := hW.size
  clear h0 h1 hW hW' hall
  refine callsIn_of_wp Try.func87 rfl trivial ?_ rfl
  simp only [Try.ntmps87, List.size_toArray, List.length_cons, List.length_nil, Nat.reduceAdd, Nat.reduceSub, Array.replicate_succ, Array.replicate_zero, List.push_toArray, List.append_toArray, List.nil_append, List.cons_append]
  gi_wp2_with fail
  refine ⟨trivial, ?_⟩
  refine (callsIn_wide.2 HB.out).mono ?_
  rintro e W1 ⟨A, L, c, rfl, hL, hL4, hrow, hB1⟩
  have hJ1 : J [] W1 := hJ [] W W1 none hJ0 ⟨hB1.os, hB1.tape, hB1.output, hB1.size, fun k hk _ => hB1.block k hk id⟩ (fun r e => by cases e)
  have hsz1 := hB1.size
  have HL := Lib.hid hL; have HROW := Lib.hid hrow; clear hL hrow hB1 g0 g1 HB hJ hJ0
  gi_wp2_with fail
  gi_loopw [10, 5] (fun i _ wr => ∃ k : Nat, k ≤ L ∧ i = .int .i64 k ∧ J (l.take k) wr ∧ ButC X W1 wr) (fun i _ _ => L - (intOf i).toNat)
  case atStart => exact ⟨0, Nat.zero_le _, rfl, hJ1, ButC.refl _ _⟩
  case round =>
    obtain ⟨k, hk, rfl, hJs, hnx⟩ := hrel
    by_cases hlt : k < L
    · obtain ⟨g2, S, rfl, hg2, hS1, hS2⟩ := HROW.out k hlt
      have hS3 := hS1.butC hnx (fun x => by have := hX _ x; omega)
      have hc : wr.cell? ⟨g2, k, none⟩ = some (.int .i64 (l[k]?.getD 0)) := by rw [hS3.cell]; exact hS2
      have hlk : k < l.length := by rw [← HL.out]; exact hlt
      obtain ⟨fn, tmps, assign, body, hy, hR⟩ := hY _ (l[k]?.getD 0) wr hJs (by rw [List.length_take]; omega)
      dsimp only [enc1] at hy
      have k0 : (0 : Int) ≤ (k : Int) := by omega
      have k1 : (k : Int) < (L : Int) := by omega
      have HR := Lib.hid hR; have HLK := Lib.hid hlk; clear hR hS1 hS2 hS3 hJs hlk
      gi_wp2_with fail
      refine HR.out.mono ?_
      rintro e W3 (⟨rfl, hJ3, hk3⟩ | ⟨rfl, hJx3⟩)
      · gi_wp2_with fail
        go_roundw
        case rel => exact ⟨k + 1, by omega, by go_num, by rw [← take_snoc HLK.out]; exact hJ3, hnx.trans hk3⟩
        case measure => simp [intOf]; omega
      · gi_wp2_with fail
        refine bodyPost_ret (results_none rfl _ _ _) rfl ?_
        exact ⟨⟨_, rfl⟩, .inr ⟨_, ⟨k + 1, by rw [← HL.out]; omega, take_snoc HLK.out⟩, hJx3⟩⟩
    · have hkL : k = L := by omega
      have t : ¬ (k : Int) < (L : Int) := by omega
      have HK := Lib.hid hkL; clear hkL
      gi_wp2_with fail
      go_end0
      exact ⟨⟨_, rfl⟩, .inl (by rw [HK.out, HL.out, List.take_length] at hJs; exact hJs)⟩
end Go.Proofs.Ytlgdeadghmbfmaa
