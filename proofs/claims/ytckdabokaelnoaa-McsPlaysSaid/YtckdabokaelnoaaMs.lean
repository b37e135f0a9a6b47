/- A lock that parties wait for in a row: who there is, a party's state, the beginning of a call. -/
import Derived.Test.YtckdabokaelnoaaMv
import Derived.Deep.DeepCutAuto
namespace Go.Proofs.Ytckdabokaelnoaa
open Go.RowKit

theorem ret_int {k : IntKind} {a c : Int} (h : a = c) : Ending.returned (.int k a) = .returned (.int k c) := by rw [h]
abbrev OneB (b : Nat) : Nat → Prop := fun j => j = b
section
variable {b : Nat} {D : Lk} {w : World}
set_option maxHeartbeats 1000000 in
theorem mis_any (k : Int) (h : LkM b D w) : Calls Try.prog 87 #[.pointer (some ⟨b, 0, none⟩), .int .i64 k] w fun e w' => e = .returned (.bool (decide (isN D k))) ∧ w = w' := by
  have c := h.n
  clear h
  by_cases h0 : k < 0
  · rw [show decide (isN D k) = false from decide_eq_false (by unfold isN; omega)]
    have t : ¬ 0 ≤ k := by omega
    go_enter Try.func87, Try.ntmps87
    go_wp2
    go_ret
    exact ⟨rfl, rfl⟩
  · by_cases h1 : (D.n : Int) ≤ k
    · rw [show decide (isN D k) = false from decide_eq_false (by unfold isN; omega)]
      have t : 0 ≤ k := by omega
      have t2 : ¬ k < (D.n : Int) := by omega
      have t3 : decide (k < (D.n : Int)) = false := by simp; omega
      clear h0 h1
      go_enter Try.func87, Try.ntmps87
      go_wp2
      go_ret
      exact ⟨rfl, rfl⟩
    · obtain ⟨j, rfl⟩ : ∃ j : Nat, k = j := ⟨k.toNat, by omega⟩
      rw [show decide (isN D j) = true by simp [isN]; omega]
      have t : (0 : Int) ≤ (j : Int) := by omega
      have t2 : decide (j < D.n) = true := by simp; omega
      clear h0 h1
      go_enter Try.func87, Try.ntmps87
      go_wp2
      go_ret
      exact ⟨rfl, rfl⟩
theorem mis_nil (k : Int) : Calls Try.prog 87 #[.pointer none, .int .i64 k] w fun e w' => e = .returned (.bool false) ∧ w = w' := by
  go_enter Try.func87, Try.ntmps87
  go_wp2
  go_ret
  exact ⟨rfl, rfl⟩
set_option maxHeartbeats 1000000 in
theorem mstate_no {p : Option Addr} (k : Int) (hi : Calls Try.prog 87 #[.pointer p, .int .i64 k] w fun e w' => e = .returned (.bool false) ∧ w = w') :
    Calls Try.prog 47 #[.pointer p, .int .i64 k] w fun e w' => e = .returned (.int .i64 (-1)) ∧ w = w' := by
  have HI := Lib.hid hi
  clear hi
  go_enter Try.func47, Try.ntmps47
  go_wp2_with (first
    | (go_at_call 87; (with_reducible refine HI.out.mono ?_); rintro e wq ⟨rfl, rfl⟩))
  go_ret
  exact ⟨rfl, rfl⟩
set_option maxHeartbeats 1000000 in
theorem mstate_any (k : Int) (h : LkM b D w) (hn : Nice D) : Calls Try.prog 47 #[.pointer (some ⟨b, 0, none⟩), .int .i64 k] w fun e w' => e = .returned (.int .i64 (stI D k)) ∧ w = w' := by
  have hi := mis_any k h
  have n2 := hn.n2
  by_cases hc : isN D k
  · unfold stI
    rw [if_pos hc]
    rw [show decide (isN D k) = true by simpa using hc] at hi
    obtain ⟨j, rfl⟩ : ∃ j : Nat, k = j := ⟨k.toNat, by unfold isN at hc; omega⟩
    have hj : j < 16 := by unfold isN at hc; omega
    rw [Int.toNat_natCast]
    have c := h.st hj
    have k0 : (0 : Int) ≤ (j : Int) := by omega
    have k1 : (j : Int) < 16 := by omega
    have HI := Lib.hid hi
    clear h hi hc hn n2
    go_enter Try.func47, Try.ntmps47
    go_wp2_with (first
      | (go_at_call 87; (with_reducible refine HI.out.mono ?_); rintro e wq ⟨rfl, rfl⟩))
    go_ret
    exact ⟨rfl, rfl⟩
  · unfold stI
    rw [if_neg hc]
    rw [show decide (isN D k) = false by simpa using hc] at hi
    exact mstate_no k hi
/-- What a call on the lock does: a number, the lock behind it, all else as it was. -/
def Did (b : Nat) (w : World) (c : Int) (D' : Lk) (e : Ending) (w' : World) : Prop := e = .returned (.int .i64 c) ∧ LkM b D' w' ∧ But (OneB b) w w'
set_option maxRecDepth 100000 in
set_option maxHeartbeats 2000000 in
theorem beg_ok (j p q fr : Nat) (o : Int) (h : LkM b D w) (hn : Nice D) (hj : j < D.n) (hf : (D.cl j).st = fr) :
    Calls Try.prog 85 #[.pointer (some ⟨b, 0, none⟩), .int .i64 j, .int .i64 (fr : Nat), .agg #[.int .i64 (p : Nat), .int .i64 (q : Nat), .int .i64 o]] w (Did b w 0 { D with cl := updF D.cl j ⟨p, q, o⟩ }) := by
  have hS := mstate_any (j : Int) (h.but ((But.refl Nob w).alloc (.cells #[.int .i64 (p : Nat), .int .i64 (q : Nat), .int .i64 o] 141)) (fun x => x)) hn
  rw [show stI D j = (fr : Int) by unfold stI; rw [if_pos (by unfold isN; omega), Int.toNat_natCast, hf]] at hS
  have n2 := hn.n2
  have k0 : (0 : Int) ≤ (j : Int) := by omega
  have k1 : (j : Int) < 16 := by omega
  have hj16 : j < 16 := by omega
  have f1 : ((fr : Int) == -1) = false := by simp
  have hlt := h.lt
  have HS := Lib.hid hS; have H := Lib.hid h
  clear h hS hf hn
  go_enter Try.func85, Try.ntmps85
  go_wp2_with (first
    | (go_at_call 47; (with_reducible refine HS.out.mono ?_); rintro e wq ⟨rfl, rfl⟩))
  have cf := H.out.free
  obtain ⟨e0, e1, e2⟩ : (∃ v, w.cell? ⟨b, 33 + j * 3, none⟩ = some v) ∧ (∃ v, w.cell? ⟨b, 33 + j * 3 + 1, none⟩ = some v) ∧ (∃ v, w.cell? ⟨b, 33 + j * 3 + 2, none⟩ = some v) :=
    ⟨⟨_, H.out.st hj16⟩, ⟨_, H.out.sp hj16⟩, ⟨_, H.out.ot hj16⟩⟩
  obtain ⟨v0, e0⟩ := e0; obtain ⟨v1, e1⟩ := e1; obtain ⟨v2, e2⟩ := e2
  go_region
  go_wp2
  go_ret
  refine ⟨rfl, (H.out.sall (k := j) hj16 p q o).but (((But.refl Nob _).alloc _).drew) (fun x => x), ?_⟩
  exact (((((But.refl (OneB b) w).set ⟨b, 33 + j * 3, none⟩ _ (.inl rfl)).set ⟨b, 33 + j * 3 + 1, none⟩ _ (.inl rfl)).set ⟨b, 33 + j * 3 + 2, none⟩ _ (.inl rfl)).alloc _).drew
set_option maxRecDepth 100000 in
set_option maxHeartbeats 2000000 in
theorem beg_no (j p q fr : Nat) (o : Int) (h : LkM b D w) (hn : Nice D) (hj : j < D.n) (hf : (D.cl j).st ≠ fr) :
    Calls Try.prog 85 #[.pointer (some ⟨b, 0, none⟩), .int .i64 j, .int .i64 (fr : Nat), .agg #[.int .i64 (p : Nat), .int .i64 (q : Nat), .int .i64 o]] w fun e w' => e = .returned (.int .i64 5) ∧ But Nob w w' := by
  have hS := mstate_any (j : Int) (h.but ((But.refl Nob w).alloc (.cells #[.int .i64 (p : Nat), .int .i64 (q : Nat), .int .i64 o] 141)) (fun x => x)) hn
  rw [show stI D j = ((D.cl j).st : Int) by unfold stI; rw [if_pos (by unfold isN; omega), Int.toNat_natCast]] at hS
  have f1 : (((D.cl j).st : Int) == -1) = false := by simp
  have f2 : (((D.cl j).st : Int) == (fr : Int)) = false := by simp; omega
  have f3 : ((D.cl j).st == fr) = false := by simpa using hf
  have HS := Lib.hid hS
  clear h hS hf hn
  go_enter Try.func85, Try.ntmps85
  go_wp2_with (first
    | (go_at_call 47; (with_reducible refine HS.out.mono ?_); rintro e wq ⟨rfl, rfl⟩))
  go_ret
  exact ⟨rfl, (But.refl _ _).alloc _⟩
set_option maxRecDepth 100000 in
set_option maxHeartbeats 2000000 in
theorem beg_out {a : Option Addr} (k : Int) (p q fr : Nat) (o : Int) (hi : ∀ W, But Nob w W → Calls Try.prog 47 #[.pointer a, .int .i64 k] W fun e w' => e = .returned (.int .i64 (-1)) ∧ W = w') :
    Calls Try.prog 85 #[.pointer a, .int .i64 k, .int .i64 (fr : Nat), .agg #[.int .i64 (p : Nat), .int .i64 (q : Nat), .int .i64 o]] w fun e w' => e = .returned (.int .i64 1) ∧ But Nob w w' := by
  have HI := Lib.hid (hi _ ((But.refl Nob w).alloc (.cells #[.int .i64 (p : Nat), .int .i64 (q : Nat), .int .i64 o] 141)))
  clear hi
  go_enter Try.func85, Try.ntmps85
  go_wp2_with (first
    | (go_at_call 47; (with_reducible refine HI.out.mono ?_); rintro e wq ⟨rfl, rfl⟩))
  go_ret
  exact ⟨rfl, (But.refl _ _).alloc _⟩
theorem beg_any (k : Int) (fr q : Nat) (h : LkM b D w) (hn : Nice D) :
    Calls Try.prog 85 #[.pointer (some ⟨b, 0, none⟩), .int .i64 k, .int .i64 (fr : Nat), .agg #[.int .i64 ((fr + 1 : Nat) : Int), .int .i64 (q : Nat), .int .i64 0]] w (Did b w (begE D k fr) (begT D k fr q)) := by
  unfold begE begT
  by_cases hc : isN D k
  · rw [if_pos hc]
    obtain ⟨j, rfl⟩ : ∃ j : Nat, k = j := ⟨k.toNat, by unfold isN at hc; omega⟩
    have hj : j < D.n := by unfold isN at hc; omega
    rw [Int.toNat_natCast]
    by_cases hf : (D.cl j).st = fr
    · rw [if_pos hf, if_pos ⟨hc, hf⟩]
      exact beg_ok j (fr + 1) q fr 0 h hn hj hf
    · rw [if_neg hf, if_neg (fun x => hf x.2)]
      exact (beg_no j (fr + 1) q fr 0 h hn hj hf).mono fun e w' ⟨he, hb⟩ => ⟨he, h.but hb fun x => x, hb.nob⟩
  · rw [if_neg hc, if_neg (fun x => hc x.1)]
    exact (beg_out k (fr + 1) q fr 0 (fun W hW => by have := mstate_any k (h.but hW fun x => x) hn; unfold stI at this; rw [if_neg hc] at this; exact this)).mono fun e w' ⟨he, hb⟩ => ⟨he, h.but hb fun x => x, hb.nob⟩
set_option maxHeartbeats 1000000 in
theorem mtake_any (k : Int) (h : LkM b D w) (hn : Nice D) : Calls Try.prog 42 #[.pointer (some ⟨b, 0, none⟩), .int .i64 k] w (Did b w (begE D k 0) (begT D k 0 0)) := by
  have HB := Lib.hid (beg_any k 0 0 h hn)
  clear h hn
  go_enter Try.func42, Try.ntmps42
  go_wp2_with fail
  refine HB.out.mono ?_
  rintro e w' ⟨rfl, h1, h2⟩
  have H1 := Lib.hid h1; have H2 := Lib.hid h2; clear h1 h2 HB
  go_wp2
  go_ret
  exact ⟨rfl, H1.out, H2.out⟩
set_option maxHeartbeats 1000000 in
theorem mgive_any (k : Int) (h : LkM b D w) (hn : Nice D) : Calls Try.prog 44 #[.pointer (some ⟨b, 0, none⟩), .int .i64 k] w (Did b w (begE D k 2) (begT D k 2 5)) := by
  have HB := Lib.hid (beg_any k 2 5 h hn)
  clear h hn
  go_enter Try.func44, Try.ntmps44
  go_wp2_with fail
  refine HB.out.mono ?_
  rintro e w' ⟨rfl, h1, h2⟩
  have H1 := Lib.hid h1; have H2 := Lib.hid h2; clear h1 h2 HB
  go_wp2
  go_ret
  exact ⟨rfl, H1.out, H2.out⟩
theorem mbeg_nil (k : Int) (p q fr : Nat) (o : Int) : Calls Try.prog 85 #[.pointer none, .int .i64 k, .int .i64 (fr : Nat), .agg #[.int .i64 (p : Nat), .int .i64 (q : Nat), .int .i64 o]] w fun e w' => e = .returned (.int .i64 1) ∧ But Nob w w' :=
  beg_out k p q fr o fun _ _ => mstate_no k (mis_nil k)
set_option maxHeartbeats 1000000 in
theorem mtake_nil (k : Int) : Calls Try.prog 42 #[.pointer none, .int .i64 k] w fun e w' => e = .returned (.int .i64 1) ∧ But Nob w w' := by
  have HB := Lib.hid (mbeg_nil (w := w) k 1 0 0 0)
  go_enter Try.func42, Try.ntmps42
  go_wp2_with fail
  refine HB.out.mono ?_
  rintro e w' ⟨rfl, h1⟩
  have H1 := Lib.hid h1; clear h1 HB
  go_wp2
  go_ret
  exact ⟨rfl, H1.out⟩
set_option maxHeartbeats 1000000 in
theorem mgive_nil (k : Int) : Calls Try.prog 44 #[.pointer none, .int .i64 k] w fun e w' => e = .returned (.int .i64 1) ∧ But Nob w w' := by
  have HB := Lib.hid (mbeg_nil (w := w) k 3 5 2 0)
  go_enter Try.func44, Try.ntmps44
  go_wp2_with fail
  refine HB.out.mono ?_
  rintro e w' ⟨rfl, h1⟩
  have H1 := Lib.hid h1; clear h1 HB
  go_wp2
  go_ret
  exact ⟨rfl, H1.out⟩
end
end Go.Proofs.Ytckdabokaelnoaa
