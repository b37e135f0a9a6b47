/- A shared row: who there is, who is in a call, how many there are, a slot, the race at the top, the beginning of a call. -/
import Derived.Test.YtfejimlfnelhhaaSv
import Derived.Deep.DeepCutAuto
namespace Go.Proofs.Ytfejimlfnelhhaa
open Go.RowKit

theorem ret_int {k : IntKind} {a c : Int} (h : a = c) : Ending.returned (.int k a) = .returned (.int k c) := by rw [h]
def inS (k : Int) (m : Nat) : Bool := decide (0 ≤ k) && decide (k < m)
theorem inS_yes {k m : Nat} (h : k < m) : inS k m = true := by simp [inS]; omega
theorem inS_no {k : Int} {m : Nat} (h : k < 0 ∨ (m : Int) ≤ k) : inS k m = false := by simp [inS]; omega
section
variable {b : Nat} {D : Dq} {w : World}
set_option maxHeartbeats 1000000 in
theorem is_any (k : Int) (h : DqV b D w) : Calls Try.prog 40 #[.pointer (some ⟨b, 0, none⟩), .int .i64 k] w fun e w' => e = .returned (.bool (inS k (D.th + 1))) ∧ w = w' := by
  have c := h.th
  clear h
  by_cases h0 : k < 0
  · rw [inS_no (.inl h0)]
    have t : ¬ 0 ≤ k := by omega
    go_enter Try.func40, Try.ntmps40
    go_wp2
    go_ret
    exact ⟨rfl, rfl⟩
  · by_cases h1 : ((D.th + 1 : Nat) : Int) ≤ k
    · rw [inS_no (.inr h1)]
      have t : 0 ≤ k := by omega
      have t2 : ¬ k ≤ (D.th : Int) := by omega
      have t3 : decide (k ≤ (D.th : Int)) = false := by simp; omega
      clear h0 h1
      go_enter Try.func40, Try.ntmps40
      go_wp2
      go_ret
      exact ⟨rfl, rfl⟩
    · obtain ⟨j, rfl⟩ : ∃ j : Nat, k = j := ⟨k.toNat, by omega⟩
      rw [inS_yes (by omega)]
      have t : (0 : Int) ≤ (j : Int) := by omega
      have t2 : decide (j ≤ D.th) = true := by simp; omega
      clear h0 h1
      go_enter Try.func40, Try.ntmps40
      go_wp2
      go_ret
      exact ⟨rfl, rfl⟩
theorem is_nil (k : Int) : Calls Try.prog 40 #[.pointer none, .int .i64 k] w fun e w' => e = .returned (.bool false) ∧ w = w' := by
  go_enter Try.func40, Try.ntmps40
  go_wp2
  go_ret
  exact ⟨rfl, rfl⟩
def busyB (D : Dq) (k : Nat) : Bool := !((D.cl k).nx == 0)
set_option maxHeartbeats 1000000 in
theorem busy_in (k : Nat) (h : DqV b D w) (hk : k ≤ D.th) (ht : D.th ≤ 8) : Calls Try.prog 13 #[.pointer (some ⟨b, 0, none⟩), .int .i64 k] w fun e w' => e = .returned (.bool (busyB D k)) ∧ w = w' := by
  have hi := is_any (k : Int) h
  rw [inS_yes (by omega)] at hi
  have c := h.c0 (k := k) (by omega)
  have k0 : (0 : Int) ≤ (k : Int) := by omega
  have k1 : (k : Int) < 9 := by omega
  have HI := Lib.hid hi
  clear h hi
  cases hb : busyB D k with
  | true =>
    have t : ((((D.cl k).nx : Nat) : Int) != 0) = true := by simp [busyB] at hb ⊢; omega
    clear hb
    go_enter Try.func13, Try.ntmps13
    go_wp2_with (first
      | (go_at_call 40; (with_reducible refine HI.out.mono ?_); rintro e wq ⟨rfl, rfl⟩))
    go_ret
    exact ⟨rfl, rfl⟩
  | false =>
    have t0 : (D.cl k).nx = 0 := by simp [busyB] at hb; omega
    rw [t0] at c
    clear hb
    go_enter Try.func13, Try.ntmps13
    go_wp2_with (first
      | (go_at_call 40; (with_reducible refine HI.out.mono ?_); rintro e wq ⟨rfl, rfl⟩))
    go_ret
    exact ⟨rfl, rfl⟩
set_option maxHeartbeats 1000000 in
theorem busy_no {p : Option Addr} (k : Int) (hi : Calls Try.prog 40 #[.pointer p, .int .i64 k] w fun e w' => e = .returned (.bool false) ∧ w = w') :
    Calls Try.prog 13 #[.pointer p, .int .i64 k] w fun e w' => e = .returned (.bool false) ∧ w = w' := by
  have HI := Lib.hid hi
  clear hi
  go_enter Try.func13, Try.ntmps13
  go_wp2_with (first
    | (go_at_call 40; (with_reducible refine HI.out.mono ?_); rintro e wq ⟨rfl, rfl⟩))
  go_ret
  exact ⟨rfl, rfl⟩
set_option maxHeartbeats 1000000 in
theorem dlen_any (h : DqV b D w) (h1 : -1 ≤ D.bot) (h2 : D.bot ≤ 1000000) (h3 : 0 ≤ D.top) (h4 : D.top ≤ 1000000) : Calls Try.prog 12 #[.pointer (some ⟨b, 0, none⟩)] w fun e w' => e = .returned (.int .i64 (max (D.bot - D.top) 0)) ∧ ∃ n, w' = w.drewN n := by
  have c0 := h.top; have c1 := h.bot
  have q : IntKind.i64.wrap (D.bot - D.top) = D.bot - D.top := IntWalk.i64_in _ (by omega)
  clear h
  go_enter Try.func12, Try.ntmps12
  go_wp2
  go_region
  go_wp2
  all_goals
    go_ret
    exact ⟨ret_int (by omega), 1, rfl⟩
theorem dlen_nil : Calls Try.prog 12 #[.pointer none] w fun e w' => e = .returned (.int .i64 0) ∧ w = w' := by
  go_enter Try.func12, Try.ntmps12
  go_wp2
  go_ret
  exact ⟨rfl, rfl⟩
set_option maxHeartbeats 1000000 in
theorem slot_any (n : Nat) (h : DqV b D w) (hr : 1 ≤ D.room) (hr2 : D.room ≤ 64) (hn : n ≤ 1000000) : Calls Try.prog 47 #[.pointer (some ⟨b, 0, none⟩), .int .i64 n] w fun e w' => e = .returned (.pointer (some ⟨b, 2 + n % D.room, none⟩)) ∧ ∃ q, w' = w.drewN q := by
  have c := h.room
  have m := Nat.mod_lt n hr
  obtain ⟨r, hq⟩ : ∃ r, r = n % D.room := ⟨_, rfl⟩
  have q1 : (n : Int).tmod (D.room : Int) = (r : Int) := by rw [hq, Int.tmod_eq_emod_of_nonneg (by omega)]; rfl
  have q2 : (n : Int) % (D.room : Int) = (r : Int) := by rw [hq]; rfl
  rw [← hq] at m ⊢
  have r0 : ¬ (D.room : Int) = 0 := by omega
  have r1 : ((D.room : Int) == 0) = false := by simp; omega
  have i0 : (0 : Int) ≤ (r : Int) := by omega
  have i1 : (r : Int) < 64 := by omega
  clear hq hn
  clear h
  go_enter Try.func47, Try.ntmps47
  go_wp2
  go_quiet (fail)
  go_wp2
  go_ret
  exact ⟨rfl, _, rfl⟩
set_option maxHeartbeats 1000000 in
theorem win_yes (t : Int) (h : DqV b D w) (ht : D.top = t) (h0 : 0 ≤ t) (h1 : t ≤ 1000000) : Calls Try.prog 48 #[.pointer (some ⟨b, 0, none⟩), .int .i64 t] w fun e w' => e = .returned (.bool true) ∧ w' = w.setCell ⟨b, 0, none⟩ (.int .i64 (t + 1)) := by
  have c := h.top
  have f := h.free 0
  rw [ht] at c
  have q : IntKind.i64.wrap (t + 1) = t + 1 := IntWalk.i64_in _ (by omega)
  have r : (t != t) = false := by simp
  clear h ht
  go_enter Try.func48, Try.ntmps48
  go_wp2
  go_ret
  exact ⟨rfl, rfl⟩
theorem win_no (t : Int) (h : DqV b D w) (ht : D.top ≠ t) : Calls Try.prog 48 #[.pointer (some ⟨b, 0, none⟩), .int .i64 t] w fun e w' => e = .returned (.bool false) ∧ w = w' := by
  have c := h.top
  have r : (D.top != t) = true := by simpa using ht
  clear h
  go_enter Try.func48, Try.ntmps48
  go_wp2
  go_ret
  exact ⟨rfl, rfl⟩
set_option maxRecDepth 100000 in
set_option maxHeartbeats 2000000 in
theorem begin_ok (k n : Nat) (u t x : Int) (q : Bool) (h : DqV b D w) (hk : k ≤ D.th) (ht : D.th ≤ 8) (hn : (D.cl k).nx = 0) :
    Calls Try.prog 42 #[.pointer (some ⟨b, 0, none⟩), .int .i64 k, .agg #[.int .i64 n, .int .i64 u, .int .i64 t, .int .i64 x, .bool q]] w fun e w' => e = .returned (.int .i64 0) ∧ DqV b { D with cl := updC D.cl k ⟨n, u, t, x, q⟩ } w' ∧ But (fun j => j = b) w w' := by
  have hi := is_any (k : Int) (h.but ((But.refl Nob w).alloc (.cells #[.int .i64 n, .int .i64 u, .int .i64 t, .int .i64 x, .bool q] 74)) (fun x => x))
  have hbz := busy_in k (h.but ((But.refl Nob w).alloc (.cells #[.int .i64 n, .int .i64 u, .int .i64 t, .int .i64 x, .bool q] 74)) (fun x => x)) hk ht
  rw [inS_yes (by omega)] at hi
  rw [show busyB D k = false by simp [busyB, hn]] at hbz
  have k0 : (0 : Int) ≤ (k : Int) := by omega
  have k1 : (k : Int) < 9 := by omega
  have hlt := h.lt
  have HI := Lib.hid hi; have HB := Lib.hid hbz; have H := Lib.hid h; have HN := Lib.hid hn
  clear h hi hbz hn
  go_enter Try.func42, Try.ntmps42
  go_wp2_with (first
    | (go_at_call 40; (with_reducible refine HI.out.mono ?_); rintro e wq ⟨rfl, rfl⟩)
    | (go_at_call 13; (with_reducible refine HB.out.mono ?_); rintro e wq ⟨rfl, rfl⟩))
  have cf := H.out.free
  obtain ⟨e0, e1, e2, e3, e4⟩ : (∃ v, w.cell? ⟨b, 67 + k * 5, none⟩ = some v) ∧ (∃ v, w.cell? ⟨b, 67 + k * 5 + 1, none⟩ = some v) ∧ (∃ v, w.cell? ⟨b, 67 + k * 5 + 2, none⟩ = some v) ∧ (∃ v, w.cell? ⟨b, 67 + k * 5 + 3, none⟩ = some v) ∧ (∃ v, w.cell? ⟨b, 67 + k * 5 + 4, none⟩ = some v) :=
    ⟨⟨_, H.out.c0 (by omega)⟩, ⟨_, H.out.c1 (by omega)⟩, ⟨_, H.out.c2 (by omega)⟩, ⟨_, H.out.c3 (by omega)⟩, ⟨_, H.out.c4 (by omega)⟩⟩
  obtain ⟨v0, e0⟩ := e0; obtain ⟨v1, e1⟩ := e1; obtain ⟨v2, e2⟩ := e2; obtain ⟨v3, e3⟩ := e3; obtain ⟨v4, e4⟩ := e4
  go_region
  go_wp2
  go_ret
  refine ⟨rfl, (H.out.sall (k := k) (by omega) n u t x q).but (((But.refl Nob _).alloc _).drew) (fun x => x), ?_⟩
  exact (((((((But.refl (fun j => j = b) w).set ⟨b, 67 + k * 5, none⟩ _ (.inl rfl)).set ⟨b, 67 + k * 5 + 1, none⟩ _ (.inl rfl)).set ⟨b, 67 + k * 5 + 2, none⟩ _ (.inl rfl)).set ⟨b, 67 + k * 5 + 3, none⟩ _ (.inl rfl)).set ⟨b, 67 + k * 5 + 4, none⟩ _ (.inl rfl)).alloc _).drew
set_option maxRecDepth 100000 in
set_option maxHeartbeats 2000000 in
theorem begin_busy (k n : Nat) (u t x : Int) (q : Bool) (h : DqV b D w) (hk : k ≤ D.th) (ht : D.th ≤ 8) (hn : (D.cl k).nx ≠ 0) :
    Calls Try.prog 42 #[.pointer (some ⟨b, 0, none⟩), .int .i64 k, .agg #[.int .i64 n, .int .i64 u, .int .i64 t, .int .i64 x, .bool q]] w fun e w' => e = .returned (.int .i64 5) ∧ But Nob w w' := by
  have hi := is_any (k : Int) (h.but ((But.refl Nob w).alloc (.cells #[.int .i64 n, .int .i64 u, .int .i64 t, .int .i64 x, .bool q] 74)) (fun x => x))
  have hbz := busy_in k (h.but ((But.refl Nob w).alloc (.cells #[.int .i64 n, .int .i64 u, .int .i64 t, .int .i64 x, .bool q] 74)) (fun x => x)) hk ht
  rw [inS_yes (by omega)] at hi
  rw [show busyB D k = true by simp [busyB, hn]] at hbz
  have HI := Lib.hid hi; have HB := Lib.hid hbz
  clear h hi hbz hn
  go_enter Try.func42, Try.ntmps42
  go_wp2_with (first
    | (go_at_call 40; (with_reducible refine HI.out.mono ?_); rintro e wq ⟨rfl, rfl⟩)
    | (go_at_call 13; (with_reducible refine HB.out.mono ?_); rintro e wq ⟨rfl, rfl⟩))
  go_ret
  exact ⟨rfl, (But.refl _ _).alloc _⟩
set_option maxRecDepth 100000 in
set_option maxHeartbeats 2000000 in
theorem begin_out {p : Option Addr} (k : Int) (n : Nat) (u t x : Int) (q : Bool) (hi : ∀ W, But Nob w W → Calls Try.prog 40 #[.pointer p, .int .i64 k] W fun e w' => e = .returned (.bool false) ∧ W = w') :
    Calls Try.prog 42 #[.pointer p, .int .i64 k, .agg #[.int .i64 n, .int .i64 u, .int .i64 t, .int .i64 x, .bool q]] w fun e w' => e = .returned (.int .i64 1) ∧ But Nob w w' := by
  have HI := Lib.hid (hi _ ((But.refl Nob w).alloc (.cells #[.int .i64 n, .int .i64 u, .int .i64 t, .int .i64 x, .bool q] 74)))
  clear hi
  go_enter Try.func42, Try.ntmps42
  go_wp2_with (first
    | (go_at_call 40; (with_reducible refine HI.out.mono ?_); rintro e wq ⟨rfl, rfl⟩))
  go_ret
  exact ⟨rfl, (But.refl _ _).alloc _⟩
/-- Can that one begin a call: the code that is told, and the row behind it. -/
def beginE (D : Dq) (k : Int) : Int := if inS k (D.th + 1) = true then (if (D.cl k.toNat).nx = 0 then 0 else 5) else 1
def beginR (D : Dq) (k : Int) (n : Nat) (x : Int) : Dq := if inS k (D.th + 1) = true then (if (D.cl k.toNat).nx = 0 then beginD D k.toNat n x else D) else D
/-- What a call on the row does: a code, the row behind it, all else as it was. -/
def Did (b : Nat) (w : World) (c : Int) (D' : Dq) (e : Ending) (w' : World) : Prop := e = .returned (.int .i64 c) ∧ DqV b D' w' ∧ But (fun j => j = b) w w'
theorem begin_any (k : Int) (n : Nat) (x : Int) (h : DqV b D w) (ht : D.th ≤ 8) :
    Calls Try.prog 42 #[.pointer (some ⟨b, 0, none⟩), .int .i64 k, .agg #[.int .i64 n, .int .i64 0, .int .i64 0, .int .i64 x, .bool false]] w (Did b w (beginE D k) (beginR D k n x)) := by
  unfold beginE beginR
  cases hi : inS k (D.th + 1) with
  | false =>
    rw [if_neg (by simp), if_neg (by simp)]
    exact (begin_out k n 0 0 x false (fun W hW => by have := is_any k (h.but hW fun x => x); rw [hi] at this; exact this)).mono fun e w' ⟨he, hb⟩ => ⟨he, h.but hb fun x => x, hb.nob⟩
  | true =>
    rw [if_pos rfl, if_pos rfl]
    obtain ⟨j, rfl⟩ : ∃ j : Nat, k = j := ⟨k.toNat, by simp [inS] at hi; omega⟩
    have hj : j ≤ D.th := by simp [inS] at hi; omega
    rw [Int.toNat_natCast]
    by_cases hn : (D.cl j).nx = 0
    · rw [if_pos hn, if_pos hn]
      exact (begin_ok j n 0 0 x false h hj ht hn).mono fun e w' ⟨he, hd, hb⟩ => ⟨he, hd, hb⟩
    · rw [if_neg hn, if_neg hn]
      exact (begin_busy j n 0 0 x false h hj ht hn).mono fun e w' ⟨he, hb⟩ => ⟨he, h.but hb fun x => x, hb.nob⟩
set_option maxHeartbeats 1000000 in
theorem push_any (x : Int) (h : DqV b D w) (ht : D.th ≤ 8) : Calls Try.prog 18 #[.pointer (some ⟨b, 0, none⟩), .int .i64 x] w (Did b w (beginE D 0) (beginR D 0 1 x)) := by
  have HB := Lib.hid (begin_any 0 1 x h ht)
  clear h
  go_enter Try.func18, Try.ntmps18
  go_wp2_with fail
  refine HB.out.mono ?_
  rintro e w' ⟨rfl, h1, h2⟩
  have H1 := Lib.hid h1; have H2 := Lib.hid h2; clear h1 h2 HB
  go_wp2
  go_ret
  exact ⟨rfl, H1.out, H2.out⟩
set_option maxHeartbeats 1000000 in
theorem dpop_any (h : DqV b D w) (ht : D.th ≤ 8) : Calls Try.prog 37 #[.pointer (some ⟨b, 0, none⟩)] w (Did b w (beginE D 0) (beginR D 0 5 0)) := by
  have HB := Lib.hid (begin_any 0 5 0 h ht)
  clear h
  go_enter Try.func37, Try.ntmps37
  go_wp2_with fail
  refine HB.out.mono ?_
  rintro e w' ⟨rfl, h1, h2⟩
  have H1 := Lib.hid h1; have H2 := Lib.hid h2; clear h1 h2 HB
  go_wp2
  go_ret
  exact ⟨rfl, H1.out, H2.out⟩
def stealE (D : Dq) (k : Int) : Int := if k = 0 then 1 else beginE D k
def stealR (D : Dq) (k : Int) : Dq := if k = 0 then D else beginR D k 10 0
set_option maxHeartbeats 1000000 in
theorem steal_any (k : Int) (h : DqV b D w) (ht : D.th ≤ 8) : Calls Try.prog 38 #[.pointer (some ⟨b, 0, none⟩), .int .i64 k] w (Did b w (stealE D k) (stealR D k)) := by
  unfold stealE stealR
  by_cases hk : k = 0
  · rw [if_pos hk, if_pos hk]
    subst hk
    have H := Lib.hid h; clear h
    go_enter Try.func38, Try.ntmps38
    go_wp2
    go_ret
    exact ⟨rfl, H.out, But.refl _ _⟩
  · rw [if_neg hk, if_neg hk]
    have t : (k == 0) = false := by simpa using hk
    have HB := Lib.hid (begin_any k 10 0 h ht)
    clear h hk
    go_enter Try.func38, Try.ntmps38
    go_wp2_with fail
    refine HB.out.mono ?_
    rintro e w' ⟨rfl, h1, h2⟩
    have H1 := Lib.hid h1; have H2 := Lib.hid h2; clear h1 h2 HB
    go_wp2
    go_ret
    exact ⟨rfl, H1.out, H2.out⟩
set_option maxHeartbeats 1000000 in
theorem push_none (x : Int) : Calls Try.prog 18 #[.pointer none, .int .i64 x] w fun e w' => e = .returned (.int .i64 1) ∧ But Nob w w' := by
  have HB := Lib.hid (begin_out (w := w) (p := none) 0 1 0 0 x false (fun W _ => is_nil 0))
  go_enter Try.func18, Try.ntmps18
  go_wp2_with fail
  refine HB.out.mono ?_
  rintro e w' ⟨rfl, h2⟩
  have H2 := Lib.hid h2; clear h2 HB
  go_wp2
  go_ret
  exact ⟨rfl, H2.out⟩
end
end Go.Proofs.Ytfejimlfnelhhaa
