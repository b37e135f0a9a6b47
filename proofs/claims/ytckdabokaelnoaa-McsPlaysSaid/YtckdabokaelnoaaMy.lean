/- A lock that parties wait for in a row: New, Step, Holder; the lock as the laws see it. -/
import Derived.Test.YtckdabokaelnoaaMt
namespace Go.Proofs.Ytckdabokaelnoaa
open Go.RowKit

def zF (i : Nat) : Value := if 1 ≤ i ∧ i < 33 ∧ i % 2 = 0 then .bool false else .int .i64 0
def zL : Array Value := Array.ofFn (n := 82) fun i => zF i.val
theorem zL_size : zL.size = 82 := by simp [zL]
theorem zL_at {i : Nat} (h : i < 82) : zL[i]? = some (zF i) := by simp [zL, h]
theorem zL_run (w : World) : (zeroValue 144).run Try.prog w = .ok (.agg zL) w := by kernel_rfl
def newD (i n : Nat) : Lk := ⟨-1, fun k => if k < i then -1 else 0, fun _ => false, fun _ => ⟨0, 0, 0⟩, n⟩
theorem zL_eq {X t : Int} (h : X = t) : ((zL.setIfInBounds 0 (.int .i64 (-1))).setIfInBounds 81 (.int .i64 X)) = ((zL.setIfInBounds 0 (.int .i64 (-1))).setIfInBounds 81 (.int .i64 t)) := by rw [h]
theorem new_cells (n : Nat) : CsM (newD 0 n) ((zL.setIfInBounds 0 (.int .i64 (-1))).setIfInBounds 81 (.int .i64 (n : Nat))) := by
  have hz := zL_size
  refine ⟨by simp [hz], ?_, fun k hk => ?_, fun k hk => ?_, fun k hk => ?_, fun k hk => ?_, fun k hk => ?_, ?_⟩
  · rw [arr_other (by omega), arr_same (by omega)]; rfl
  · rw [arr_other (by omega), arr_other (by omega), zL_at (by omega), zF, if_neg (by omega)]; rfl
  · rw [arr_other (by omega), arr_other (by omega), zL_at (by omega), zF, if_pos (by omega)]; rfl
  · rw [arr_other (by omega), arr_other (by omega), zL_at (by omega), zF, if_neg (by omega)]; rfl
  · rw [arr_other (by omega), arr_other (by omega), zL_at (by omega), zF, if_neg (by omega)]; rfl
  · rw [arr_other (by omega), arr_other (by omega), zL_at (by omega), zF, if_neg (by omega)]; rfl
  · rw [arr_same (by simp [hz])]; rfl
theorem newD_next {i n : Nat} : ({ newD i n with nx := updF (newD i n).nx i (-1) } : Lk) = newD (i + 1) n := by
  have : updF (newD i n).nx i (-1) = (newD (i + 1) n).nx := by
    funext k
    by_cases e : k = i
    · subst e; rw [updF_same]; simp only [newD]; rw [if_pos (by omega)]
    · rw [updF_other _ _ e]
      by_cases c : k < i
      · simp only [newD]; rw [if_pos c, if_pos (by omega)]
      · simp only [newD]; rw [if_neg c, if_neg (by omega)]
  exact congrArg (fun f => (⟨-1, f, fun _ => false, fun _ => ⟨0, 0, 0⟩, n⟩ : Lk)) this
theorem newD_last {b n : Nat} {w : World} (h : LkM b (newD 16 n) w) : LkM b (newL n) w := by
  obtain ⟨S, a, c⟩ := h
  refine ⟨S, ⟨a.sz, a.tail, fun k hk => ?_, a.wt, a.st, a.sp, a.ot, a.n⟩, c⟩
  have := a.nx k hk
  simp only [newD, if_pos hk] at this
  exact this
set_option maxRecDepth 100000 in
set_option maxHeartbeats 4000000 in
theorem mnew_any (p : Int) (n : Nat) (hn : min (max p 1) 16 = (n : Int)) (w : World) :
    Calls Try.prog 40 #[.int .i64 p] w fun e w' => e = .returned (.pointer (some ⟨w.heap.size, 0, none⟩)) ∧ LkM w.heap.size (newL n) w' ∧ But Nob w w' := by
  have hz := zL_run
  have hs := zL_size
  have HN := Lib.hid hn
  clear hn
  go_enter Try.func40, Try.ntmps40
  go_upto_region 1 with fail
  go_cut [3] (fun v wx => v = .pointer (some ⟨w.heap.size, 0, none⟩) ∧ LkM w.heap.size (newD 0 n) wx ∧ But Nob w wx)
  case first =>
    go_wp2
    all_goals
      go_meet
      refine ⟨rfl, ⟨_, new_cells n, ?_⟩, (But.refl _ _).alloc _⟩
      have := Blk.new w 144 ((zL.setIfInBounds 0 (.int .i64 (-1))).setIfInBounds 81 (.int .i64 (n : Nat)))
      have hn := HN.out
      refine (congrArg (fun v => Blk v w.heap.size 144 _) (congrArg (fun c => w.alloc (.cells c 144)) ?_)).mpr this
      refine zL_eq ?_ <;> (first | omega | (split <;> omega))
  case rest =>
    obtain ⟨rfl, h1, hG1⟩ := hcut
    rename World => w1
    have H1 := Lib.hid h1; have HG1 := Lib.hid hG1; clear h1 hG1 hz hs
    go_wp2_with fail
    go_loopw [10] (fun iv wr => ∃ k : Nat, iv = .int .i64 k ∧ k ≤ 16 ∧ LkM w.heap.size (newD k n) wr ∧ But Nob w wr) (fun iv _ => 16 - (intOf iv).toNat)
    case atStart => exact ⟨0, rfl, by omega, H1.out, HG1.out⟩
    case round =>
      obtain ⟨k, rfl, hk, hv, hb⟩ := hrel
      have HV := Lib.hid hv; have HB := Lib.hid hb; clear hv hb H1 HG1
      by_cases hlt : k < 16
      · have k0 : (0 : Int) ≤ (k : Int) := by omega
        have k1 : (k : Int) < 16 := by omega
        have f1 := HV.out.free (1 + k * 2)
        have c1 := HV.out.nx hlt
        go_wp2_with fail
        go_roundw
        case rel =>
          refine ⟨k + 1, by go_num, by omega, ?_, HB.out.set ⟨w.heap.size, _, none⟩ _ (.inr (Nat.le_refl _))⟩
          have := HV.out.snx hlt (-1)
          rw [newD_next] at this
          exact this
        case measure => simp [intOf]; omega
      · obtain rfl : k = 16 := by omega
        go_wp2_with fail
        go_ret
        exact ⟨rfl, newD_last HV.out, HB.out⟩
section
variable {b : Nat} {D : Lk} {w : World}
def stpE (D : Lk) (k : Int) : Int := if isN D k then (if (D.cl k.toNat).st = 1 ∨ (D.cl k.toNat).st = 3 then 0 else 5) else 1
/-- What Step tells, and does. -/
def StQ (b : Nat) (w : World) (a : Bool) (c : Int) (D' : Lk) (e : Ending) (w' : World) : Prop := e = .returned (.tuple #[.bool a, .int .i64 c]) ∧ LkM b D' w' ∧ But (OneB b) w w'
set_option maxHeartbeats 2000000 in
theorem mStep_no {p : Option Addr} (k : Int) (hi : Calls Try.prog 47 #[.pointer p, .int .i64 k] w fun e w' => e = .returned (.int .i64 (-1)) ∧ w = w') :
    Calls Try.prog 45 #[.pointer p, .int .i64 k] w fun e w' => e = .returned (.tuple #[.bool false, .int .i64 1]) ∧ w = w' := by
  have HI := Lib.hid hi
  clear hi
  go_enter Try.func45, Try.ntmps45
  go_wp2_with (first
    | (go_at_call 47; (with_reducible refine HI.out.mono ?_); rintro e wq ⟨rfl, rfl⟩))
  go_ret2
  exact ⟨rfl, rfl⟩
set_option maxHeartbeats 2000000 in
theorem mStep_idle {p : Option Addr} (k : Int) (s : Int) (hs : s = 0 ∨ s = 2) (hi : Calls Try.prog 47 #[.pointer p, .int .i64 k] w fun e w' => e = .returned (.int .i64 s) ∧ w = w') :
    Calls Try.prog 45 #[.pointer p, .int .i64 k] w fun e w' => e = .returned (.tuple #[.bool false, .int .i64 5]) ∧ w = w' := by
  rcases hs with rfl | rfl
  all_goals
    have HI := Lib.hid hi
    clear hi
    go_enter Try.func45, Try.ntmps45
    go_wp2_with (first
      | (go_at_call 47; (with_reducible refine HI.out.mono ?_); rintro e wq ⟨rfl, rfl⟩))
    go_ret2
    exact ⟨rfl, rfl⟩
set_option maxHeartbeats 2000000 in
theorem mStep_act (j : Nat) (s r : Int) (h : LkM b D w) (hn : Nice D) (hj : j < D.n) (ha : (D.cl j).st = 1 ∨ (D.cl j).st = 3) (hs : stI D j = s) (hr : stI (stepL D j) j = r) :
    Calls Try.prog 45 #[.pointer (some ⟨b, 0, none⟩), .int .i64 j] w (StQ b w (r != s) 0 (stepL D j)) := by
  have hS := mstate_any (j : Int) h hn
  rw [hs] at hS
  have ht := mstp_any j h hn hj ha
  have hN := nice_step hn hj ha
  have s1 : (s == -1) = false ∧ (s == 0) = false ∧ (s == 2) = false := by
    have : s = ((D.cl j).st : Int) := by rw [← hs]; unfold stI; rw [if_pos (by unfold isN; omega), Int.toNat_natCast]
    rcases ha with ha | ha <;> rw [ha] at this <;> subst this <;> decide
  obtain ⟨s1, s2, s3⟩ := s1
  have HS := Lib.hid hS; have HT := Lib.hid ht; have HN := Lib.hid hN; have HR := Lib.hid hr
  clear h hS ht hN hr hs hn ha
  go_enter Try.func45, Try.ntmps45
  go_upto_region 8 with (first
    | (go_at_call 47; (with_reducible refine HS.out.mono ?_); rintro e wq ⟨rfl, rfl⟩))
  go_upto_region 9 with (first
    | (go_at_call 86; (with_reducible refine HT.out.mono ?_); rintro e w2 ⟨rfl, h2, hG2⟩; have H2 := Lib.hid h2; have HG2 := Lib.hid hG2; clear h2 hG2))
  have HS2 : Hid (Calls Try.prog 47 #[.pointer (some ⟨b, 0, none⟩), .int .i64 j] w2 fun e w' => e = .returned (.int .i64 r) ∧ w2 = w') := by
    have := mstate_any (j : Int) H2.out HN.out
    rw [HR.out] at this
    exact Lib.hid this
  go_wp2_with (first
    | (go_at_call 47; (with_reducible refine HS2.out.mono ?_); rintro e wq ⟨rfl, rfl⟩))
  go_ret2
  exact ⟨rfl, H2.out, HG2.out⟩
theorem mStep_any (k : Int) (h : LkM b D w) (hn : Nice D) :
    Calls Try.prog 45 #[.pointer (some ⟨b, 0, none⟩), .int .i64 k] w (StQ b w (stpB D k) (stpE D k) (stpT D k)) := by
  have hS := mstate_any k h hn
  by_cases hc : isN D k
  · obtain ⟨j, rfl⟩ : ∃ j : Nat, k = j := ⟨k.toNat, by unfold isN at hc; omega⟩
    have hj : j < D.n := by unfold isN at hc; omega
    by_cases ha : (D.cl j).st = 1 ∨ (D.cl j).st = 3
    · have ht : stpT D (j : Int) = stepL D j := by unfold stpT; rw [if_pos ⟨hc, by rw [Int.toNat_natCast]; exact ha⟩, Int.toNat_natCast]
      have he : stpE D (j : Int) = 0 := by unfold stpE; rw [if_pos hc, Int.toNat_natCast, if_pos ha]
      have hb : stpB D (j : Int) = (stI (stepL D j) j != stI D j) := by unfold stpB; rw [ht]; by_cases e : stI (stepL D j) j = stI D j <;> simp [e]
      rw [ht, he, hb]
      exact mStep_act j _ _ h hn hj ha rfl rfl
    · have ht : stpT D (j : Int) = D := by unfold stpT; rw [if_neg (fun x => ha (by have := x.2; rw [Int.toNat_natCast] at this; exact this))]
      have he : stpE D (j : Int) = 5 := by unfold stpE; rw [if_pos hc, Int.toNat_natCast, if_neg ha]
      have hb : stpB D (j : Int) = false := by unfold stpB; rw [ht]; simp
      rw [ht, he, hb]
      have hs : stI D j = 0 ∨ stI D j = 2 := by
        have := (hn.each j hj).st
        unfold stI; rw [if_pos hc, Int.toNat_natCast]; omega
      exact (mStep_idle (j : Int) _ hs hS).mono fun e w' ⟨he, hw⟩ => ⟨he, hw ▸ h, hw ▸ But.refl _ _⟩
  · have ht : stpT D k = D := by unfold stpT; rw [if_neg (fun x => hc x.1)]
    have he : stpE D k = 1 := by unfold stpE; rw [if_neg hc]
    have hb : stpB D k = false := by unfold stpB; rw [ht]; simp
    rw [ht, he, hb]
    rw [show stI D k = -1 by unfold stI; rw [if_neg hc]] at hS
    exact (mStep_no k hS).mono fun e w' ⟨he, hw⟩ => ⟨he, hw ▸ h, hw ▸ But.refl _ _⟩
/-- Who is inside or giving, from a number on. -/
def holdR (D : Lk) : Nat → Nat → Int × Bool
  | _, 0 => (0, false)
  | i, m + 1 => if 2 ≤ (D.cl i).st then ((i : Int), true) else holdR D (i + 1) m
set_option maxHeartbeats 4000000 in
theorem mhold_any (h : LkM b D w) (hn : Nice D) :
    Calls Try.prog 48 #[.pointer (some ⟨b, 0, none⟩)] w fun e w' => e = .returned (.tuple #[.int .i64 (holdR D 0 D.n).1, .bool (holdR D 0 D.n).2]) ∧ w = w' := by
  obtain ⟨R, hR⟩ : ∃ R, holdR D 0 D.n = R := ⟨_, rfl⟩
  rw [hR]
  have n2 := hn.n2
  have H := Lib.hid h; have HN := Lib.hid hn; have HR := Lib.hid hR
  clear h hn hR
  go_enter Try.func48, Try.ntmps48
  go_wp2_with fail
  go_loopw [4] (fun iv wr => ∃ k : Nat, iv = .int .i64 k ∧ k ≤ D.n ∧ w = wr ∧ holdR D k (D.n - k) = R) (fun iv _ => D.n - (intOf iv).toNat)
  case atStart => exact ⟨0, rfl, Nat.zero_le _, rfl, HR.out⟩
  case round =>
    obtain ⟨k, rfl, hk, rfl, hr⟩ := hrel
    have HRR := Lib.hid hr; clear hr
    have hI := mis_any (k : Int) H.out
    by_cases hlt : k < D.n
    · rw [show decide (isN D k) = true from decide_eq_true (by unfold isN; omega)] at hI
      have hS := mstate_any (k : Int) H.out HN.out
      rw [show stI D k = ((D.cl k).st : Int) by unfold stI; rw [if_pos (by unfold isN; omega), Int.toNat_natCast]] at hS
      have e := HRR.out
      rw [show D.n - k = (D.n - (k + 1)) + 1 by omega, holdR] at e
      have s3 := (HN.out.each k hlt).st
      have k1 : k + 1 ≤ 16 := by omega
      have HI := Lib.hid hI; have HS := Lib.hid hS; have HE := Lib.hid e
      clear hI hS e
      by_cases h2 : 2 ≤ (D.cl k).st
      · have hq : (D.cl k).st = 2 ∨ (D.cl k).st = 3 := by omega
        rcases hq with hq | hq
        all_goals
          have e := HE.out
          rw [if_pos h2] at e
          have HS' := HS.out
          rw [hq] at HS'
          have HS := Lib.hid HS'; have HE := Lib.hid e
          clear e HS' h2 s3 hq
          go_wp2_with (first
            | (go_at_call 87; (with_reducible refine HI.out.mono ?_); rintro e wq ⟨rfl, rfl⟩)
            | (go_at_call 47; (with_reducible refine HS.out.mono ?_); rintro e wq ⟨rfl, rfl⟩))
          go_ret2
          exact ⟨by rw [← HE.out] <;> rfl, rfl⟩
      · have e := HE.out
        rw [if_neg h2] at e
        clear HE
        have HE := Lib.hid e
        have t2 : (((D.cl k).st : Int) == 2) = false := by simp; omega
        have t3 : (((D.cl k).st : Int) == 3) = false := by simp; omega
        have t4 : ((D.cl k).st == 2) = false := by simp; omega
        have t5 : ((D.cl k).st == 3) = false := by simp; omega
        clear e h2 s3
        generalize (D.cl k).st = s at *
        go_wp2_with (first
          | (go_at_call 87; (with_reducible refine HI.out.mono ?_); rintro e wq ⟨rfl, rfl⟩)
          | (go_at_call 47; (with_reducible refine HS.out.mono ?_); rintro e wq ⟨rfl, rfl⟩))
        go_roundw
        case rel => exact ⟨k + 1, by go_num, hlt, by trivial, HE.out⟩
        case measure => simp [intOf]; omega
    · rw [show decide (isN D k) = false from decide_eq_false (by unfold isN; omega)] at hI
      have e := HRR.out
      rw [show D.n - k = 0 by omega, holdR] at e
      have HI := Lib.hid hI; have HE := Lib.hid e
      clear hI e
      go_wp2_with (first
        | (go_at_call 87; (with_reducible refine HI.out.mono ?_); rintro e wq ⟨rfl, rfl⟩))
      go_ret2
      exact ⟨by rw [← HE.out] <;> rfl, rfl⟩
set_option maxHeartbeats 1000000 in
theorem mhold_nil : Calls Try.prog 48 #[.pointer none] w fun e w' => e = .returned (.tuple #[.int .i64 0, .bool false]) ∧ w = w' := by
  have HI := Lib.hid (mis_nil (w := w) 0)
  go_enter Try.func48, Try.ntmps48
  go_wp2_with fail
  go_loopw [4] (fun iv wr => iv = .int .i64 0 ∧ w = wr) (fun _ _ => 0)
  case atStart => exact ⟨rfl, rfl⟩
  case round =>
    obtain ⟨rfl, rfl⟩ := hrel
    go_wp2_with (first
      | (go_at_call 87; (with_reducible refine HI.out.mono ?_); rintro e wq ⟨rfl, rfl⟩))
    go_ret2
    exact ⟨rfl, rfl⟩
theorem mStep_nil (k : Int) : Calls Try.prog 45 #[.pointer none, .int .i64 k] w fun e w' => e = .returned (.tuple #[.bool false, .int .i64 1]) ∧ w = w' :=
  mStep_no k (mstate_no k (mis_nil k))
end
end Go.Proofs.Ytckdabokaelnoaa
