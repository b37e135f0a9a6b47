/- A shared row: New; Step by anybody; the row as the laws see it. -/
import Derived.Test.YtfejimlfnelhhaaSy
namespace Go.Proofs.Ytfejimlfnelhhaa
open Go.RowKit

def stE (D : Dq) (k : Int) : Int := if inS k (D.th + 1) = true then (if (D.cl k.toNat).nx = 0 then 5 else 0) else 1
def stH (D : Dq) (k : Int) : Nat := if inS k (D.th + 1) = true then (if (D.cl k.toNat).nx = 0 then 0 else howD D k.toNat) else 0
def stX (D : Dq) (k : Int) : Int := if inS k (D.th + 1) = true then (if (D.cl k.toNat).nx = 0 then 0 else gotD D k.toNat) else 0
def stR (D : Dq) (k : Int) : Dq := if inS k (D.th + 1) = true then (if (D.cl k.toNat).nx = 0 then D else stepD D k.toNat) else D
theorem Nice.stR {D : Dq} {n : Nat} (h : Nice D n) (k : Int) : Nice (stR D k) (n + 1) := by
  unfold Go.Proofs.Ytfejimlfnelhhaa.stR
  split
  · split
    · exact h.mono (by omega)
    · rename_i hq; exact h.step _ hq
  · exact h.mono (by omega)
theorem Nice.beginR {D : Dq} {n : Nat} (h : Nice D n) {k : Int} {nx : Nat} {x : Int} (hn : (k = 0 ∧ (nx = 1 ∨ nx = 5)) ∨ (k ≠ 0 ∧ nx = 10)) : Nice (beginR D k nx x) n := by
  unfold Go.Proofs.Ytfejimlfnelhhaa.beginR
  split
  · rename_i hi
    split
    · rename_i hq
      refine h.begin hq ?_
      simp [inS] at hi
      rcases hn with ⟨rfl, hn⟩ | ⟨h1, h2⟩
      · exact .inl ⟨rfl, hn⟩
      · exact .inr ⟨by omega, h2⟩
    · exact h
  · exact h
section
variable {b : Nat} {D : Dq} {w : World}
theorem dstep_any {n : Nat} (k : Int) (h : DqV b D w) (hN : Nice D n) (hn : n ≤ 900000) :
    Calls Try.prog 16 #[.pointer (some ⟨b, 0, none⟩), .int .i64 k] w (StepQ b w (decide (stH D k ≠ 0)) (stH D k) (stX D k) (stE D k) (stR D k)) := by
  unfold stH stX stE stR
  cases hi : inS k (D.th + 1) with
  | false =>
    simp only [Bool.false_eq_true, if_false]
    exact (dstep_out k (fun W hW => by have := is_any k (h.but hW fun x => x); rw [hi] at this; exact this)).mono fun e w' ⟨he, hb⟩ => ⟨he, h.but hb fun x => x, hb.nob⟩
  | true =>
    obtain ⟨j, rfl⟩ : ∃ j : Nat, k = j := ⟨k.toNat, by simp [inS] at hi; omega⟩
    have hj : j ≤ D.th := by simp [inS] at hi; omega
    simp only [if_true, Int.toNat_natCast]
    by_cases hq : (D.cl j).nx = 0
    · simp only [hq, if_true]
      exact (dstep_idle j h hj hN.th hq).mono fun e w' ⟨he, hb⟩ => ⟨he, h.but hb fun x => x, hb.nob⟩
    · simp only [hq, if_false]
      exact dstep_busy j h hN hn hj hq
theorem dbusy_any (k : Int) (h : DqV b D w) (ht : D.th ≤ 8) : Calls Try.prog 13 #[.pointer (some ⟨b, 0, none⟩), .int .i64 k] w fun e w' => e = .returned (.bool (inS k (D.th + 1) && busyB D k.toNat)) ∧ w = w' := by
  cases hi : inS k (D.th + 1) with
  | false => exact busy_no k (by have := is_any k h; rw [hi] at this; exact this)
  | true =>
    obtain ⟨j, rfl⟩ : ∃ j : Nat, k = j := ⟨k.toNat, by simp [inS] at hi; omega⟩
    have hj : j ≤ D.th := by simp [inS] at hi; omega
    simpa using busy_in j h hj ht
end
def zF (i : Nat) : Value := if 67 ≤ i ∧ i < 112 ∧ i % 5 = 1 then .bool false else .int .i64 0
def zD : Array Value := Array.ofFn (n := 113) fun i => zF i.val
theorem zD_size : zD.size = 113 := by simp [zD]
theorem zD_at {i : Nat} (h : i < 113) : zD[i]? = some (zF i) := by simp [zD, h]
theorem zD_run (w : World) : (zeroValue 77).run Try.prog w = .ok (.agg zD) w := by kernel_rfl
theorem zD_eq {X Y r t : Int} (h1 : X = r) (h2 : Y = t) : ((zD.setIfInBounds 66 (.int .i64 X)).setIfInBounds 112 (.int .i64 Y)) = ((zD.setIfInBounds 66 (.int .i64 r)).setIfInBounds 112 (.int .i64 t)) := by rw [h1, h2]
theorem new_cells (r t : Nat) : CsV (newD r t) ((zD.setIfInBounds 66 (.int .i64 r)).setIfInBounds 112 (.int .i64 t)) := by
  have hz := zD_size
  refine ⟨by simp [hz], ?_, ?_, fun i hi => ?_, ?_, fun k hk => ?_, fun k hk => ?_, fun k hk => ?_, fun k hk => ?_, fun k hk => ?_, ?_⟩
  · rw [arr_other (by omega), arr_other (by omega), zD_at (by omega)]; rfl
  · rw [arr_other (by omega), arr_other (by omega), zD_at (by omega)]; rfl
  · rw [arr_other (by omega), arr_other (by omega), zD_at (by omega), zF, if_neg (by omega)]; rfl
  · rw [arr_other (by omega), arr_same (by omega)]; rfl
  · rw [arr_other (by omega), arr_other (by omega), zD_at (by omega), zF, if_neg (by omega)]; rfl
  · rw [arr_other (by omega), arr_other (by omega), zD_at (by omega), zF, if_neg (by omega)]; rfl
  · rw [arr_other (by omega), arr_other (by omega), zD_at (by omega), zF, if_neg (by omega)]; rfl
  · rw [arr_other (by omega), arr_other (by omega), zD_at (by omega), zF, if_neg (by omega)]; rfl
  · rw [arr_other (by omega), arr_other (by omega), zD_at (by omega), zF, if_pos (by omega)]; rfl
  · rw [arr_same (by simp [hz])]; rfl
set_option maxRecDepth 100000 in
set_option maxHeartbeats 2000000 in
theorem dnew_any (room thieves : Int) (r t : Nat) (hr : min (max room 1) 64 = (r : Int)) (ht : min (max thieves 0) 8 = (t : Int)) (w : World) :
    Calls Try.prog 9 #[.int .i64 room, .int .i64 thieves] w fun e w' => e = .returned (.pointer (some ⟨w.heap.size, 0, none⟩)) ∧ DqV w.heap.size (newD r t) w' ∧ But Nob w w' := by
  have hz := zD_run
  have hs := zD_size
  have HR := Lib.hid hr; have HT := Lib.hid ht
  clear hr ht
  go_enter Try.func9, Try.ntmps9
  go_wp2
  all_goals
    go_ret
    refine ⟨rfl, ⟨_, new_cells r t, ?_⟩, (But.refl _ _).alloc _⟩
    have := Blk.new w 77 ((zD.setIfInBounds 66 (.int .i64 r)).setIfInBounds 112 (.int .i64 t))
    have hr := HR.out; have ht := HT.out
    refine (congrArg (fun v => Blk v w.heap.size 77 _) (congrArg (fun c => w.alloc (.cells c 77)) ?_)).mpr this
    refine zD_eq ?_ ?_ <;> (first | omega | (split <;> omega))
/-- Has a call ended? -/
def dnB (h : Nat) : Bool := decide (h ≠ 0)
/-- The row as the laws see it: made behind the world w0, after n steps at most. -/
structure Ld (w0 : World) (b : Nat) (D : Dq) (n : Nat) (w : World) : Prop where
  v : DqV b D w
  nice : Nice D n
  old : But Nob w0 w
  new : w0.heap.size ≤ b
section
variable {w0 : World} {b n : Nat} {D : Dq} {w w' : World}
theorem Ld.next {D' : Dq} {m : Nat} (h : Ld w0 b D n w) (hd : DqV b D' w') (hN : Nice D' m) (hG : But (OneB b) w w') : Ld w0 b D' m w' :=
  ⟨hd, hN, h.old.step hG fun k hk q => by have : k = b := q; have := h.new; omega, h.new⟩
theorem Ld.nob (h : Ld w0 b D n w) (hb : But Nob w w') : Ld w0 b D n w' := ⟨h.v.but hb id, h.nice, h.old.trans hb, h.new⟩
theorem Ld.below (h : Ld w0 b D n w) : Below w0.heap.size w0 w := h.old.below (Nat.le_refl _) fun _ _ q => q.elim
theorem new_ld (room thieves : Int) (r t : Nat) (hr : min (max room 1) 64 = (r : Int)) (ht : min (max thieves 0) 8 = (t : Int)) (w : World) :
    Calls Try.prog 9 #[.int .i64 room, .int .i64 thieves] w fun e w' => ∃ b, e = .returned (.pointer (some ⟨b, 0, none⟩)) ∧ Ld w b (newD r t) 0 w' :=
  (dnew_any room thieves r t hr ht w).mono fun _ _ ⟨e, h1, h2⟩ => ⟨_, e, h1, Nice.new (by omega) (by omega) (by omega), h2, Nat.le_refl _⟩
theorem push_ld (x : Int) (h : Ld w0 b D n w) : Calls Try.prog 18 #[.pointer (some ⟨b, 0, none⟩), .int .i64 x] w fun e w' => e = .returned (.int .i64 (beginE D 0)) ∧ Ld w0 b (beginR D 0 1 x) n w' ∧ But (OneB b) w w' :=
  (push_any x h.v h.nice.th).mono fun _ _ ⟨e, h1, h2⟩ => ⟨e, h.next h1 (h.nice.beginR (.inl ⟨rfl, .inl rfl⟩)) h2, h2⟩
theorem pop_ld (h : Ld w0 b D n w) : Calls Try.prog 37 #[.pointer (some ⟨b, 0, none⟩)] w fun e w' => e = .returned (.int .i64 (beginE D 0)) ∧ Ld w0 b (beginR D 0 5 0) n w' ∧ But (OneB b) w w' :=
  (dpop_any h.v h.nice.th).mono fun _ _ ⟨e, h1, h2⟩ => ⟨e, h.next h1 (h.nice.beginR (.inl ⟨rfl, .inr rfl⟩)) h2, h2⟩
theorem steal_ld (k : Int) (h : Ld w0 b D n w) : Calls Try.prog 38 #[.pointer (some ⟨b, 0, none⟩), .int .i64 k] w fun e w' => e = .returned (.int .i64 (stealE D k)) ∧ Ld w0 b (stealR D k) n w' ∧ But (OneB b) w w' := by
  refine (steal_any k h.v h.nice.th).mono fun _ _ ⟨e, h1, h2⟩ => ⟨e, h.next h1 ?_ h2, h2⟩
  unfold stealR
  split
  · exact h.nice
  · rename_i hk; exact h.nice.beginR (.inr ⟨hk, rfl⟩)
theorem step_ld (k : Int) (h : Ld w0 b D n w) (hn : n ≤ 900000) : Calls Try.prog 16 #[.pointer (some ⟨b, 0, none⟩), .int .i64 k] w
    fun e w' => e = .returned (.tuple #[.agg #[.bool (dnB (stH D k)), .int .i64 (stH D k), .int .i64 (stX D k)], .int .i64 (stE D k)]) ∧ Ld w0 b (stR D k) (n + 1) w' ∧ But (OneB b) w w' :=
  (dstep_any k h.v h.nice hn).mono fun _ _ ⟨e, h1, h2⟩ => ⟨e, h.next h1 (h.nice.stR k) h2, h2⟩
theorem len_ld (h : Ld w0 b D n w) (hn : n ≤ 900000) : Calls Try.prog 12 #[.pointer (some ⟨b, 0, none⟩)] w fun e w' => e = .returned (.int .i64 (max (D.bot - D.top) 0)) ∧ ∃ q, w' = w.drewN q := by
  have h1 := h.nice.bot; have h2 := h.nice.b1; have h3 := h.nice.t0; have h4 := h.nice.t1
  exact dlen_any h.v h1 (by omega) h3 (by omega)
end
end Go.Proofs.Ytfejimlfnelhhaa
