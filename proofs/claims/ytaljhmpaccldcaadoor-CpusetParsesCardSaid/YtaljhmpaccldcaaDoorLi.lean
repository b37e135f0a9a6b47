/- The workers of a set, rising: the document's List and cpuset.List. -/
import Derived.Test.YtaljhmpaccldcaaDoorRg
namespace Go.Proofs.YtaljhmpaccldcaaDoor
open Go.RowKit

theorem own_mono {w : World} {B B' : Nat} {v : Value} {l : List Nat} (h : OwnN w B v l) (hB : B' ≤ B) : OwnN w B' v l :=
  ⟨h.1, h.2.imp id fun ⟨g, cap, cur, e1, e2, e3⟩ => ⟨g, cap, cur, e1, Nat.le_trans hB e2, e3⟩⟩
theorem Row1.old {w wr : World} {p : Nat → Bool} {l : List Nat} {a : Value} (h : Row1 (w.heap.size + 1) (w.alloc (.cells (cellsOf p) 25)) l a wr) :
    wr.heap[w.heap.size]? = some (.cells (cellsOf p) 25 (0, 0)) := (h.bel.block _ (by omega)).trans (heap_alloc_new _ _)
theorem Row1.out {w wr : World} {p : Nat → Bool} {l : List Nat} {a : Value} (h : Row1 (w.heap.size + 1) (w.alloc (.cells (cellsOf p) 25)) l a wr) : Row1 w.heap.size w l a wr :=
  ⟨((Below.refl _ _).alloc (Nat.le_refl _) _).trans (h.bel.mono (by omega)), Nat.le_of_succ_le h.lt, own_mono h.own (by omega)⟩

set_option maxRecDepth 100000 in
set_option maxHeartbeats 1600000 in
/-- The document's List. -/
theorem refList_any (p : Nat → Bool) (w : World) :
    Calls Tryd.prog 19 #[.agg (cellsOf p)] w fun e w' => ∃ v, e = .returned v ∧ Row1 w.heap.size w (upto p 1024) v w' := by
  obtain ⟨i0, hi0, hz0, hz1, hz2⟩ := info_parts infoInt
  have HI := Lib.hid (show Row1 (w.heap.size + 1) (w.alloc (.cells (cellsOf p) 25)) (upto p 0) (.slice none 0 0) (w.alloc (.cells (cellsOf p) 25)) from ⟨Below.refl _ _, by simp, World.ownsRow_nil _ _ _ _⟩)
  go_enter Tryd.func19, Tryd.ntmps19
  go_wp2
  go_loopw [3, 4] (fun a i wr => ∃ k : Nat, k ≤ 1024 ∧ i = .int .i64 k ∧ Row1 (w.heap.size + 1) (w.alloc (.cells (cellsOf p) 25)) (upto p k) a wr) (fun _ i _ => 1024 - (intOf i).toNat)
  case atStart => exact ⟨0, by omega, rfl, HI.out⟩
  case round =>
    obtain ⟨k, hk, rfl, hI⟩ := hrel
    clear HI
    have l1 := upto_len p k
    have hl := hI.lt
    have K0 := Lib.hid hI.old
    have HJ := Lib.hid hI; clear hI
    by_cases hlt : k < 1024
    · have hq := refHas_yes p k
      cases hp : p k
      · rw [hp] at hq
        have HQ := Lib.hid hq
        have e1 : upto p (k + 1) = upto p k := by rw [upto_succ]; simp [hp]
        have E1 := Lib.hid e1; clear e1 hp hq
        go_wp2_with (first | (refine ld_set rfl _ rfl _ rfl _ K0.out ?_) | (go_at_call 15; refine (HQ.out _ hlt).mono ?_; rintro e w2 ⟨rfl, h2⟩))
        go_roundw
        case rel => exact ⟨k + 1, by omega, by go_num, by rw [E1.out]; exact HJ.out.on h2⟩
        case measure => simp [intOf]; omega
      · rw [hp] at hq
        have HQ := Lib.hid hq
        have e1 : upto p (k + 1) = upto p k ++ [k] := by rw [upto_succ]; simp [hp]
        have E1 := Lib.hid e1; clear e1 hp hq
        go_wp2_with (first | (refine ld_set rfl _ rfl _ rfl _ K0.out ?_) | (go_at_call 15; refine (HQ.out _ hlt).mono ?_; rintro e w2 ⟨rfl, h2⟩) | (at_builtin; refine wpList_append_lies _ rfl (.tmp 12) (.tmp 14) 22 rfl (w.heap.size + 1) 3 i0 (.int .i64 0) 1 8 Tryd.underlying22 hi0 hz0 hz1 hz2 rfl (by decide) _ _ _ rfl ((HJ.out.on h2).own.alloc _) ⟨w2.heap.size, 0, none⟩ 1 1 [.int .i64 k] rfl rfl ?_ ?_ (by decide) ?_ ?_ ?_ (w2.heap.size + 1) ?_ ?_))
        · exact cell_one_new _ _ _
        · intro u hu; simp at hu; subst hu; rfl
        · unfold maxLen; omega
        · have := (HJ.out.on h2).lt; omega
        · have := (HJ.out.on h2).lt; simp; omega
        · simp
        intro g cap w3 own3 g3 hat3 hl3
        have R3 := Lib.hid ((HJ.out.on h2).push own3 g3)
        clear own3 g3 hat3
        go_wp2_with fail
        go_roundw
        case rel => exact ⟨k + 1, by omega, by go_num, by rw [E1.out]; exact R3.out⟩
        case measure => simp [intOf]; omega
    · obtain rfl : k = 1024 := by omega
      go_wp2
      go_ret
      exact ⟨_, rfl, HJ.out.out⟩

/-- The bits of a set's word from c on. -/
theorem and_less (x : Nat) (h0 : x ≠ 0) (h : x < 2 ^ 64) : ∀ j, (x &&& (x - 1)).testBit j = (x.testBit j && !decide (j = Lib.ctz 64 x)) := by
  obtain ⟨m, hm, hlt⟩ := Lib.ctzFrom_spec 64 x (by omega) h
  have e : Lib.ctz 64 x = Lib.ctzFrom 64 x := by unfold Lib.ctz; rw [if_neg h0]
  rw [e]
  generalize Lib.ctzFrom 64 x = c at *
  intro j
  have hp : 0 < 2 ^ c := Nat.two_pow_pos c
  have h1 : x - 1 = 2 ^ c * (2 * m) + (2 ^ c - 1) := by rw [hm, Nat.mul_add, Nat.mul_one]; omega
  have h2 : x = 2 ^ c * (2 * m + 1) + 0 := by omega
  rw [Nat.testBit_and, h1, Nat.testBit_two_pow_mul_add _ (by omega)]
  rw [h2, Nat.testBit_two_pow_mul_add _ hp]
  by_cases hj : j < c
  · simp [hj]
  · rw [if_neg hj, if_neg hj]
    by_cases hc : j = c
    · subst hc; simp
    · obtain ⟨d, hd⟩ : ∃ d, j - c = d + 1 := ⟨j - c - 1, by omega⟩
      rw [hd, Nat.testBit_succ, Nat.testBit_succ, show (2 * m + 1) / 2 = m by omega, show (2 * m) / 2 = m by omega]
      simp [hc]
/-- The workers of p that are c or more of word k. -/
def restP (p : Nat → Bool) (k c : Nat) : Nat → Bool := fun n => p n && decide (64 * k + c ≤ n)
theorem rest_zero (p : Nat → Bool) (k : Nat) : word (restP p k 0) k = word p k := word_congr fun j _ => by simp [restP]
theorem rest_none (p : Nat → Bool) (k c : Nat) (hc : c ≤ 64) (h : word (restP p k c) k = 0) : upto p (64 * (k + 1)) = upto p (64 * k + c) := by
  have hz : ∀ j, 64 * k + c ≤ j → j < 64 * (k + 1) → p j = false := fun j h1 h2 => by
    have := word_eq_zero.1 h (j - 64 * k) (by omega)
    simp only [restP] at this
    rw [show 64 * k + (j - 64 * k) = j by omega] at this
    simpa [h1] using this
  have key : ∀ d, 64 * k + c + d ≤ 64 * (k + 1) → upto p (64 * k + c + d) = upto p (64 * k + c) := fun d => by
    induction d with
    | zero => intro _; rfl
    | succ d ih => intro hd; rw [← Nat.add_assoc, upto_succ, if_neg (by rw [hz _ (by omega) (by omega)]; simp), ih (by omega)]
  have := key (64 - c) (by omega)
  rwa [show 64 * k + c + (64 - c) = 64 * (k + 1) by omega] at this
theorem rest_some (p : Nat → Bool) (k c : Nat) (h : word (restP p k c) k ≠ 0) : ∃ d, Lib.ctz 64 (word (restP p k c) k) = d ∧ c ≤ d ∧ d < 64 ∧ upto p (64 * k + (d + 1)) = upto p (64 * k + c) ++ [64 * k + d] ∧
    bits .and .u64 (word (restP p k c) k : Int) (IntKind.u64.wrap ((word (restP p k c) k : Int) - 1)) = ((word (restP p k (d + 1)) k : Nat) : Int) ∧ word (restP p k (d + 1)) k < word (restP p k c) k := by
  have hlt := word_lt (restP p k c) k
  obtain ⟨c1, c2, c3⟩ := ctz_bits _ hlt h
  refine ⟨_, rfl, ?_⟩
  have hal := and_less _ h hlt
  generalize hd : Lib.ctz 64 (word (restP p k c) k) = d at *
  have b2 := c2
  rw [word_testBit] at b2
  simp only [restP, Bool.and_eq_true, decide_eq_true_eq] at b2
  have hcd : c ≤ d := by omega
  have hno : ∀ j, c ≤ j → j < d → p (64 * k + j) = false := fun j h1 h2 => by
    have := c3 j h2
    rw [word_testBit] at this
    simp only [restP, show decide (j < 64) = true by simp; omega, Bool.true_and] at this
    simpa [h1] using this
  have hx : word (restP p k c) k &&& (word (restP p k c) k - 1) = word (restP p k (d + 1)) k := by
    refine word_eq (Nat.lt_of_le_of_lt Nat.and_le_left hlt) fun j hj => ?_
    rw [hal j, word_testBit]
    simp only [restP, hj, decide_true, Bool.true_and]
    by_cases h1 : j < d
    · rw [show decide (64 * k + (d + 1) ≤ 64 * k + j) = false by simp; omega, Bool.and_false]
      by_cases h2 : c ≤ j
      · rw [hno j h2 h1]; simp
      · rw [show decide (64 * k + c ≤ 64 * k + j) = false by simp; omega]; simp
    · by_cases h2 : j = d
      · subst h2; simp
      · rw [show decide (64 * k + (d + 1) ≤ 64 * k + j) = true by simp; omega, show decide (64 * k + c ≤ 64 * k + j) = true by simp; omega]; simp [h2]
  refine ⟨hcd, c1, ?_, ?_, ?_⟩
  · have key : ∀ e, c + e ≤ d → upto p (64 * k + (c + e)) = upto p (64 * k + c) := fun e => by
      induction e with
      | zero => intro _; rfl
      | succ e ih => intro he; rw [show 64 * k + (c + (e + 1)) = 64 * k + (c + e) + 1 by omega, upto_succ, if_neg (by rw [show 64 * k + (c + e) = 64 * k + (c + e) from rfl, hno _ (by omega) (by omega)]; simp), ih (by omega)]
    have := key (d - c) (by omega)
    rw [show c + (d - c) = d by omega] at this
    rw [show 64 * k + (d + 1) = 64 * k + d + 1 by omega, upto_succ, if_pos b2.2.1, this]
  · have hw : IntKind.u64.wrap ((word (restP p k c) k : Int) - 1) = ((word (restP p k c) k - 1 : Nat) : Int) := by
      rw [IntKind.wrap_u64]
      have : word (restP p k c) k < 2 ^ 64 := hlt
      generalize word (restP p k c) k = x at *
      omega
    rw [hw, u64_and_nat _ _ (by simpa using hlt) (by have : word (restP p k c) k < 2 ^ 64 := hlt; omega), hx]
  · rw [← hx]
    have : word (restP p k c) k &&& (word (restP p k c) k - 1) ≤ word (restP p k c) k - 1 := Nat.and_le_right
    omega
set_option maxRecDepth 100000 in
set_option maxHeartbeats 1600000 in
/-- cpuset.List. -/
theorem list_any (p : Nat → Bool) (w : World) (hT : Tabs w) :
    Calls Tryd.prog 21 #[.agg (cellsOf p)] w fun e w' => ∃ v, e = .returned v ∧ Row1 w.heap.size w (upto p 1024) v w' := by
  obtain ⟨i0, hi0, hz0, hz1, hz2⟩ := info_parts infoInt
  have TT := Lib.hid hT; clear hT
  have HI := Lib.hid (show Row1 (w.heap.size + 1) (w.alloc (.cells (cellsOf p) 25)) (upto p (64 * 0)) (.slice none 0 0) (w.alloc (.cells (cellsOf p) 25)) from ⟨Below.refl _ _, by simp, World.ownsRow_nil _ _ _ _⟩)
  go_enter Tryd.func21, Tryd.ntmps21
  go_wp2
  go_loopw [3, 6] (fun a i wr => ∃ k : Nat, k ≤ 16 ∧ i = .int .i64 k ∧ Row1 (w.heap.size + 1) (w.alloc (.cells (cellsOf p) 25)) (upto p (64 * k)) a wr) (fun _ i _ => 16 - (intOf i).toNat)
  case atStart => exact ⟨0, by omega, rfl, HI.out⟩
  case round =>
    obtain ⟨k, hk, rfl, hI⟩ := hrel
    clear HI
    by_cases hlt : k < 16
    · have hc := cellsOf_get p k hlt
      have c0 := blk_cell hI.old k hlt
      rw [← rest_zero] at c0
      have hd16 : decide ((k : Int) < 16) = true := by simp; omega
      have HJ := Lib.hid hI; clear hI
      go_wp2
      obtain ⟨wo, rfl⟩ : ∃ wo : World, wo = wr := ⟨_, rfl⟩
      go_loopw [3, 5] (fun a x wr => ∃ c : Nat, c ≤ 64 ∧ x = .int .u64 (word (restP p k c) k) ∧ Row1 (w.heap.size + 1) (w.alloc (.cells (cellsOf p) 25)) (upto p (64 * k + c)) a wr) (fun _ x _ => (intOf x).toNat)
      case atStart => exact ⟨0, by omega, rfl, HJ.out⟩
      case round =>
        obtain ⟨c, hc64, rfl, hI⟩ := hrel
        clear HJ
        have HJ := Lib.hid hI
        have hlt1 := hI.lt
        clear hI
        by_cases hz : word (restP p k c) k = 0
        · have hne : ((word (restP p k c) k : Int) != 0) = false := by simp; omega
          have HN := Lib.hid (rest_none p k c hc64 hz)
          clear hz
          go_wp2
          go_roundw
          case rel => exact ⟨k + 1, by omega, by go_num, by rw [HN.out]; exact HJ.out⟩
          case measure => simp [intOf]; omega
        · have hne : ((word (restP p k c) k : Int) != 0) = true := by simp; omega
          obtain ⟨d, d1, d2, d3, d4, d5, d6⟩ := rest_some p k c hz
          have hx := word_lt' (restP p k c) k
          have l1 := upto_len p (64 * k + c)
          have hT2 := TT.out.on ((Below.refl _ _).alloc (Nat.le_refl _) (.cells (cellsOf p) 25))
          have T2 := Lib.hid (hT2.below HJ.out.bel (by have := TT.out.2.2; omega))
          have D1 := Lib.hid d1; have D4 := Lib.hid d4; have D6 := Lib.hid d6; have HZ := Lib.hid hz; have HX := Lib.hid hx
          clear d1 d4 d6 hz hx hT2
          go_wp2_with (first | (go_at_call 35; refine (tz_any _ HX.out HZ.out _ T2.out).mono ?_; rw [D1.out]; rintro e w' ⟨rfl, rfl⟩) | (at_builtin; refine wpList_append_lies _ rfl (.tmp 18) (.tmp 24) 22 rfl (w.heap.size + 1) 3 i0 (.int .i64 0) 1 8 Tryd.underlying22 hi0 hz0 hz1 hz2 rfl (by decide) _ _ _ rfl (HJ.out.own.alloc _) ⟨wr.heap.size, 0, none⟩ 1 1 [.int .i64 ((k : Int) * 64 + (d : Int))] rfl rfl ?_ ?_ (by decide) ?_ ?_ ?_ (wr.heap.size + 1) ?_ ?_))
          · exact cell_one_new _ _ _
          · intro u hu; simp at hu; subst hu; rfl
          · unfold maxLen; omega
          · omega
          · simp; omega
          · simp
          intro g cap w3 own3 g3 hat3 hl3
          rw [show ((k : Int) * 64 + (d : Int)) = ((64 * k + d : Nat) : Int) by omega] at own3
          have R3 := Lib.hid (HJ.out.push own3 g3)
          clear own3 g3 hat3
          go_wp2_with fail
          go_roundw
          case rel =>
            exact ⟨d + 1, by omega, rfl, by rw [D4.out]; exact R3.out⟩
          case measure => have := D6.out; simp [intOf]; omega
    · obtain rfl : k = 16 := by omega
      have HJ := Lib.hid hI; clear hI
      go_wp2
      go_ret
      exact ⟨_, rfl, HJ.out.out⟩
end Go.Proofs.YtaljhmpaccldcaaDoor
