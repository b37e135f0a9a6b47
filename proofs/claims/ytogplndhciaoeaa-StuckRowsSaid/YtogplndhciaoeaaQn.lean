/- layer 27 (stuck): the law file's lives. -/
import Derived.Test.YtogplndhciaoeaaQm
namespace Go.Proofs.Ytogplndhciaoeaa
open Go.RowKit Go.Maps
set_option maxRecDepth 100000

set_option maxHeartbeats 4000000 in
theorem same4Q_any (A A2 : Option Addr) (l : List Int) (n c c2 : Nat) (hn : l.length = n) (hl : n ≤ 1000000) (w : World) (h : RowN w.heap.size w A l) (h2 : RowN w.heap.size w A2 l) :
    Calls Try.prog 19 #[.slice A n c, .slice A2 n c2] w fun e w' => e = .returned (.bool true) ∧ Below w.heap.size w w' := by
  have H := Lib.hid h; have H2 := Lib.hid h2; have HN := Lib.hid hn
  clear h h2 hn
  have t0 : ((n : Int) != (n : Int)) = false := by simp
  go_enter Try.func19, Try.ntmps19
  go_wp2_with fail
  go_loopw [13] (fun iv wr => ∃ k : Nat, iv = .int .i64 k ∧ k ≤ n ∧ Below w.heap.size w wr) (fun iv _ => n - (intOf iv).toNat)
  case atStart => exact ⟨0, rfl, Nat.zero_le _, Below.refl _ _⟩
  case round =>
    obtain ⟨k, rfl, hk, hb⟩ := hrel
    have HB := Lib.hid hb
    by_cases hlt : k < n
    · obtain ⟨b, o, rfl, -, c1⟩ := (H.out.below hb) k (by rw [HN.out]; exact hlt)
      obtain ⟨b', o', rfl, -, c2⟩ := (H2.out.below hb) k (by rw [HN.out]; exact hlt)
      generalize l[k]'(by rw [HN.out]; exact hlt) = z at *
      have k0 : (0 : Int) ≤ (k : Int) := by omega
      have k1 : (k : Int) < (n : Int) := by omega
      have t1 : (z != z) = false := by simp
      clear hb
      go_upto_region 6 with fail
      go_region
      go_wp2_with fail
      go_roundw
      case rel => exact ⟨k + 1, by go_num, by omega, HB.out.os, HB.out.tape, HB.out.output, HB.out.size, HB.out.block⟩
      case measure => simp [intOf]; omega
    · obtain rfl : k = n := by omega
      have tk : ¬ (k : Int) < (k : Int) := by omega
      clear hb
      go_wp2_with fail
      go_ret
      exact ⟨rfl, HB.out⟩
def exW : List (Int × Int) := [(0, 1), (1, 2), (2, 1), (3, 4)]
theorem ex_rnd1 : Rnd exW 1 := ⟨2, by decide, by decide +kernel⟩
theorem ex_rnd2 : Rnd exW 2 := ⟨2, by decide, by decide +kernel⟩
theorem ex_not0 : ¬ Rnd exW 0 := fun h => by
  obtain ⟨i, h1, h2, h3⟩ := rnd_iff.1 h
  have h2' : i ≤ 5 := h2
  have : i = 1 ∨ i = 2 ∨ i = 3 ∨ i = 4 ∨ i = 5 := by omega
  rcases this with rfl | rfl | rfl | rfl | rfl <;> exact absurd h3 (by decide +kernel)
theorem ex_end0 : Endless exW 0 := Endless.of (k := 1) (u := 1) (by decide +kernel) ex_rnd1.endless
theorem ex_end3 : ¬ Endless exW 3 := fun h => h 2 (by decide +kernel)
def fF (x : Int) : Nat := if x = 0 then 3 else if x = 1 then 4 else if x = 2 then 4 else 2
theorem ex_fates : ∀ x ∈ exW, fateP exW x.1 = fF x.1 := by
  intro x hx
  simp only [exW, List.mem_cons, List.not_mem_nil, or_false] at hx
  rcases hx with rfl | rfl | rfl | rfl
  · exact fate_comes ex_end0 ex_not0
  · exact fate_rnd ex_rnd1
  · exact fate_rnd ex_rnd2
  · exact fate_end ex_end3
theorem ex_those (p : Nat → Bool) : thoseF p exW exW = (exW.filter fun x => p (fF x.1)).map (·.1) := by
  unfold thoseF
  congr 1
  exact List.filter_congr fun x hx => by rw [ex_fates x hx]
theorem ex_rounds : risingL (thoseF isRounds exW exW) = [1, 2] := by rw [ex_those]; decide +kernel
theorem ex_stuck : risingL (thoseF isStuck exW exW) = [0, 1, 2] := by rw [ex_those]; decide +kernel
theorem ex_chain {c : List Int} (h : Chn exW 0 c) : c = [0, 1, 2] := by
  have n0 : nxt exW 0 = some 1 := by decide +kernel
  have n1 : nxt exW 1 = some 2 := by decide +kernel
  have n2 : nxt exW 2 = some 1 := by decide +kernel
  match c, h with
  | [], h => have := h.first; simp at this
  | [a], h =>
    have e := h.first; simp at e; subst e
    have := h.last 0 rfl 1 n0; simp at this
  | [a, b], h =>
    have e := h.first; simp at e; subst e
    have e1 := h.on 0 (by simp); simp [n0] at e1; subst e1
    have := h.last 1 rfl 2 n1; simp at this
  | [a, b, d], h =>
    have e := h.first; simp at e; subst e
    have e1 := h.on 0 (by simp); simp [n0] at e1; subst e1
    have e2 := h.on 1 (by simp); simp [n1] at e2; subst e2
    rfl
  | a :: b :: d :: f :: r, h =>
    have e := h.first; simp at e; subst e
    have e1 := h.on 0 (by simp); simp [n0] at e1; subst e1
    have e2 := h.on 1 (by simp); simp [n1] at e2; subst e2
    have e3 := h.on 2 (by simp); simp [n2] at e3; subst e3
    have := h.nodup; simp at this
theorem ex_row (w : World) : RowW (w.heap.size + 1) (w.alloc (.cells #[.int .i64 0, .int .i64 1, .int .i64 1, .int .i64 2, .int .i64 2, .int .i64 1, .int .i64 3, .int .i64 4] 62)) (some ⟨w.heap.size, 0, none⟩) exW := fun i x hx => by
  have hb := Blk.new w 62 #[.int .i64 0, .int .i64 1, .int .i64 1, .int .i64 2, .int .i64 2, .int .i64 1, .int .i64 3, .int .i64 4]
  refine ⟨_, 0, rfl, by omega, fun j u hu => ?_⟩
  rw [hb.cell]
  match i, hx, j, hu with
  | 0, hx, 0, hu => cases hx; exact hu
  | 0, hx, 1, hu => cases hx; exact hu
  | 1, hx, 0, hu => cases hx; exact hu
  | 1, hx, 1, hu => cases hx; exact hu
  | 2, hx, 0, hu => cases hx; exact hu
  | 2, hx, 1, hu => cases hx; exact hu
  | 3, hx, 0, hu => cases hx; exact hu
  | 3, hx, 1, hu => cases hx; exact hu
theorem row_lit (w : World) (l : List Int) : RowN (w.heap.size + 1) (w.alloc (.cells (l.map (Value.int .i64)).toArray 3)) (some ⟨w.heap.size, 0, none⟩) l := fun i hi => by
  have hb := Blk.new w 3 (l.map (Value.int .i64)).toArray
  exact ⟨_, 0, rfl, by omega, by rw [Nat.zero_add, hb.cell]; simp [hi]⟩
theorem ex_64 : ∀ x ∈ exW, W64 x.1 ∧ W64 x.2 := by
  intro x hx
  simp only [exW, List.mem_cons, List.not_mem_nil, or_false] at hx
  rcases hx with rfl | rfl | rfl | rfl <;> exact ⟨w64_small (by decide) (by decide), w64_small (by decide) (by decide)⟩
set_option maxHeartbeats 8000000 in
theorem lives27_any (w : World) : Calls Try.prog 30 #[] w fun e w' => e = .returned (.bool true) ∧ Below w.heap.size w w' := by
  have hbl : Below w.heap.size w (w.alloc (.cells #[.int .i64 0, .int .i64 1, .int .i64 1, .int .i64 2, .int .i64 2, .int .i64 1, .int .i64 3, .int .i64 4] 62)) := (Below.refl _ _).alloc (Nat.le_refl _) _
  have hrow := ex_row w
  have hsz : (w.alloc (.cells #[.int .i64 0, .int .i64 1, .int .i64 1, .int .i64 2, .int .i64 2, .int .i64 1, .int .i64 3, .int .i64 4] 62)).heap.size = w.heap.size + 1 := by simp
  rw [← hsz] at hrow
  go_enter Try.func30, Try.ntmps30
  go_upto_region 2 with fail
  generalize w.alloc (.cells #[.int .i64 0, .int .i64 1, .int .i64 1, .int .i64 2, .int .i64 2, .int .i64 1, .int .i64 3, .int .i64 4] 62) = V at *
  have hle : w.heap.size ≤ V.heap.size := hbl.size
  have HBL := Lib.hid hbl; have HROW := Lib.hid hrow
  clear hbl hrow hsz
  generalize hgw : w.heap.size = g at *
  have HGW := Lib.hid hgw
  clear hgw
  have HLE := Lib.hid hle
  clear hle
  have HRD : Hid (∀ W, Below V.heap.size V W → Calls Try.prog 25 #[.slice (some ⟨g, 0, none⟩) 4 4] W fun e w' => ∃ A c, e = .returned (.slice A 2 c) ∧ RowN w'.heap.size w' A [1, 2] ∧ Below W.heap.size W w') := fun W h => by
    refine (Rounds27_any _ exW 4 4 rfl (by omega) ex_64 (by decide) W ((HROW.out.below h).mono h.size)).mono ?_
    rintro e w' ⟨v, rfl, ho, hb⟩
    rw [ex_rounds] at ho
    obtain ⟨A, c, rfl, -, hr⟩ := ownN_rowQ ho
    exact ⟨A, c, rfl, hr, hb⟩
  have HST : Hid (∀ W, Below V.heap.size V W → Calls Try.prog 27 #[.slice (some ⟨g, 0, none⟩) 4 4] W fun e w' => ∃ A c, e = .returned (.slice A 3 c) ∧ RowN w'.heap.size w' A [0, 1, 2] ∧ Below W.heap.size W w') := fun W h => by
    refine (Stuck27_any _ exW 4 4 rfl (by omega) ex_64 (by decide) W ((HROW.out.below h).mono h.size)).mono ?_
    rintro e w' ⟨v, rfl, ho, hb⟩
    rw [ex_stuck] at ho
    obtain ⟨A, c, rfl, -, hr⟩ := ownN_rowQ ho
    exact ⟨A, c, rfl, hr, hb⟩
  have HCH : Hid (∀ W, Below V.heap.size V W → Calls Try.prog 24 #[.slice (some ⟨g, 0, none⟩) 4 4, .int .i64 0] W fun e w' => ∃ A c, e = .returned (.slice A 3 c) ∧ RowN w'.heap.size w' A [0, 1, 2] ∧ Below W.heap.size W w') := fun W h => by
    refine (chain_any _ exW 4 4 rfl (by omega) ex_64 (by decide) 0 (w64_small (by decide) (by decide)) W ((HROW.out.below h).mono h.size)).mono ?_
    rintro e w' ⟨v, c, rfl, ho, hc, -, hb⟩
    rw [ex_chain hc] at ho
    obtain ⟨A, c, rfl, -, hr⟩ := ownN_rowQ ho
    exact ⟨A, c, rfl, hr, hb⟩
  have HS2 : Hid (∀ W A c, RowN W.heap.size W A [1, 2] → ∀ X, X = W.alloc (.cells #[.int .i64 1, .int .i64 2] 3) → Calls Try.prog 19 #[.slice A 2 c, .slice (some ⟨W.heap.size, 0, none⟩) 2 2] X fun e w' => e = .returned (.bool true) ∧ Below W.heap.size W w') := fun W A c h X hX => by
    subst hX
    have hb : Below W.heap.size W (W.alloc (.cells #[.int .i64 1, .int .i64 2] 3)) := (Below.refl _ _).alloc (Nat.le_refl _) _
    refine (same4Q_any A _ [1, 2] 2 c 2 rfl (by omega) _ ((h.below hb).monoQ hb.size) (by rw [World.size_alloc]; exact row_lit W [1, 2])).mono ?_
    rintro e w' ⟨rfl, h2⟩
    exact ⟨rfl, hb.trans (h2.mono hb.size)⟩
  have HS3 : Hid (∀ W A c, RowN W.heap.size W A [0, 1, 2] → ∀ X, X = W.alloc (.cells #[.int .i64 0, .int .i64 1, .int .i64 2] 3) → Calls Try.prog 19 #[.slice A 3 c, .slice (some ⟨W.heap.size, 0, none⟩) 3 3] X fun e w' => e = .returned (.bool true) ∧ Below W.heap.size W w') := fun W A c h X hX => by
    subst hX
    have hb : Below W.heap.size W (W.alloc (.cells #[.int .i64 0, .int .i64 1, .int .i64 2] 3)) := (Below.refl _ _).alloc (Nat.le_refl _) _
    refine (same4Q_any A _ [0, 1, 2] 3 c 3 rfl (by omega) _ ((h.below hb).monoQ hb.size) (by rw [World.size_alloc]; exact row_lit W [0, 1, 2])).mono ?_
    rintro e w' ⟨rfl, h2⟩
    exact ⟨rfl, hb.trans (h2.mono hb.size)⟩
  have HV0 := Lib.hid (Below.refl V.heap.size V)
  go_wp2_with (first
    | (go_at_call 25; (with_reducible refine (HRD.out _ HV0.out).mono ?_); rintro e w1 ⟨A1, c1, rfl, hr1, hb1⟩; have HR1 := Lib.hid hr1; have HB1 := Lib.hid (HV0.out.trans hb1); clear hr1 hb1)
    | (go_at_call 27; (with_reducible refine (HST.out _ HB2.out).mono ?_); rintro e w3 ⟨A3, c3, rfl, hr3, hb3⟩; have HR3 := Lib.hid hr3; have HB3 := Lib.hid (HB2.out.trans (hb3.mono HB2.out.size)); clear hr3 hb3)
    | (go_at_call 24; (with_reducible refine (HCH.out _ HB4.out).mono ?_); rintro e w5 ⟨A5, c5, rfl, hr5, hb5⟩; have HR5 := Lib.hid hr5; have HB5 := Lib.hid (HB4.out.trans (hb5.mono HB4.out.size)); clear hr5 hb5)
    | (go_at_call 19; (with_reducible refine (HS2.out _ _ _ HR1.out _ rfl).mono ?_); rintro e w2 ⟨rfl, hb2⟩; have HB2 := Lib.hid (HB1.out.trans (hb2.mono HB1.out.size)); clear hb2)
    | (go_at_call 19; (with_reducible refine (HS3.out _ _ _ HR3.out _ rfl).mono ?_); rintro e w4 ⟨rfl, hb4⟩; have HB4 := Lib.hid (HB3.out.trans (hb4.mono HB3.out.size)); clear hb4)
    | (go_at_call 19; (with_reducible refine (HS3.out _ _ _ HR5.out _ rfl).mono ?_); rintro e w6 ⟨rfl, hb6⟩; have HB6 := Lib.hid (HB5.out.trans (hb6.mono HB5.out.size)); clear hb6))
  go_ret
  rw [HGW.out]
  exact ⟨rfl, HBL.out.trans (HB6.out.mono HLE.out)⟩
end Go.Proofs.Ytogplndhciaoeaa
