/- The document's Dec of layer 9: a number's text. -/
import Derived.Test.YtndekdelhngblaaDoorWz
import Derived.Laws.Concat
namespace Go.Proofs.YtndekdelhngblaaDoor
open Go.RowKit

theorem conv_at {W : World} {g : Nat} {b : UInt8} {x : Int} (hx : x = (b.toNat : Int)) (h : W.cell? ⟨g, 0, none⟩ = some (.int .u8 x)) : (convert 43 9 (.slice (some ⟨g, 0, none⟩) 1 1)).run Tryd.prog W = .ok (.string { data := #[b] }) W := by
  subst hx
  refine run_convert_bytes_back W _ _ _ ⟨g, 0, none⟩ 1 [b] Tryd.underlying43 Tryd.underlying5 Tryd.underlying9 fun j hj => ?_
  obtain rfl : j = 0 := by simp at hj; exact hj
  exact h
theorem byte_of (x : Nat) (h : x < 256) : ∃ b : UInt8, b = UInt8.ofNat x ∧ (x : Int) = (b.toNat : Int) := ⟨_, rfl, by simp; omega⟩
/-- What is left of a number's digits, and what stands already. -/
structure DcI (U : Nat) (u i : Nat) (s : List UInt8) : Prop where
  dig : Lib.decDigits U = Lib.decDigits u ++ s
  le : u * 10 ^ i ≤ U
  pos : 0 < i → 1 ≤ u
  len : s.length = i
  nz : 1 ≤ U → 1 ≤ u
theorem DcI.lim {U u i : Nat} {s : List UInt8} (h : DcI U u i s) (hU : U ≤ 9223372036854775808) : i ≤ 18 := by
  by_cases q : i ≤ 18
  · exact q
  · have h1 := h.pos (by omega)
    have h2 : 10 ^ 19 ≤ 10 ^ i := Nat.pow_le_pow_right (by decide) (by omega)
    have h3 : 10 ^ i ≤ u * 10 ^ i := Nat.le_mul_of_pos_left _ h1
    have := h.le
    omega
theorem DcI.next {U u i : Nat} {s : List UInt8} (h : DcI U u i s) (hu : ¬ u < 10) : DcI U (u / 10) (i + 1) (UInt8.ofNat (48 + u % 10) :: s) := by
  refine ⟨?_, ?_, fun _ => by omega, by simp [h.len], fun _ => by omega⟩
  · rw [h.dig, Lib.decDigits, dif_neg hu]; simp
  · have := h.le
    refine Nat.le_trans ?_ this
    rw [Nat.pow_succ, Nat.mul_comm (10 ^ i) 10, ← Nat.mul_assoc]
    exact Nat.mul_le_mul_right _ (Nat.div_mul_le_self u 10)
theorem DcI.last {U u i : Nat} {s : List UInt8} (h : DcI U u i s) (hu : u < 10) : Lib.decDigits U = UInt8.ofNat (48 + u % 10) :: s := by
  rw [h.dig, Lib.decDigits, dif_pos hu, show u % 10 = u by omega]; rfl
theorem one_app (b : UInt8) (s : List UInt8) : (⟨#[b]⟩ : ByteArray) ++ ⟨s.toArray⟩ = ⟨(b :: s).toArray⟩ := mk_app [b] s
set_option maxRecDepth 100000 in
set_option maxHeartbeats 4000000 in
theorem decP (U : Nat) (hU : U ≤ 9223372036854775807) (w : World) :
    Calls Tryd.prog 24 #[.int .i64 (U : Int)] w (GotB w.heap.size (.string ⟨(Lib.decDigits U).toArray⟩) w) := by
  go_enter Tryd.func24, Tryd.ntmps24
  go_wp2_with fail
  go_loopw [0, 3, 4] (fun a b c wr => ∃ (u i : Nat) (s : List UInt8), a = .int .i64 (u : Int) ∧ b = .string ⟨s.toArray⟩ ∧ c = .int .i64 i ∧ DcI U u i s ∧ Below w.heap.size w wr) (fun _ _ c _ => 20 - (intOf c).toNat)
  case atStart => exact ⟨U, 0, [], rfl, rfl, rfl, ⟨by simp, by simp, fun h => absurd h (by omega), rfl, id⟩, Below.refl _ _⟩
  case round =>
    obtain ⟨u, i, s, rfl, rfl, rfl, hD, hB⟩ := hrel
    have hi := hD.lim (by omega)
    have huU : u ≤ U := by
      have h1 := hD.le
      have h2 : u * 1 ≤ u * 10 ^ i := Nat.mul_le_mul_left u (Nat.pos_of_ne_zero (by simp))
      omega
    have t0 : (i : Int) < 19 := by omega
    obtain ⟨m, hm⟩ : ∃ m, u % 10 = m := ⟨_, rfl⟩
    have hm10 : m < 10 := by omega
    obtain ⟨b, hb, hx⟩ := byte_of (48 + m) (by omega)
    have hcv := fun W (h : W.cell? ⟨wr.heap.size, 0, none⟩ = some (.int .u8 (48 + (m : Int)))) => conv_at (W := W) (g := wr.heap.size) (b := b) (x := 48 + (m : Int)) (by omega) h
    have hcv := hcv (wr.alloc (.cells #[.int .u8 (48 + (m : Int))] 5)) (cell_one_new wr (.int .u8 (48 + (m : Int))) 5 0 _ rfl)
    have hlen : ¬ 9223372036854775807 < 1 + s.length := by have := hD.len; omega
    have wm : IntKind.i64.wrap (48 + (m : Int)) = 48 + (m : Int) := IntWalk.i64_in _ (by omega)
    have wu : IntKind.u8.wrap (48 + (m : Int)) = 48 + (m : Int) := IntWalk.u8_in _ (by omega)
    have HB2 := Lib.hid (hB.alloc hB.size (.cells #[.int .u8 (48 + (m : Int))] 5))
    have HA := Lib.hid (one_app b s)
    have wi : IntKind.i64.wrap ((i : Int) + 1) = (i : Int) + 1 := IntWalk.i64_in _ (by omega)
    have HI := Lib.hid hi
    clear hB hx
    by_cases hu : u < 10
    · have hl := hD.last hu; rw [hm, ← hb] at hl; have HL := Lib.hid hl; clear hl hD
      have hr : (u : Int).tmod 10 = ((m : Nat) : Int) := by rw [Int.tmod_eq_emod_of_nonneg (by omega)]; omega
      have hr2 : (u : Int) % 10 = ((m : Nat) : Int) := by omega
      have hq : (u : Int).tdiv 10 = ((u / 10 : Nat) : Int) := by rw [Int.tdiv_eq_ediv_of_nonneg (by omega)]; omega
      have wq : IntKind.i64.wrap ((u / 10 : Nat) : Int) = ((u / 10 : Nat) : Int) := IntWalk.i64_in _ (by omega)
      have hm0 : ¬ (m : Int) < 0 := by omega
      have g1 : (-10 : Int) < (u : Int) := by omega
      have g2 : (u : Int) < 10 := by omega
      have g3 : ¬ (u : Int) < 0 := by omega
      clear hb hm
      go_wp2_with fail
      go_ret
      exact ⟨by rw [HA.out, HL.out] <;> rfl, HB2.out⟩
    · have hn := hD.next hu; rw [hm, ← hb] at hn; have HN := Lib.hid hn; clear hn hD
      have hr : (u : Int).tmod 10 = ((m : Nat) : Int) := by rw [Int.tmod_eq_emod_of_nonneg (by omega)]; omega
      have hr2 : (u : Int) % 10 = ((m : Nat) : Int) := by omega
      have hq : (u : Int).tdiv 10 = ((u / 10 : Nat) : Int) := by rw [Int.tdiv_eq_ediv_of_nonneg (by omega)]; omega
      have wq : IntKind.i64.wrap ((u / 10 : Nat) : Int) = ((u / 10 : Nat) : Int) := IntWalk.i64_in _ (by omega)
      have hm0 : ¬ (m : Int) < 0 := by omega
      have g1 : (-10 : Int) < (u : Int) := by omega
      have g2 : ¬ (u : Int) < 10 := by omega
      clear hb hm
      go_wp2_with fail
      go_roundw
      case rel => exact ⟨u / 10, i + 1, b :: s, rfl, by rw [HA.out], by go_num, HN.out, HB2.out⟩
      case measure => have := HI.out; simp [intOf]; omega
set_option maxRecDepth 100000 in
set_option maxHeartbeats 4000000 in
theorem decN (U : Nat) (h0 : 1 ≤ U) (hU : U ≤ 9223372036854775808) (w : World) :
    Calls Tryd.prog 24 #[.int .i64 (-(U : Int))] w (GotB w.heap.size (.string ⟨(45 :: Lib.decDigits U).toArray⟩) w) := by
  go_enter Tryd.func24, Tryd.ntmps24
  go_wp2_with fail
  go_loopw [0, 3, 4] (fun a b c wr => ∃ (u i : Nat) (s : List UInt8), a = .int .i64 (-(u : Int)) ∧ b = .string ⟨s.toArray⟩ ∧ c = .int .i64 i ∧ DcI U u i s ∧ Below w.heap.size w wr) (fun _ _ c _ => 20 - (intOf c).toNat)
  case atStart => exact ⟨U, 0, [], rfl, rfl, rfl, ⟨by simp, by simp, fun h => absurd h (by omega), rfl, id⟩, Below.refl _ _⟩
  case round =>
    obtain ⟨u, i, s, rfl, rfl, rfl, hD, hB⟩ := hrel
    have hi := hD.lim (by omega)
    have huU : u ≤ U := by
      have h1 := hD.le
      have h2 : u * 1 ≤ u * 10 ^ i := Nat.mul_le_mul_left u (Nat.pos_of_ne_zero (by simp))
      omega
    have t0 : (i : Int) < 19 := by omega
    obtain ⟨m, hm⟩ : ∃ m, u % 10 = m := ⟨_, rfl⟩
    have hm10 : m < 10 := by omega
    obtain ⟨b, hb, hx⟩ := byte_of (48 + m) (by omega)
    have hcv := fun W (h : W.cell? ⟨wr.heap.size, 0, none⟩ = some (.int .u8 (48 + (m : Int)))) => conv_at (W := W) (g := wr.heap.size) (b := b) (x := 48 + (m : Int)) (by omega) h
    have hcv := hcv (wr.alloc (.cells #[.int .u8 (48 + (m : Int))] 5)) (cell_one_new wr (.int .u8 (48 + (m : Int))) 5 0 _ rfl)
    have hlen : ¬ 9223372036854775807 < 1 + s.length := by have := hD.len; omega
    have wm : IntKind.i64.wrap (48 + (m : Int)) = 48 + (m : Int) := IntWalk.i64_in _ (by omega)
    have wu : IntKind.u8.wrap (48 + (m : Int)) = 48 + (m : Int) := IntWalk.u8_in _ (by omega)
    have HB2 := Lib.hid (hB.alloc hB.size (.cells #[.int .u8 (48 + (m : Int))] 5))
    have HA := Lib.hid (one_app b s)
    have wi : IntKind.i64.wrap ((i : Int) + 1) = (i : Int) + 1 := IntWalk.i64_in _ (by omega)
    have HI := Lib.hid hi
    clear hB hx
    have H1 := Lib.hid (hD.nz h0)
    have LEN := Lib.hid hD.len
    by_cases hu : u < 10
    · by_cases hz : m = 0
      · subst hz
        have hl := hD.last hu; rw [hm, ← hb] at hl; have HL := Lib.hid hl; clear hl hD
        have hr : (-(u : Int)).tmod 10 = 0 := by rw [Int.neg_tmod, Int.tmod_eq_emod_of_nonneg (by omega)]; omega
        have hq : (-(u : Int)).tdiv 10 = -((u / 10 : Nat) : Int) := by rw [Int.neg_tdiv, Int.tdiv_eq_ediv_of_nonneg (by omega)]; omega
        have wq : IntKind.i64.wrap (-((u / 10 : Nat) : Int)) = -((u / 10 : Nat) : Int) := IntWalk.i64_in _ (by omega)
        have hu1 : 1 ≤ u := H1.out
        have g1 : (-10 : Int) < -(u : Int) := by omega
        have g2 : -(u : Int) < 10 := by omega
        have g3 : -(u : Int) < 0 := by omega
        have hl2 : ¬ 9223372036854775807 < 1 + (1 + s.length) := by have := LEN.out; omega
        have hl3 : ¬ 9223372036854775807 < 1 + (s.length + 1) := by have := LEN.out; omega
        clear hb hm
        go_wp2_with fail
        go_ret
        exact ⟨by rw [HA.out, one_app, HL.out] <;> rfl, HB2.out⟩
      · have hl := hD.last hu; rw [hm, ← hb] at hl; have HL := Lib.hid hl; clear hl hD
        have hr : (-(u : Int)).tmod 10 = -((m : Nat) : Int) := by rw [Int.neg_tmod, Int.tmod_eq_emod_of_nonneg (by omega)]; omega
        have hm0 : -(m : Int) < 0 := by omega
        have wn : IntKind.i64.wrap (m : Int) = (m : Int) := IntWalk.i64_in _ (by omega)
        have wn2 : IntKind.i64.wrap (- -(m : Int)) = (m : Int) := by rw [Int.neg_neg]; exact wn
        have hq : (-(u : Int)).tdiv 10 = -((u / 10 : Nat) : Int) := by rw [Int.neg_tdiv, Int.tdiv_eq_ediv_of_nonneg (by omega)]; omega
        have wq : IntKind.i64.wrap (-((u / 10 : Nat) : Int)) = -((u / 10 : Nat) : Int) := IntWalk.i64_in _ (by omega)
        have hu1 : 1 ≤ u := H1.out
        have g1 : (-10 : Int) < -(u : Int) := by omega
        have g2 : -(u : Int) < 10 := by omega
        have g3 : -(u : Int) < 0 := by omega
        have hl2 : ¬ 9223372036854775807 < 1 + (1 + s.length) := by have := LEN.out; omega
        have hl3 : ¬ 9223372036854775807 < 1 + (s.length + 1) := by have := LEN.out; omega
        clear hb hm
        go_wp2_with fail
        go_ret
        exact ⟨by rw [HA.out, one_app, HL.out] <;> rfl, HB2.out⟩
    · by_cases hz : m = 0
      · subst hz
        have hn := hD.next hu; rw [hm, ← hb] at hn; have HN := Lib.hid hn; clear hn hD
        have hr : (-(u : Int)).tmod 10 = 0 := by rw [Int.neg_tmod, Int.tmod_eq_emod_of_nonneg (by omega)]; omega
        have hq : (-(u : Int)).tdiv 10 = -((u / 10 : Nat) : Int) := by rw [Int.neg_tdiv, Int.tdiv_eq_ediv_of_nonneg (by omega)]; omega
        have wq : IntKind.i64.wrap (-((u / 10 : Nat) : Int)) = -((u / 10 : Nat) : Int) := IntWalk.i64_in _ (by omega)
        have g1 : ¬ (-10 : Int) < -(u : Int) := by omega
        clear hb hm
        go_wp2_with fail
        go_roundw
        case rel => exact ⟨u / 10, i + 1, b :: s, rfl, by rw [HA.out], by go_num, HN.out, HB2.out⟩
        case measure => have := HI.out; simp [intOf]; omega
      · have hn := hD.next hu; rw [hm, ← hb] at hn; have HN := Lib.hid hn; clear hn hD
        have hr : (-(u : Int)).tmod 10 = -((m : Nat) : Int) := by rw [Int.neg_tmod, Int.tmod_eq_emod_of_nonneg (by omega)]; omega
        have hm0 : -(m : Int) < 0 := by omega
        have wn : IntKind.i64.wrap (m : Int) = (m : Int) := IntWalk.i64_in _ (by omega)
        have wn2 : IntKind.i64.wrap (- -(m : Int)) = (m : Int) := by rw [Int.neg_neg]; exact wn
        have hq : (-(u : Int)).tdiv 10 = -((u / 10 : Nat) : Int) := by rw [Int.neg_tdiv, Int.tdiv_eq_ediv_of_nonneg (by omega)]; omega
        have wq : IntKind.i64.wrap (-((u / 10 : Nat) : Int)) = -((u / 10 : Nat) : Int) := IntWalk.i64_in _ (by omega)
        have g1 : ¬ (-10 : Int) < -(u : Int) := by omega
        clear hb hm
        go_wp2_with fail
        go_roundw
        case rel => exact ⟨u / 10, i + 1, b :: s, rfl, by rw [HA.out], by go_num, HN.out, HB2.out⟩
        case measure => have := HI.out; simp [intOf]; omega
theorem refDec_any (n : Int) (hn : In64 n) (w : World) : Calls Tryd.prog 24 #[.int .i64 n] w (GotB w.heap.size (.string ⟨(Lib.itoa n).toArray⟩) w) := by
  obtain ⟨h0, h1⟩ := hn
  by_cases h : n < 0
  · obtain ⟨U, rfl⟩ : ∃ U : Nat, n = -(U : Int) := ⟨n.natAbs, by omega⟩
    have := decN U (by omega) (by omega) w
    rw [Lib.itoa_neg U (by omega)]; exact this
  · obtain ⟨U, rfl⟩ : ∃ U : Nat, n = (U : Int) := ⟨n.toNat, by omega⟩
    have := decP U (by omega) w
    rw [Lib.itoa_nonneg]; exact this
end Go.Proofs.YtndekdelhngblaaDoor
