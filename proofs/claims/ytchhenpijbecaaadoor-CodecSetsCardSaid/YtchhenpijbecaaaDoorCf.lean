/- layer 31 (codec): GetInt. -/
import Derived.Test.YtchhenpijbecaaaDoorCe
namespace Go.Proofs.YtchhenpijbecaaaDoor
open Go.RowKit
set_option maxRecDepth 100000

/-- the number that stands in bytes from any place on, and the place behind it. -/
def getI (l : List UInt8) (k : Int) : Option (Int × Nat) := if 0 ≤ k ∧ k ≤ l.length then getN l k.toNat else none
def tupI : Option (Int × Nat) → Value
  | none => .tuple #[.int .i64 0, .int .i64 0, .bool false]
  | some (x, m) => .tuple #[.int .i64 x, .int .i64 m, .bool true]
theorem key_or (i u x : Nat) (hi : i ≤ 9) (hu : u < 128 ^ i) (hx : x < 256) (h9 : i = 9 → x ≤ 1) :
    bits .or .u64 (u : Int) (IntKind.u64.wrap (IntKind.u64.wrap (bits .andNot .u8 (x : Int) 128) * 2 ^ (7 * i))) = ((u + x % 128 * 128 ^ i : Nat) : Int) := by
  have hp : (128 : Nat) ^ i = 2 ^ (7 * i) := by rw [show (128 : Nat) = 2 ^ 7 from rfl, ← Nat.pow_mul]
  have hlt : x % 128 * 2 ^ (7 * i) < 2 ^ 64 := by
    by_cases e : i = 9
    · subst e
      have := h9 rfl
      have : x % 128 * 2 ^ (7 * 9) ≤ 1 * 2 ^ (7 * 9) := Nat.mul_le_mul_right _ (by omega)
      have e : (2 : Nat) ^ (7 * 9) = 9223372036854775808 := by decide
      omega
    · have h1 : x % 128 * 2 ^ (7 * i) ≤ 127 * 2 ^ (7 * i) := Nat.mul_le_mul_right _ (by omega)
      have h2 : (2 : Nat) ^ (7 * i) ≤ 2 ^ (7 * 8) := Nat.pow_le_pow_right (by decide) (by omega)
      have e : (2 : Nat) ^ (7 * 8) = 72057594037927936 := by decide
      omega
  have hlt2 : (2 : Nat) ^ (7 * i) ≤ 2 ^ 63 := Nat.pow_le_pow_right (by decide) (by omega)
  rw [not_128 x hx, wraps_u64 ((x % 128 : Nat) : Int) (by omega) (by omega)]
  have e1 : ((x % 128 : Nat) : Int) * 2 ^ (7 * i) = ((x % 128 * 2 ^ (7 * i) : Nat) : Int) := by simp
  rw [e1, wraps_u64 _ (by omega) (by omega), hp]
  rw [bits_join_low .u64 64 (by decide) wraps_u64 (7 * i) (u : Int) _ (by omega) ?_ ?_ (by omega) ?_ (by omega)]
  · simp
  · have : u < 2 ^ (7 * i) := by rw [← hp]; exact hu
    exact_mod_cast this
  · have : u < 2 ^ (7 * i) := by rw [← hp]; exact hu
    have : u < 2 ^ 64 := by omega
    exact_mod_cast this
  · have : (x % 128 * 2 ^ (7 * i)) % 2 ^ (7 * i) = 0 := Nat.mul_mod_left _ _
    exact_mod_cast this
set_option maxHeartbeats 4000000 in
theorem getInt_any (A : Option Addr) (l : List UInt8) (n cap : Nat) (hn : l.length = n) (hc : n ≤ cap) (hl : n ≤ 900000) (B : Nat) (k : Int) (hk : B64 k) (w : World) (hA : BysIn B w A l) :
    Calls Tryd.prog 8 #[.slice A n cap, .int .i64 k] w fun e w' => e = .returned (tupI (getI l k)) ∧ w = w' := by
  have HA := Lib.hid hA; have HN := Lib.hid hn
  unfold B64 at hk
  clear hA hn
  go_enter Tryd.func8, Tryd.ntmps8
  by_cases h0 : k < 0
  · have hE : Hid (getI l k = none) := by
      show _ = _
      unfold getI; rw [if_neg (by omega)]
    go_wp2_with fail
    go_ret3
    rw [hE.out]; exact ⟨rfl, rfl⟩
  · obtain ⟨at', rfl⟩ : ∃ m : Nat, k = m := ⟨k.toNat, by omega⟩
    by_cases h1 : n < at'
    · have hE : Hid (getI l at' = none) := by
        show _ = _
        unfold getI; rw [if_neg (by have := HN.out; omega)]
      have k1 : (at' : Int) > (n : Int) := by omega
      go_wp2_with fail
      go_ret3
      rw [hE.out]; exact ⟨rfl, rfl⟩
    · have hE : Hid (getI l at' = (dec 0 0 (l.drop at')).map fun p => (unfoldI p.1, at' + p.2)) := by
        show _ = _
        unfold getI; rw [if_pos (by have := HN.out; omega)]; rfl
      have k1 : ¬ (at' : Int) > (n : Int) := by omega
      by_cases he : at' = n
      · subst he
        have k2 : ((at' : Nat) : Int) ≤ (cap : Int) := by omega
        have hD : Hid (l.drop at' = []) := by show _ = _; rw [← HN.out]; exact List.drop_length
        go_wp2_with fail
        all_goals
          go_loopw [7, 22] (fun uv iv wr => iv = .int .i64 (0 : Nat) ∧ uv = .int .u64 (0 : Nat) ∧ wr = w) (fun _ iv _ => 0)
          case atStart => exact ⟨rfl, rfl, rfl⟩
          case round =>
            obtain ⟨rfl, rfl, rfl⟩ := hrel
            go_wp2_with fail
            go_ret3
            rw [hE.out, hD.out]; exact ⟨rfl, rfl⟩
      · have hat : at' ≤ 900000 := by omega
        have k2 : (at' : Int) ≤ (n : Int) := by omega
        have k3 : (n : Int) ≤ (cap : Int) := by omega
        have k4 : ¬ cap = at' := by omega
        obtain ⟨b, off, rfl, hb, -⟩ := HA.out at' (by rw [HN.out]; omega)
        obtain ⟨R, hR⟩ : ∃ R, dec 0 0 (l.drop at') = R := ⟨_, rfl⟩
        rw [hR] at hE
        have HR := Lib.hid hR
        clear hR
        go_wp2_with fail
        go_loopw [7, 22] (fun uv iv wr => ∃ (i u : Nat), iv = .int .i64 i ∧ uv = .int .u64 u ∧ i ≤ 9 ∧ i ≤ n - at' ∧ u < 128 ^ i ∧ dec i u (l.drop (at' + i)) = R ∧ wr = w) (fun _ iv _ => n - (intOf iv).toNat)
        case atStart => exact ⟨0, 0, rfl, rfl, by omega, by omega, by simp, HR.out, rfl⟩
        case round =>
          obtain ⟨i, u, rfl, rfl, hi9, hi, hu, hdec, rfl⟩ := hrel
          have HU := Lib.hid hu; have HD := Lib.hid hdec
          clear hu hdec
          by_cases hlt : i < n - at'
          · have hlx : at' + i < l.length := by rw [HN.out]; omega
            obtain ⟨b', off', e', -, hcell⟩ := HA.out (at' + i) hlx
            injection e' with e'; injection e' with e1 e2
            subst e1 e2
            have HC : Hid (l.drop (at' + i) = l[at' + i] :: l.drop (at' + (i + 1))) := by
              show _ = _
              rw [← List.getElem_cons_drop hlx]; rfl
            generalize l[at' + i] = c at *
            have hc256 := c.toNat_lt
            obtain ⟨x, hx⟩ : ∃ x, c.toNat = x := ⟨_, rfl⟩
            have HX := Lib.hid hx
            rw [hx] at hcell hc256
            clear hx
            have k5 : (i : Int) < ((n - at' : Nat) : Int) := by omega
            have k6 : (0 : Int) ≤ (i : Int) := by omega
            have k7 : off + at' + i = off + (at' + i) := by omega
            have HDD : Hid (R = dec i u (c :: l.drop (at' + (i + 1)))) := by show _ = _; rw [← HC.out, HD.out]
            go_upto_region 7 with fail
            by_cases hbad : i = 9 ∧ 1 < x
            · have k8 : ((i : Int) == 9) = true := by simp; omega
              have k9 : (x : Int) > 1 := by omega
              have HE : Hid (R = none) := by
                show _ = _
                rw [HDD.out, dec, HX.out, if_pos hbad]
              go_wp2_with fail
              go_ret3
              rw [hE.out, HE.out]; exact ⟨rfl, rfl⟩
            · obtain ⟨u2, hu2⟩ : ∃ u2, u + x % 128 * 128 ^ i = u2 := ⟨_, rfl⟩
              have key := key_or i u x hi9 HU.out hc256 (fun e => by omega)
              rw [hu2] at key
              have HU2 := Lib.hid hu2
              clear hu2
              have HUB : Hid (u2 < 18446744073709551616) := by
                have h1 := bits_within .or .u64 (u : Int) (IntKind.u64.wrap (IntKind.u64.wrap (bits .andNot .u8 (x : Int) 128) * 2 ^ (7 * i)))
                rw [key] at h1
                have := h1.2
                show u2 < _
                have e : IntKind.u64.max = 18446744073709551615 := by decide
                omega
              by_cases h128 : 128 ≤ x
              · have k8 : ((i : Int) == 9) = false := by simp; omega
                have kx : (x : Int) ≥ 128 := by omega
                have HE : Hid (dec (i + 1) u2 (l.drop (at' + (i + 1))) = R) := by
                  show _ = _
                  rw [HDD.out, dec, HX.out, if_neg (by omega), if_pos h128, HU2.out]
                have HP : Hid (u2 < 128 ^ (i + 1)) := by
                  show _ < _
                  have h1 : x % 128 * 128 ^ i ≤ 127 * 128 ^ i := Nat.mul_le_mul_right _ (by omega)
                  have h2 : 128 ^ (i + 1) = 128 ^ i * 128 := Nat.pow_succ ..
                  have := HU.out; have := HU2.out
                  omega
                go_wp2_with fail
                go_roundw
                case rel => exact ⟨i + 1, u2, by go_num, rfl, by omega, by omega, HP.out, HE.out, trivial⟩
                case measure => simp [intOf]; omega
              · have kx : ¬ (x : Int) ≥ 128 := by omega
                by_cases h00 : 0 < i ∧ x = 0
                · have HE : Hid (R = none) := by
                    show _ = _
                    rw [HDD.out, dec, HX.out, if_neg (by omega), if_neg h128, if_pos h00]
                  have k12 : ((x : Int) == 0) = true := by simp; omega
                  have k13 : (i : Int) > 0 := by omega
                  by_cases h9 : i = 9
                  · have k9 : ¬ (x : Int) > 1 := by omega
                    subst h9
                    clear key
                    go_wp2_with fail
                    go_ret3
                    rw [hE.out, HE.out]; exact ⟨rfl, rfl⟩
                  · have k8 : ((i : Int) == 9) = false := by simp; omega
                    go_upto_region 10 with fail
                    clear key
                    go_wp2_with fail
                    go_ret3
                    rw [hE.out, HE.out]; exact ⟨rfl, rfl⟩
                · have HE : Hid (R = some (u2, i + 1)) := by
                    show _ = _
                    rw [HDD.out, dec, HX.out, if_neg (by omega), if_neg h128, if_neg h00, HU2.out]
                  have HUN := Lib.hid (unfold_any u2 HUB.out wr)
                  have H00 := Lib.hid h00
                  clear h00
                  by_cases h9 : i = 9
                  · have k9 : ¬ (x : Int) > 1 := by omega
                    obtain rfl : x = 1 := by have := H00.out; omega
                    subst h9
                    have key2 : bits .or .u64 (u : Int) (IntKind.u64.wrap (IntKind.u64.wrap (bits .andNot .u8 1 128) * 9223372036854775808)) = (u2 : Int) := by simpa using key
                    clear key
                    go_wp2_with (go_at_call 27; (with_reducible refine HUN.out.mono ?_); rintro e w' ⟨rfl, rfl⟩)
                    go_ret3
                    rw [hE.out, HE.out]; exact ⟨rfl, rfl⟩
                  · have k8 : ((i : Int) == 9) = false := by simp; omega
                    go_upto_region 10 with fail
                    clear key
                    by_cases hx0 : x = 0
                    · have k12 : ((x : Int) == 0) = true := by simp; omega
                      have k13 : ¬ (i : Int) > 0 := by have := H00.out; omega
                      go_wp2_with (go_at_call 27; (with_reducible refine HUN.out.mono ?_); rintro e w' ⟨rfl, rfl⟩)
                      go_ret3
                      rw [hE.out, HE.out]; exact ⟨by show Ending.returned (.tuple #[.int .i64 (unfoldI u2), .int .i64 ((at' : Int) + (i : Int) + 1), .bool true]) = .returned (.tuple #[.int .i64 (unfoldI u2), .int .i64 ((at' + (i + 1) : Nat) : Int), .bool true]); rw [show ((at' + (i + 1) : Nat) : Int) = (at' : Int) + (i : Int) + 1 by push_cast; omega], rfl⟩
                    · have k12 : ((x : Int) == 0) = false := by simp; omega
                      go_wp2_with (go_at_call 27; (with_reducible refine HUN.out.mono ?_); rintro e w' ⟨rfl, rfl⟩)
                      go_ret3
                      rw [hE.out, HE.out]; exact ⟨by show Ending.returned (.tuple #[.int .i64 (unfoldI u2), .int .i64 ((at' : Int) + (i : Int) + 1), .bool true]) = .returned (.tuple #[.int .i64 (unfoldI u2), .int .i64 ((at' + (i + 1) : Nat) : Int), .bool true]); rw [show ((at' + (i + 1) : Nat) : Int) = (at' : Int) + (i : Int) + 1 by push_cast; omega], rfl⟩
          · have k5 : ¬ (i : Int) < ((n - at' : Nat) : Int) := by omega
            have HE : Hid (R = none) := by
              show _ = _
              rw [← HD.out, List.drop_eq_nil_of_le (by rw [HN.out]; omega)]; rfl
            go_wp2_with fail
            go_ret3
            rw [hE.out, HE.out]; exact ⟨rfl, rfl⟩
end Go.Proofs.YtchhenpijbecaaaDoor
