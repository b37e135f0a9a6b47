/- layer 31 (codec): the document's Get. -/
import Derived.Test.YtchhenpijbecaaaDoorCk
namespace Go.Proofs.YtchhenpijbecaaaDoor
open Go.RowKit
set_option maxRecDepth 100000

theorem part_lt (i x : Nat) (hi : i ≤ 9) (hx : x < 256) (h9 : i = 9 → x ≤ 1) : x % 128 * 128 ^ i < 18446744073709551616 := by
  by_cases e : i = 9
  · subst e
    have := h9 rfl
    have : x % 128 * 128 ^ 9 ≤ 1 * 128 ^ 9 := Nat.mul_le_mul_right _ (by omega)
    have e : (128 : Nat) ^ 9 = 9223372036854775808 := by decide
    omega
  · have h1 : x % 128 * 128 ^ i ≤ 127 * 128 ^ i := Nat.mul_le_mul_right _ (by omega)
    have h2 : (128 : Nat) ^ i ≤ 128 ^ 8 := Nat.pow_le_pow_right (by decide) (by omega)
    have e : (128 : Nat) ^ 8 = 72057594037927936 := by decide
    omega
theorem sum_lt (i u x : Nat) (hi : i ≤ 9) (hu : u < 128 ^ i) (hx : x < 256) (h9 : i = 9 → x ≤ 1) : u + x % 128 * 128 ^ i < 18446744073709551616 := by
  have h1 := bits_within .or .u64 (u : Int) (IntKind.u64.wrap (IntKind.u64.wrap (bits .andNot .u8 (x : Int) 128) * 2 ^ (7 * i)))
  rw [key_or i u x hi hu hx h9] at h1
  have := h1.2
  have e : IntKind.u64.max = 18446744073709551615 := by decide
  omega
theorem part_step (i k x : Nat) (hk : k < i) (hi : i ≤ 9) (hx : x < 256) (h9 : i = 9 → x ≤ 1) : x % 128 * 128 ^ k * 128 < 18446744073709551616 := by
  have h1 := part_lt i x hi hx h9
  have h2 : (128 : Nat) ^ (k + 1) ≤ 128 ^ i := Nat.pow_le_pow_right (by decide) hk
  have h3 : x % 128 * 128 ^ (k + 1) ≤ x % 128 * 128 ^ i := Nat.mul_le_mul_left _ h2
  rw [Nat.pow_succ, ← Nat.mul_assoc] at h3
  omega
def getD (l : List UInt8) (k : Int) : Option (Int × Nat) := if 0 ≤ k ∧ k ≤ l.length then (dec 0 0 (l.drop k.toNat)).map fun p => (unfoldI p.1, p.2) else none
def tupD : Option (Int × Nat) → Value
  | none => .tuple #[.int .i64 0, .int .i64 0]
  | some (x, m) => .tuple #[.int .i64 x, .int .i64 m]
theorem getI_D (l : List UInt8) (k : Int) : getI l k = (getD l k).map fun p => (p.1, k.toNat + p.2) := by
  unfold getI getD
  split
  · unfold getN; cases dec 0 0 (l.drop k.toNat) <;> rfl
  · rfl
set_option maxHeartbeats 8000000 in
theorem refGet_any (A : Option Addr) (l : List UInt8) (n cap : Nat) (hn : l.length = n) (hl : n ≤ 900000) (B : Nat) (k : Int) (hk : B64 k) (w : World) (hA : BysIn B w A l) :
    Calls Tryd.prog 9 #[.slice A n cap, .int .i64 k] w fun e w' => e = .returned (tupD (getD l k)) ∧ w = w' := by
  have HA := Lib.hid hA; have HN := Lib.hid hn
  unfold B64 at hk
  clear hA hn
  go_enter Tryd.func9, Tryd.ntmps9
  by_cases h0 : k < 0
  · have hE : Hid (getD l k = none) := by
      show _ = _
      unfold getD; rw [if_neg (by omega)]
    go_wp2_with fail
    go_ret2
    rw [hE.out]; exact ⟨rfl, rfl⟩
  · obtain ⟨at', rfl⟩ : ∃ m : Nat, k = m := ⟨k.toNat, by omega⟩
    by_cases h1 : n < at'
    · have hE : Hid (getD l at' = none) := by
        show _ = _
        unfold getD; rw [if_neg (by have := HN.out; omega)]
      have k1 : (at' : Int) > (n : Int) := by omega
      go_wp2_with fail
      go_ret2
      rw [hE.out]; exact ⟨rfl, rfl⟩
    · have hE : Hid (getD l at' = (dec 0 0 (l.drop at')).map fun p => (unfoldI p.1, p.2)) := by
        show _ = _
        unfold getD; rw [if_pos (by have := HN.out; omega)]; rfl
      have k1 : ¬ (at' : Int) > (n : Int) := by omega
      have hat : at' ≤ 900000 := by omega
      obtain ⟨R, hR⟩ : ∃ R, dec 0 0 (l.drop at') = R := ⟨_, rfl⟩
      rw [hR] at hE
      have HR := Lib.hid hR
      clear hR
      go_wp2_with fail
      go_loopw [6, 7] (fun uv iv wr => ∃ (i u : Nat), iv = .int .i64 i ∧ uv = .int .u64 u ∧ i ≤ 9 ∧ at' + i ≤ n ∧ u < 128 ^ i ∧ dec i u (l.drop (at' + i)) = R ∧ wr = w) (fun _ iv _ => n - (intOf iv).toNat)
      case atStart => exact ⟨0, 0, rfl, rfl, by omega, by omega, by simp, HR.out, rfl⟩
      case round =>
        obtain ⟨i, u, rfl, rfl, hi9, hi, hu, hdec, rfl⟩ := hrel
        have HU := Lib.hid hu; have HD := Lib.hid hdec
        clear hu hdec
        have i10 : (i : Int) < 10 := by omega
        by_cases hlt : at' + i < n
        · have hlx : at' + i < l.length := by rw [HN.out]; omega
          obtain ⟨b, off, rfl, -, hcell⟩ := HA.out (at' + i) hlx
          have HC : Hid (l.drop (at' + i) = l[at' + i] :: l.drop (at' + (i + 1))) := by
            show _ = _
            rw [← List.getElem_cons_drop hlx]; rfl
          generalize l[at' + i] = c at *
          have hc256 := c.toNat_lt
          obtain ⟨x, hx⟩ : ∃ x, c.toNat = x := ⟨_, rfl⟩
          have HX := Lib.hid hx
          rw [hx] at hcell hc256
          clear hx
          have k5 : (at' : Int) + (i : Int) < (n : Int) := by omega
          have k6 : (0 : Int) ≤ (i : Int) := by omega
          have HDD : Hid (R = dec i u (c :: l.drop (at' + (i + 1)))) := by show _ = _; rw [← HC.out, HD.out]
          go_upto_region 8 with fail
          by_cases hbad : i = 9 ∧ 1 < x
          · have k8 : ((i : Int) == 9) = true := by simp; omega
            have k9 : (x : Int) > 1 := by omega
            have HE : Hid (R = none) := by
              show _ = _
              rw [HDD.out, dec, HX.out, if_pos hbad]
            go_wp2_with fail
            go_ret2
            rw [hE.out, HE.out]; exact ⟨rfl, rfl⟩
          · by_cases h9 : i = 9
            · have k9 : ¬ (x : Int) > 1 := by omega
              subst h9
              go_upto_region 12 with fail
              obtain ⟨wo, hwo⟩ : ∃ wo : World, wo = wr := ⟨_, rfl⟩
              have HWO := Lib.hid hwo
              clear hwo hcell
              go_loopw [9, 10] (fun pv kv wq => ∃ (k y : Nat), kv = .int .i64 k ∧ pv = .int .u64 y ∧ k ≤ 9 ∧ y = x % 128 * 128 ^ k ∧ wq = wo) (fun _ kv _ => 9 - (intOf kv).toNat)
              case atStart => exact ⟨0, x % 128, rfl, by simp, by omega, by simp, HWO.out.symm⟩
              case round =>
                obtain ⟨k, y, rfl, rfl, hk, hy, rfl⟩ := hrel
                have HY := Lib.hid hy
                clear hy
                by_cases hki : k < 9
                · have c1 : (k : Int) < (9 : Int) := by omega
                  have HPS := Lib.hid (part_step 9 k x hki (by omega) hc256 (by omega))
                  have hw : IntKind.u64.wrap ((y : Int) * 128) = (y : Int) * 128 := wraps_u64 _ (by omega) (by have := HPS.out; have := HY.out; omega)
                  go_wp2_with fail
                  go_roundw
                  case rel => exact ⟨k + 1, y * 128, by go_num, by simp, by omega, by rw [HY.out, Nat.pow_succ, Nat.mul_assoc], trivial⟩
                  case measure => simp [intOf]; omega
                · obtain rfl : k = 9 := by omega
                  have c1 : ¬ (9 : Int) < (9 : Int) := by omega
                  have HSL := Lib.hid (sum_lt 9 u x (by omega) HU.out hc256 (by omega))
                  obtain ⟨u2, hu2⟩ : ∃ u2, u + y = u2 := ⟨_, rfl⟩
                  have hub : u2 < 18446744073709551616 := by have := HSL.out; have := HY.out; omega
                  have hw2 : IntKind.u64.wrap ((u : Int) + (y : Int)) = (u2 : Int) := by rw [wraps_u64 _ (by omega) (by omega)]; omega
                  have HU2 := Lib.hid hu2
                  clear hu2
                  have HD2 : Hid (R = if 128 ≤ x then dec (9 + 1) u2 (l.drop (at' + (9 + 1))) else if 0 < 9 ∧ x = 0 then none else some (u2, 9 + 1)) := by
                    show _ = _
                    rw [HDD.out, dec, HX.out, if_neg (by omega), ← HY.out, HU2.out]
                  by_cases h128 : 128 ≤ x
                  · omega
                  · have kx : ¬ (x : Int) ≥ 128 := by omega
                    by_cases h00 : 0 < 9 ∧ x = 0
                    · have HE : Hid (R = none) := by
                        show _ = _
                        rw [HD2.out, if_neg h128, if_pos h00]
                      have k12 : ((x : Int) == 0) = true := by simp; omega
                      have k13 : (9 : Int) > 0 := by omega
                      clear h00
                      go_wp2_with fail
                      go_ret2
                      rw [hE.out, HE.out]; exact ⟨rfl, HWO.out.symm⟩
                    · have HE : Hid (R = some (u2, 9 + 1)) := by
                        show _ = _
                        rw [HD2.out, if_neg h128, if_neg h00]
                      have k14 : (x : Int) ≠ 0 := by omega
                      by_cases hodd : u2 % 2 = 1
                      · have h1 : (((u2 : Nat) : Int) % 2 == 1) = true := by simp; omega
                        have hU : Hid (unfoldI u2 = -((u2 : Int) / 2) - 1) := by show _ = _; unfold unfoldI; rw [if_pos hodd]; omega
                        clear hodd
                        have k12 : ((x : Int) == 0) = false := by simp; omega
                        clear h00
                        go_wp2_with fail
                        go_ret2
                        rw [hE.out, HE.out]; exact ⟨by show Ending.returned _ = .returned (.tuple #[.int .i64 (unfoldI u2), .int .i64 ((9 + 1 : Nat) : Int)]); rw [hU.out]; rfl, HWO.out.symm⟩
                      · have h1 : (((u2 : Nat) : Int) % 2 == 1) = false := by simp; omega
                        have hU : Hid (unfoldI u2 = (u2 : Int) / 2) := by show _ = _; unfold unfoldI; rw [if_neg hodd]; omega
                        clear hodd
                        have k12 : ((x : Int) == 0) = false := by simp; omega
                        clear h00
                        go_wp2_with fail
                        go_ret2
                        rw [hE.out, HE.out]; exact ⟨by show Ending.returned _ = .returned (.tuple #[.int .i64 (unfoldI u2), .int .i64 ((9 + 1 : Nat) : Int)]); rw [hU.out]; rfl, HWO.out.symm⟩

            · have k8 : ((i : Int) == 9) = false := by simp; omega
              go_upto_region 12 with fail
              obtain ⟨wo, hwo⟩ : ∃ wo : World, wo = wr := ⟨_, rfl⟩
              have HWO := Lib.hid hwo
              clear hwo hcell
              go_loopw [9, 10] (fun pv kv wq => ∃ (k y : Nat), kv = .int .i64 k ∧ pv = .int .u64 y ∧ k ≤ i ∧ y = x % 128 * 128 ^ k ∧ wq = wo) (fun _ kv _ => i - (intOf kv).toNat)
              case atStart => exact ⟨0, x % 128, rfl, by simp, by omega, by simp, HWO.out.symm⟩
              case round =>
                obtain ⟨k, y, rfl, rfl, hk, hy, rfl⟩ := hrel
                have HY := Lib.hid hy
                clear hy
                by_cases hki : k < i
                · have c1 : (k : Int) < (i : Int) := by omega
                  have HPS := Lib.hid (part_step i k x hki (by omega) hc256 (by omega))
                  have hw : IntKind.u64.wrap ((y : Int) * 128) = (y : Int) * 128 := wraps_u64 _ (by omega) (by have := HPS.out; have := HY.out; omega)
                  go_wp2_with fail
                  go_roundw
                  case rel => exact ⟨k + 1, y * 128, by go_num, by simp, by omega, by rw [HY.out, Nat.pow_succ, Nat.mul_assoc], trivial⟩
                  case measure => simp [intOf]; omega
                · obtain rfl : k = i := by omega
                  have c1 : ¬ (k : Int) < (k : Int) := by omega
                  have HSL := Lib.hid (sum_lt k u x (by omega) HU.out hc256 (by omega))
                  obtain ⟨u2, hu2⟩ : ∃ u2, u + y = u2 := ⟨_, rfl⟩
                  have hub : u2 < 18446744073709551616 := by have := HSL.out; have := HY.out; omega
                  have hw2 : IntKind.u64.wrap ((u : Int) + (y : Int)) = (u2 : Int) := by rw [wraps_u64 _ (by omega) (by omega)]; omega
                  have HU2 := Lib.hid hu2
                  clear hu2
                  have HD2 : Hid (R = if 128 ≤ x then dec (k + 1) u2 (l.drop (at' + (k + 1))) else if 0 < k ∧ x = 0 then none else some (u2, k + 1)) := by
                    show _ = _
                    rw [HDD.out, dec, HX.out, if_neg (by omega), ← HY.out, HU2.out]
                  by_cases h128 : 128 ≤ x
                  · have kx : (x : Int) ≥ 128 := by omega
                    have HP : Hid (u2 < 128 ^ (k + 1)) := by
                      show _ < _
                      have h1 : x % 128 * 128 ^ k ≤ 127 * 128 ^ k := Nat.mul_le_mul_right _ (by omega)
                      have h2 : 128 ^ (k + 1) = 128 ^ k * 128 := Nat.pow_succ ..
                      have := HU.out; have := HU2.out; have := HY.out
                      omega
                    go_wp2_with fail
                    go_roundw
                    case rel => exact ⟨k + 1, u2, by go_num, rfl, by omega, by omega, HP.out, by rw [HD2.out, if_pos h128], HWO.out⟩
                    case measure => simp [intOf]; omega
                  · have kx : ¬ (x : Int) ≥ 128 := by omega
                    by_cases h00 : 0 < k ∧ x = 0
                    · have HE : Hid (R = none) := by
                        show _ = _
                        rw [HD2.out, if_neg h128, if_pos h00]
                      have k12 : ((x : Int) == 0) = true := by simp; omega
                      have k13 : (k : Int) > 0 := by omega
                      clear h00
                      go_wp2_with fail
                      go_ret2
                      rw [hE.out, HE.out]; exact ⟨rfl, HWO.out.symm⟩
                    · have HE : Hid (R = some (u2, k + 1)) := by
                        show _ = _
                        rw [HD2.out, if_neg h128, if_neg h00]
                      have k14 : True := by trivial
                      by_cases hodd : u2 % 2 = 1
                      · have h1 : (((u2 : Nat) : Int) % 2 == 1) = true := by simp; omega
                        have hU : Hid (unfoldI u2 = -((u2 : Int) / 2) - 1) := by show _ = _; unfold unfoldI; rw [if_pos hodd]; omega
                        clear hodd
                        by_cases hx0 : x = 0
                        · have k12 : ((x : Int) == 0) = true := by simp; omega
                          have k13 : ¬ (k : Int) > 0 := by omega
                          clear h00
                          go_wp2_with fail
                          go_ret2
                          rw [hE.out, HE.out]; exact ⟨by show Ending.returned _ = .returned (.tuple #[.int .i64 (unfoldI u2), .int .i64 ((k + 1 : Nat) : Int)]); rw [hU.out]; rfl, HWO.out.symm⟩
                        · have k12 : ((x : Int) == 0) = false := by simp; omega
                          clear h00
                          by_cases hk0 : (0 : Int) < (k : Int)
                          · have k13 : (k : Int) > 0 := hk0
                            go_wp2_with fail
                            go_ret2
                            rw [hE.out, HE.out]; exact ⟨by show Ending.returned _ = .returned (.tuple #[.int .i64 (unfoldI u2), .int .i64 ((k + 1 : Nat) : Int)]); rw [hU.out]; rfl, HWO.out.symm⟩
                          · have k13 : ¬ (k : Int) > 0 := hk0
                            go_wp2_with fail
                            go_ret2
                            rw [hE.out, HE.out]; exact ⟨by show Ending.returned _ = .returned (.tuple #[.int .i64 (unfoldI u2), .int .i64 ((k + 1 : Nat) : Int)]); rw [hU.out]; rfl, HWO.out.symm⟩
                      · have h1 : (((u2 : Nat) : Int) % 2 == 1) = false := by simp; omega
                        have hU : Hid (unfoldI u2 = (u2 : Int) / 2) := by show _ = _; unfold unfoldI; rw [if_neg hodd]; omega
                        clear hodd
                        by_cases hx0 : x = 0
                        · have k12 : ((x : Int) == 0) = true := by simp; omega
                          have k13 : ¬ (k : Int) > 0 := by omega
                          clear h00
                          go_wp2_with fail
                          go_ret2
                          rw [hE.out, HE.out]; exact ⟨by show Ending.returned _ = .returned (.tuple #[.int .i64 (unfoldI u2), .int .i64 ((k + 1 : Nat) : Int)]); rw [hU.out]; rfl, HWO.out.symm⟩
                        · have k12 : ((x : Int) == 0) = false := by simp; omega
                          clear h00
                          by_cases hk0 : (0 : Int) < (k : Int)
                          · have k13 : (k : Int) > 0 := hk0
                            go_wp2_with fail
                            go_ret2
                            rw [hE.out, HE.out]; exact ⟨by show Ending.returned _ = .returned (.tuple #[.int .i64 (unfoldI u2), .int .i64 ((k + 1 : Nat) : Int)]); rw [hU.out]; rfl, HWO.out.symm⟩
                          · have k13 : ¬ (k : Int) > 0 := hk0
                            go_wp2_with fail
                            go_ret2
                            rw [hE.out, HE.out]; exact ⟨by show Ending.returned _ = .returned (.tuple #[.int .i64 (unfoldI u2), .int .i64 ((k + 1 : Nat) : Int)]); rw [hU.out]; rfl, HWO.out.symm⟩

        · have k5 : ¬ (at' : Int) + (i : Int) < (n : Int) := by omega
          have HE : Hid (R = none) := by
            show _ = _
            rw [← HD.out, List.drop_eq_nil_of_le (by rw [HN.out]; omega)]; rfl
          go_wp2_with fail
          go_ret2
          rw [hE.out, HE.out]; exact ⟨rfl, rfl⟩
end Go.Proofs.YtchhenpijbecaaaDoor
