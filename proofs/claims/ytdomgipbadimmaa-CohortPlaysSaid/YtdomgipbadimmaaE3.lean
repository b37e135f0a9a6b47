/- The document's has; Same of two rows that say the same (layer 14). -/
import Derived.Test.YtdomgipbadimmaaE2
namespace Go.Proofs.Ytdomgipbadimmaa
open Go.RowKit
set_option maxRecDepth 100000

section
variable {D : Nat → Prop} {v v2 : Value} {L : List Int} {W : World}
theorem any_take {L : List Int} {k : Nat} {x s : Int} (hx : L[k]? = some x) : (L.take (k + 1)).any (fun y => y == s) = ((L.take k).any (fun y => y == s) || (x == s)) := by
  rw [List.take_add_one, hx, List.any_append]; simp
set_option maxHeartbeats 4000000 in
theorem has14_any (s : Int) (h : SIn D v L.length (numC L) W) (hl : L.length ≤ 100000) : Calls Try.prog 62 #[v, .int .i64 s] W fun e w' => e = .returned (.bool (L.any fun x => x == s)) ∧ W = w' := by
  obtain ⟨A, cap, rfl, hcap, -, hc⟩ := h.num
  have HC := Lib.hid hc
  obtain ⟨n, hn⟩ : ∃ n, L.length = n := ⟨_, rfl⟩
  have HN := Lib.hid hn
  rw [hn] at hl hcap ⊢
  have HALL : Hid ((L.take n).any (fun y => y == s) = L.any fun y => y == s) := by
    show _ = _
    rw [List.take_of_length_le (by omega)]
  clear h hc hn
  go_enter Try.func62, Try.ntmps62
  go_wp2_with fail
  go_loopw [9] (fun iv wr => ∃ k : Nat, iv = .int .i64 k ∧ k ≤ n ∧ wr = W ∧ (L.take k).any (fun y => y == s) = false) (fun iv _ => n - (intOf iv).toNat)
  case atStart => exact ⟨0, rfl, Nat.zero_le _, rfl, rfl⟩
  case round =>
    obtain ⟨k, rfl, hk, rfl, hno⟩ := hrel
    by_cases hlt : k < n
    · obtain ⟨x, hx⟩ : ∃ x, L[k]? = some x := ⟨_, List.getElem?_eq_getElem (by rw [HN.out]; exact hlt)⟩
      obtain ⟨g, rfl, -, c0⟩ := HC.out k x hx
      have HS : Hid ((L.take (k + 1)).any (fun y => y == s) = (x == s)) := by
        show _ = _
        rw [any_take hx, hno]; rfl
      have HANY : Hid ((x == s) = true → L.any (fun y => y == s) = true) := fun q => by
        rw [List.any_eq_true]; exact ⟨x, List.mem_of_getElem? hx, q⟩
      have HLT := Lib.hid hlt
      have k0 : (0 : Int) ≤ (k : Int) := by omega
      have k1 : (k : Int) < (n : Int) := by omega
      have k2 : (k : Int) < (cap : Int) := by omega
      clear hx hno
      by_cases q : x = s
      · have tq : (x == s) = true := by simpa using q
        have HR := Lib.hid (HANY.out tq)
        clear q
        go_wp2_with fail
        go_ret
        exact ⟨by rw [HR.out]; rfl, rfl⟩
      · have tq : (x == s) = false := by simpa using q
        have HS2 := Lib.hid (HS.out.trans tq)
        clear q HS HANY
        go_wp2_with fail
        go_roundw
        case rel => exact ⟨k + 1, by go_num, by have := HLT.out; omega, trivial, HS2.out⟩
        case measure => have := HLT.out; simp [intOf]; omega
    · have hkn : k = n := by omega
      have tt : ¬ (k : Int) < (n : Int) := by omega
      have HR : Hid (L.any (fun y => y == s) = false) := by
        show _ = _
        rw [← HALL.out, ← hkn]; exact hno
      clear hno hkn
      go_wp2_with fail
      go_ret
      exact ⟨by rw [HR.out]; rfl, rfl⟩
set_option maxHeartbeats 8000000 in
theorem same04_sin {D2 : Nat → Prop} (h : SIn D v L.length (numC L) W) (h2 : SIn D2 v2 L.length (numC L) W) (hl : L.length ≤ 1000000) :
    Calls Try.prog 37 #[v, v2] W fun e w' => e = .returned (.bool true) ∧ But Nob W w' := by
  obtain ⟨A, cap, rfl, hcap, -, hc⟩ := h.num
  obtain ⟨A', cap', rfl, hcap', -, hc'⟩ := h2.num
  have HC := Lib.hid hc; have HC2 := Lib.hid hc'
  obtain ⟨n, hn⟩ : ∃ n, L.length = n := ⟨_, rfl⟩
  have HN := Lib.hid hn
  rw [hn] at hl hcap hcap' ⊢
  have t1 : ((n : Int) != (n : Int)) = false := by simp
  clear h h2 hc hc' hn
  go_enter Try.func37, Try.ntmps37
  go_wp2_with fail
  clear t1
  go_loopw [13] (fun i wr => ∃ k : Nat, k ≤ n ∧ i = .int .i64 k ∧ But Nob W wr) (fun i _ => n - (intOf i).toNat)
  case atStart => exact ⟨0, Nat.zero_le _, rfl, But.refl _ _⟩
  case round =>
    obtain ⟨k, hk, rfl, hb⟩ := hrel
    have HB := Lib.hid hb
    by_cases hlt : k < n
    · obtain ⟨x, hx⟩ : ∃ x, L[k]? = some x := ⟨_, List.getElem?_eq_getElem (by rw [HN.out]; exact hlt)⟩
      obtain ⟨g, rfl, l0, c0'⟩ := HC.out k x hx
      obtain ⟨g', rfl, l1, d0'⟩ := HC2.out k x hx
      have c0 := (hb.cell0 (j := k) l0 id).trans c0'
      have d0 := (hb.cell0 (j := k) l1 id).trans d0'
      clear l0 l1
      have k0 : (0 : Int) ≤ (k : Int) := by omega
      have k1 : (k : Int) < (n : Int) := by omega
      have k2 : (k : Int) < (cap : Int) := by omega
      have k3 : (k : Int) < (cap' : Int) := by omega
      have t : (x != x) = false := by simp
      clear hx hb c0' d0'
      go_wp2_with fail
      go_quiet (fail)
      go_wp2_with fail
      go_roundw
      case rel => exact ⟨k + 1, by omega, by go_num, HB.out.drewN _⟩
      case measure => simp [intOf]; omega
    · have t : ¬ (k : Int) < (n : Int) := by omega
      clear hb
      go_wp2_with fail
      go_ret
      exact ⟨rfl, HB.out⟩
end
end Go.Proofs.Ytdomgipbadimmaa
