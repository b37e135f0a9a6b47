/- layer 35 (census): the document's At. -/
import Derived.Test.YtnbiklkgkidlnaaCh
namespace Go.Proofs.Ytnbiklkgkidlnaa
open Go.RowKit Go.Shelf Go.Maps
set_option maxRecDepth 100000

set_option maxHeartbeats 8000000 in
theorem refat_any (A : Option Addr) (l : List Int) (n cap : Nat) (hn : l.length = n) (hle : n ≤ 1000) (p : Nat) (hp : p < n) (s : Int) (hs : (sortL l)[p]? = some s) (w : World) (h : RowN w.heap.size w A l) :
    Calls Try.prog 12 #[.slice A n cap, .int .i64 p] w fun e w' => e = .returned (.int .i64 s) ∧ w = w' := by
  have HR := Lib.hid h; have HN := Lib.hid hn
  have HF : Hid (∃ i, i < n ∧ rankL l i = p) := by have := rank_found l (p := p) (by omega); rw [hn] at this; exact this
  have HST : Hid (∀ i (hi : i < l.length), rankL l i = p → l[i] = s) := fun i hi e => by
    have hp' : rankL l i < (sortL l).length := by rw [e, sortL_len]; omega
    rw [← rank_stands hi hp']
    have e2 := (List.getElem?_eq_some_iff.1 hs).2
    rw [← e2]; congr 1
  clear h hn hs
  go_enter Try.func12, Try.ntmps12
  go_wp2_with fail
  go_loopw [12] (fun iv wr => ∃ i : Nat, iv = .int .i64 i ∧ i ≤ n ∧ (∀ j, j < i → rankL l j ≠ p) ∧ w = wr) (fun iv _ => n - (intOf iv).toNat)
  case atStart => exact ⟨0, rfl, Nat.zero_le _, fun j hj => absurd hj (by omega), rfl⟩
  case round =>
    obtain ⟨i, rfl, hi, hno, rfl⟩ := hrel
    have HNO := Lib.hid hno
    clear hno
    by_cases hlt : i < n
    · have hil : i < l.length := by rw [HN.out]; exact hlt
      obtain ⟨b, o, rfl, -, hc⟩ := HR.out i hil
      obtain ⟨x, hx⟩ : ∃ x, l[i] = x := ⟨_, rfl⟩
      rw [hx] at hc
      have HX : Hid (rankL l i = p → x = s) := fun e => by rw [← hx]; exact HST.out i hil e
      have HRK : Hid (lessK l x i n = rankL l i) := by
        show _ = _
        unfold rankL; rw [List.getD_eq_getElem?_getD, List.getElem?_eq_getElem hil, ← HN.out, ← hx]; rfl
      clear hx hil
      have i0 : (0 : Int) ≤ (i : Int) := by omega
      have i1 : (i : Int) < (n : Int) := by omega
      go_wp2_with fail
      go_loopw [7, 19] (fun lv kv wr => ∃ k : Nat, lv = .int .i64 (lessK l x i k : Nat) ∧ kv = .int .i64 k ∧ k ≤ n ∧ w = wr) (fun _ kv _ => n - (intOf kv).toNat)
      case atStart => exact ⟨0, by simp [lessK], rfl, Nat.zero_le _, rfl⟩
      case round =>
        obtain ⟨k, rfl, rfl, hk, rfl⟩ := hrel
        by_cases hkn : k < n
        · have hkl : k < l.length := by rw [HN.out]; exact hkn
          obtain ⟨b', o', e', -, hck⟩ := HR.out k hkl
          obtain ⟨rfl, rfl⟩ : b = b' ∧ o = o' := by injection e' with e1; injection e1 with x y z; exact ⟨x, y⟩
          have hst := lessK_step l x i k hkl
          obtain ⟨y, hy⟩ : ∃ y, l[k] = y := ⟨_, rfl⟩
          rw [hy] at hck hst
          have hbd := lessK_le l x i k
          obtain ⟨q, hq⟩ : ∃ q, lessK l x i k = q := ⟨_, rfl⟩
          rw [hq] at hst hbd ⊢
          have HST2 := Lib.hid hst
          clear hst hq hy hkl e' hc
          have k0 : (0 : Int) ≤ (k : Int) := by omega
          have k1 : (k : Int) < (n : Int) := by omega
          have hwq : wrap64 ((q : Int) + 1) = (q : Int) + 1 := by unfold wrap64; omega
          by_cases ha : y < x
          · have HS3 : Hid (lessK l x i (k + 1) = q + 1) := by show _ = _; rw [HST2.out, if_pos (.inl ha)]
            go_wp2_with fail
            go_roundw
            case rel => exact ⟨k + 1, by rw [HS3.out]; go_num, by go_num, by omega, trivial⟩
            case measure => simp [intOf]; omega
          · by_cases hb : y = x
            · by_cases hki : k < i
              · have HS3 : Hid (lessK l x i (k + 1) = q + 1) := by show _ = _; rw [HST2.out, if_pos (.inr ⟨hb, hki⟩)]
                have k2 : (k : Int) < (i : Int) := by omega
                subst hb
                go_wp2_with fail
                go_roundw
                case rel => exact ⟨k + 1, by rw [HS3.out]; go_num, by go_num, by omega, trivial⟩
                case measure => simp [intOf]; omega
              · have HS3 : Hid (lessK l x i (k + 1) = q) := by show _ = _; rw [HST2.out, if_neg (by rintro (h | h); exact ha h; exact hki h.2)]; rfl
                have k2 : ¬ (k : Int) < (i : Int) := by omega
                subst hb
                go_wp2_with fail
                go_roundw
                case rel => exact ⟨k + 1, by rw [HS3.out], by go_num, by omega, trivial⟩
                case measure => simp [intOf]; omega
            · have HS3 : Hid (lessK l x i (k + 1) = q) := by show _ = _; rw [HST2.out, if_neg (by rintro (h | h); exact ha h; exact hb h.1)]; rfl
              go_wp2_with fail
              go_roundw
              case rel => exact ⟨k + 1, by rw [HS3.out], by go_num, by omega, trivial⟩
              case measure => simp [intOf]; omega
        · obtain rfl : k = n := by omega
          rw [HRK.out]
          by_cases hpp : rankL l i = p
          · have HXS : Hid (x = s) := HX.out hpp
            rw [hpp]
            go_wp2_with fail
            go_ret
            rw [HXS.out]
            exact ⟨rfl, rfl⟩
          · obtain ⟨q, hq⟩ : ∃ q, rankL l i = q := ⟨_, rfl⟩
            rw [hq] at hpp ⊢
            have hpp' : ¬ (q : Int) = (p : Int) := by omega
            have HQ := Lib.hid hq
            have HPP := Lib.hid hpp
            clear hq hpp
            go_wp2_with fail
            go_roundw
            case rel => exact ⟨i + 1, by go_num, by omega, fun j hj => by
              by_cases hji : j = i
              · subst hji; rw [HQ.out]; exact HPP.out
              · exact HNO.out j (by omega), trivial⟩
            case measure => simp [intOf]; omega
    · obtain ⟨j, hj, e⟩ := HF.out
      exact absurd e (HNO.out j (by omega))
end Go.Proofs.Ytnbiklkgkidlnaa
