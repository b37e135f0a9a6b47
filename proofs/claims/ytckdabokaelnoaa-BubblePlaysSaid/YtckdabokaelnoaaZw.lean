/- The document's Free (layer 13). -/
import Derived.Test.YtckdabokaelnoaaZv
namespace Go.Proofs.Ytckdabokaelnoaa
open Go.RowKit
set_option maxRecDepth 100000

section
variable {d : Value} {bs : List Bub} {w w' : World}
set_option maxHeartbeats 4000000 in
theorem rfree_any (b : Int) (h : DocL d bs w) : Calls Try.prog 56 #[d, .int .i64 b] w fun e w' => e = .returned (.bool (freeP bs b)) ∧ Below w.heap.size w w' := by
  have HI := Lib.hid (ris_any b h)
  have HW := Lib.hid (rway_any b h)
  have HL := Lib.hid (way_len32 h.inv b)
  have HD := Lib.hid h
  have hin : ∀ y ∈ way bs b, inB bs y = true := fun y hy => (way_in h.inv _ b (Nat.le_refl _) y hy).2.2
  have HIN := Lib.hid hin
  obtain ⟨A, capd, hd⟩ := h.form
  obtain ⟨n, hn⟩ : ∃ n, bs.length = n := ⟨_, rfl⟩
  rw [hn] at hd
  have HLN := Lib.hid hn
  subst hd
  unfold freeP
  by_cases hout : b ≠ -1 ∧ inB bs b = false
  · obtain ⟨hb1, hb2⟩ := hout
    have e : (b == -1) = false := by simpa using hb1
    rw [hb2] at HI
    rw [hb2, e]
    simp only [Bool.false_eq_true, ↓reduceIte]
    have t : (b != -1) = true := by simpa using hb1
    clear h hin hn hb1 hb2 e HW HL HIN
    go_enter Try.func56, Try.ntmps56
    go_wp2_with (go_at_call 55; (with_reducible refine HI.out.mono ?_); rintro e wq ⟨rfl, rfl⟩)
    go_ret
    exact ⟨rfl, Below.refl _ _⟩
  · have hval : (if inB bs b = true then (way bs b).all fun k => (atB bs k).state == 4 else b == -1) = (way bs b).all fun k => (atB bs k).state == 4 := by
      cases hb : inB bs b with
      | true => rfl
      | false =>
        have : b = -1 := by
          by_cases h1 : b = -1
          · exact h1
          · exact absurd ⟨h1, hb⟩ hout
        rw [way_no hb, this]; rfl
    rw [hval]
    have hg : (b != -1) = false ∨ ((b != -1) = true ∧ inB bs b = true) := by
      by_cases h1 : b = -1
      · left; simp [h1]
      · right
        refine ⟨by simpa using h1, ?_⟩
        cases hb : inB bs b with
        | true => rfl
        | false => exact absurd ⟨h1, hb⟩ hout
    obtain ⟨R, hR⟩ : ∃ R, ((way bs b).all fun k => (atB bs k).state == 4) = R := ⟨_, rfl⟩
    have HR := Lib.hid hR
    rw [hR]
    clear hR hval hout hin h hn
    generalize way bs b = Y at *
    rcases hg with hg | ⟨hg, hb⟩
    · clear HI
      go_enter Try.func56, Try.ntmps56
      go_wp2_with fail
      refine HW.out.mono ?_
      rintro e w2 ⟨u, rfl, hm, h2⟩
      dsimp only
      obtain ⟨A2, cap, rfl, hn⟩ := hm.nums
      have HN := Lib.hid hn; have H2 := Lib.hid h2
      have HD2 := Lib.hid (HD.out.below h2)
      clear hm hn h2 HW HD
      go_wp2_with fail
      go_loopw [19] (fun iv wr => ∃ k : Nat, iv = .int .i64 k ∧ k ≤ Y.length ∧ wr = w2 ∧ ((Y.drop k).all fun k => (atB bs k).state == 4) = R) (fun iv _ => Y.length - (intOf iv).toNat)
      case atStart => exact ⟨0, rfl, Nat.zero_le _, rfl, by simpa using HR.out⟩
      case round =>
        obtain ⟨k, rfl, hk, rfl, hr⟩ := hrel
        have HRR := Lib.hid hr
        clear hr HR
        by_cases hlt : k < Y.length
        · obtain ⟨y, hy⟩ : ∃ y, Y[k]? = some y := ⟨_, List.getElem?_eq_getElem hlt⟩
          have hd : Y.drop k = y :: Y.drop (k + 1) := by
            rw [List.drop_eq_getElem_cons hlt]
            congr 1
            rw [List.getElem?_eq_getElem hlt] at hy; simpa using hy
          obtain ⟨i, x, rfl, hx⟩ := inB_nat (HIN.out y (List.mem_of_getElem? hy))
          have e := HRR.out
          rw [hd, List.all_cons, atB_of hx] at e
          obtain ⟨bb, off, rfl, -, hc⟩ := HN.out k _ hy
          obtain ⟨g, cp, hv, hrg, -⟩ := row_at HD2.out.row hx
          rw [HLN.out] at hv
          simp only [Value.slice.injEq] at hv
          obtain ⟨rfl, -, rfl⟩ := hv
          have y17 := hrg 17 _ (bubL_17 x)
          have HE := Lib.hid e
          have i0 : (0 : Int) ≤ (i : Int) := by omega
          have i1 : (i : Int) < (n : Int) := by have := (List.getElem?_eq_some_iff.1 hx).1; have := HLN.out; omega
          have k0 : (0 : Int) ≤ (k : Int) := by omega
          have k1 : (k : Int) < (Y.length : Int) := by omega
          have hl := HL.out
          clear e hd hy HRR hx hrg
          generalize x.state = s at *
          generalize Y.length = yn at *
          by_cases hs : s = 4
          · subst hs
            go_wp2_with fail
            go_roundw
            case rel => exact ⟨k + 1, by go_num, by omega, by first | rfl | trivial, by simpa using HE.out⟩
            case measure => simp [intOf]; omega
          · have t : (s != 4) = true := by simpa using hs
            have t2 : (s == 4) = false := by simpa using hs
            rw [t2, Bool.false_and] at HE
            clear hs t2
            go_wp2_with fail
            go_ret
            exact ⟨by rw [← HE.out] <;> rfl, H2.out⟩
        · obtain rfl : k = Y.length := by omega
          have e := HRR.out
          rw [List.drop_length] at e
          have HE := Lib.hid e
          clear e HRR
          generalize Y.length = yn at *
          have tk : ¬ (yn : Int) < (yn : Int) := by omega
          go_wp2_with fail
          go_ret
          exact ⟨by rw [← HE.out] <;> rfl, H2.out⟩
    · rw [hb] at HI
      clear hb
      go_enter Try.func56, Try.ntmps56
      go_wp2_with (go_at_call 55; (with_reducible refine HI.out.mono ?_); rintro e wq ⟨rfl, rfl⟩)
      refine HW.out.mono ?_
      rintro e w2 ⟨u, rfl, hm, h2⟩
      dsimp only
      obtain ⟨A2, cap, rfl, hn⟩ := hm.nums
      have HN := Lib.hid hn; have H2 := Lib.hid h2
      have HD2 := Lib.hid (HD.out.below h2)
      clear hm hn h2 HW HD
      go_wp2_with fail
      go_loopw [19] (fun iv wr => ∃ k : Nat, iv = .int .i64 k ∧ k ≤ Y.length ∧ wr = w2 ∧ ((Y.drop k).all fun k => (atB bs k).state == 4) = R) (fun iv _ => Y.length - (intOf iv).toNat)
      case atStart => exact ⟨0, rfl, Nat.zero_le _, rfl, by simpa using HR.out⟩
      case round =>
        obtain ⟨k, rfl, hk, rfl, hr⟩ := hrel
        have HRR := Lib.hid hr
        clear hr HR
        by_cases hlt : k < Y.length
        · obtain ⟨y, hy⟩ : ∃ y, Y[k]? = some y := ⟨_, List.getElem?_eq_getElem hlt⟩
          have hd : Y.drop k = y :: Y.drop (k + 1) := by
            rw [List.drop_eq_getElem_cons hlt]
            congr 1
            rw [List.getElem?_eq_getElem hlt] at hy; simpa using hy
          obtain ⟨i, x, rfl, hx⟩ := inB_nat (HIN.out y (List.mem_of_getElem? hy))
          have e := HRR.out
          rw [hd, List.all_cons, atB_of hx] at e
          obtain ⟨bb, off, rfl, -, hc⟩ := HN.out k _ hy
          obtain ⟨g, cp, hv, hrg, -⟩ := row_at HD2.out.row hx
          rw [HLN.out] at hv
          simp only [Value.slice.injEq] at hv
          obtain ⟨rfl, -, rfl⟩ := hv
          have y17 := hrg 17 _ (bubL_17 x)
          have HE := Lib.hid e
          have i0 : (0 : Int) ≤ (i : Int) := by omega
          have i1 : (i : Int) < (n : Int) := by have := (List.getElem?_eq_some_iff.1 hx).1; have := HLN.out; omega
          have k0 : (0 : Int) ≤ (k : Int) := by omega
          have k1 : (k : Int) < (Y.length : Int) := by omega
          have hl := HL.out
          clear e hd hy HRR hx hrg
          generalize x.state = s at *
          generalize Y.length = yn at *
          by_cases hs : s = 4
          · subst hs
            go_wp2_with fail
            go_roundw
            case rel => exact ⟨k + 1, by go_num, by omega, by first | rfl | trivial, by simpa using HE.out⟩
            case measure => simp [intOf]; omega
          · have t : (s != 4) = true := by simpa using hs
            have t2 : (s == 4) = false := by simpa using hs
            rw [t2, Bool.false_and] at HE
            clear hs t2
            go_wp2_with fail
            go_ret
            exact ⟨by rw [← HE.out] <;> rfl, H2.out⟩
        · obtain rfl : k = Y.length := by omega
          have e := HRR.out
          rw [List.drop_length] at e
          have HE := Lib.hid e
          clear e HRR
          generalize Y.length = yn at *
          have tk : ¬ (yn : Int) < (yn : Int) := by omega
          go_wp2_with fail
          go_ret
          exact ⟨by rw [← HE.out] <;> rfl, H2.out⟩
end
end Go.Proofs.Ytckdabokaelnoaa
