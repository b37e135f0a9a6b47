/- The contract of the document's All. -/
import Derived.Test.YtaghoicmfpndbaaNr
import Derived.Deep.RegionHeld3
import Derived.Deep.Cut
import Derived.Deep.CutRange
import Derived.Deep.CutBlock
import Derived.Deep.DeepCutAuto
namespace Go.Proofs.Ytaghoicmfpndbaa
open Go.RowKit

theorem kind_blank (c : Nat) : kindF c = 6 ↔ blankB c = true := by
  have e : blankB c = true ↔ c = 32 ∨ c = 9 ∨ c = 10 ∨ c = 13 := by simp [blankB]
  rw [e]; unfold kindF
  constructor
  · intro h; revert h; (repeat' split) <;> omega
  · intro h; (repeat' split) <;> omega
theorem kind_note (c : Nat) : kindF c = 7 ↔ c = 35 := by
  unfold kindF
  constructor
  · intro h; revert h; (repeat' split) <;> omega
  · intro h; (repeat' split) <;> omega
theorem kind_dig (c : Nat) : kindF c = 2 ↔ digB c = true := by
  have e : digB c = true ↔ 48 ≤ c ∧ c ≤ 57 := by simp [digB]
  rw [e]; unfold kindF
  constructor
  · intro h; revert h; (repeat' split) <;> omega
  · intro h; (repeat' split) <;> omega
theorem kind_sign (c : Nat) : kindF c = 5 ↔ signB c = true := by
  have e : signB c = true ↔ c = 123 ∨ c = 125 ∨ c = 59 := by simp [signB]
  rw [e]; unfold kindF
  constructor
  · intro h; revert h; (repeat' split) <;> omega
  · intro h; (repeat' split) <;> omega
theorem kind_list (c : Nat) : (kindF c = 2 ∨ kindF c = 4) ↔ listB c = true := by
  have e : listB c = true ↔ (48 ≤ c ∧ c ≤ 57) ∨ c = 44 ∨ c = 45 := by simp [listB, digB]
  rw [e]; unfold kindF
  constructor
  · intro h; revert h; (repeat' split) <;> omega
  · intro h; (repeat' split) <;> omega
/-- How far the token that begins at i goes, by the document's kinds. -/
theorem tokE_kind (c : Nat → Nat) (len i : Nat) : tokE c len i = if kindF (c i) = 1 then runEnd nameB c len i else if kindF (c i) = 2 then runEnd listB c len i else i + 1 := by
  unfold tokE
  by_cases h1 : lowB (c i) = true
  · rw [if_pos h1, if_pos ((kind_low _).2 h1)]
  · rw [if_neg h1, if_neg (fun e => h1 ((kind_low _).1 e))]
    by_cases h2 : digB (c i) = true
    · rw [if_pos h2, if_pos ((kind_dig _).2 h2)]
    · rw [if_neg h2, if_neg (fun e => h2 ((kind_dig _).1 e))]
theorem tokK_kind (c : Nat) : tokK c = if kindF c = 1 then 1 else if kindF c = 2 then 2 else if kindF c = 5 then 3 else 0 := by
  unfold tokK
  by_cases h1 : lowB c = true
  · rw [if_pos h1, if_pos ((kind_low _).2 h1)]
  · rw [if_neg h1, if_neg (fun e => h1 ((kind_low _).1 e))]
    by_cases h2 : digB c = true
    · rw [if_pos h2, if_pos ((kind_dig _).2 h2)]
    · rw [if_neg h2, if_neg (fun e => h2 ((kind_dig _).1 e))]
      by_cases h3 : signB c = true
      · rw [if_pos h3, if_pos ((kind_sign _).2 h3)]
      · rw [if_neg h3, if_neg (fun e => h3 ((kind_sign _).1 e))]
/-- What holds at the loop's head. -/
structure ArInv (s : ByteArray) (B : Nat) (w : World) (j : Nat) (done : List Tok) (v : Value) (wx : World) : Prop where
  bel : Below B w wx
  own : wx.ownsRow B 33 5 v done.length (toksC s done)
  lex : lexAt (byteAt s) s.size 0 = (done ++ (lexAt (byteAt s) s.size j).1, (lexAt (byteAt s) s.size j).2)
  le : j ≤ s.size
  len : done.length ≤ j
  sz : B ≤ wx.heap.size
/-- Three results: a row of tokens, an error's number, a place's number. -/
def RefPost (s : ByteArray) (B : Nat) (w : World) (r : List Tok × Nat × Nat) (e : Ending) (w' : World) : Prop :=
  ∃ v, e = .returned (.tuple #[v, .int .i64 r.2.1, .int .i64 r.2.2]) ∧ w'.ownsRow B 33 5 v r.1.length (toksC s r.1) ∧ Below B w w'
theorem refAll_big (s : ByteArray) (w : World) (hb : 65536 < s.size) :
    Calls Try.prog 10 #[.string s] w (RefPost s w.heap.size w ([], 2, 0)) := by
  have hd : decide ((65536 : Int) < (s.size : Int)) = true := by simp; omega
  go_enter Try.func10, Try.ntmps10
  go_wp2_with fail
  go_ret3
  exact ⟨_, rfl, World.ownsRow_nil _ _ _ _, Below.refl _ _⟩
set_option maxRecDepth 100000 in
set_option maxHeartbeats 4000000 in
theorem refAll_in (s : ByteArray) (w : World) (hs : s.size ≤ 65536) :
    Calls Try.prog 10 #[.string s] w (RefPost s w.heap.size w (resR s)) := by
  have hd : decide ((65536 : Int) < (s.size : Int)) = false := by simp; omega
  obtain ⟨RR, hRR⟩ : ∃ RR, resR s = RR := ⟨_, rfl⟩
  rw [hRR]
  unfold resR at hRR
  rw [if_neg (by omega)] at hRR
  have HR := Lib.hid hRR; clear hRR
  have hs2 : s.size ≤ 100000 := by omega
  have HH := Lib.hid hs; clear hs
  obtain ⟨B, hB⟩ : ∃ B, w.heap.size = B := ⟨_, rfl⟩
  rw [hB]
  have I0 : Hid (ArInv s B w 0 [] (.slice none 0 0) w) := {
    bel := Below.refl _ _
    own := World.ownsRow_nil _ _ _ _
    lex := by simp
    le := by omega
    len := by simp
    sz := by omega }
  have HB := Lib.hid hB; clear hB
  go_enter Try.func10, Try.ntmps10
  go_wp2_with fail
  go_loopg [5, 6] s.size (fun g v i wx => ∃ j done, g = s.size - j ∧ i = .int .i64 j ∧ Hid (ArInv s B w j done v wx))
  case atStart => exact ⟨0, [], by omega, rfl, I0⟩
  case round =>
    obtain ⟨j, done, hg, hi, hI⟩ := hrel
    have HG := Lib.hid hg; clear hg I0
    subst hi
    have I := hI.out
    by_cases hlt : j < s.size
    · have hbk := byteAt_eq s j hlt
      have j0 : (0 : Int) ≤ (j : Int) := by omega
      have j1 : (j : Int) < (s.size : Int) := by omega
      have hq := kind_any (byteAt s j)
      obtain ⟨k, hk⟩ : ∃ k, kindF (byteAt s j) = k := ⟨_, rfl⟩
      rw [hk] at hq
      have HQ := Lib.hid hq; clear hq
      have HK := Lib.hid hk; clear hk
      by_cases h6 : k = 6
      · subst h6
        have hlex := lex_blank (byteAt s) s.size j hlt ((kind_blank _).1 HK.out)
        have I1 : Hid (ArInv s B w (j + 1) done u5 wr) := { I with lex := by rw [← hlex]; exact I.lex, le := by omega, len := by have := I.len; omega }
        clear I hI hlex
        go_wp2_with (first | (go_at_call 25; (with_reducible refine (HQ.out _).mono ?_); rintro e wq ⟨rfl, rfl⟩))
        go_roundg (s.size - (j + 1))
        case measure => have := HG.out; omega
        case rel => exact ⟨j + 1, done, rfl, by go_num, I1⟩
      · have t6 : ((k : Int) == 6) = false := by simp; omega
        by_cases h7 : k = 7
        · subst h7
          have h35 := (kind_note _).1 HK.out
          have hlex := lex_note (byteAt s) s.size j hlt h35
          obtain ⟨n1, n2, n3, n4⟩ := runEnd_spec noteB (byteAt s) s.size j (by omega)
          have n5 := note_gt (byteAt s) s.size j hlt h35
          generalize runEnd noteB (byteAt s) s.size j = E at *
          have I1 : Hid (ArInv s B w E done u5 wr) := { I with lex := by rw [← hlex]; exact I.lex, le := n2, len := by have := I.len; omega }
          have N3 := Lib.hid n3; have N4 := Lib.hid n4
          clear I hI hlex n3 n4 h35 h6
          go_wp2_with (first | (go_at_call 25; (with_reducible refine (HQ.out _).mono ?_); rintro e wq ⟨rfl, rfl⟩))
          go_loopg [6] (E - j) (fun g i wx => ∃ m, j ≤ m ∧ m ≤ E ∧ g = E - m ∧ i = .int .i64 m ∧ wr = wx)
          case atStart => exact ⟨j, by omega, n1, rfl, rfl, rfl⟩
          case round =>
            obtain ⟨m, hm1, hm2, hm3, hm4, rfl⟩ := hrel
            have HM := Lib.hid hm3; clear hm3
            subst hm4
            by_cases hmE : m < E
            · have hbm := byteAt_eq s m (by omega)
              have m0 : (0 : Int) ≤ (m : Int) := by omega
              have m1 : (m : Int) < (s.size : Int) := by omega
              have t10 : ((byteAt s m : Int) != 10) = true := by
                have := N3.out m hm1 hmE
                unfold noteB at this; simp at this ⊢; omega
              go_wp2_with fail
              go_roundg (E - (m + 1))
              case measure => have := HM.out; omega
              case rel => exact ⟨m + 1, by omega, by omega, rfl, by go_num, rfl⟩
            · obtain rfl : m = E := by omega
              by_cases hms : m < s.size
              · have hbm := byteAt_eq s m hms
                have m0 : (0 : Int) ≤ (m : Int) := by omega
                have m1 : (m : Int) < (s.size : Int) := by omega
                have t10 : ((byteAt s m : Int) != 10) = false := by
                  rcases N4.out with e | e
                  · omega
                  · unfold noteB at e; simp at e ⊢; omega
                go_wp2_with fail
                go_roundg (s.size - m)
                case measure => have := HG.out; omega
                case rel => exact ⟨m, done, rfl, rfl, I1⟩
              · go_wp2_with fail
                go_roundg (s.size - m)
                case measure => have := HG.out; omega
                case rel => exact ⟨m, done, rfl, rfl, I1⟩
        · have t7 : ((k : Int) == 7) = false := by simp; omega
          have hbl : blankB (byteAt s j) = false := by
            cases hb : blankB (byteAt s j) with
            | false => rfl
            | true => exact absurd (HK.out.symm.trans ((kind_blank _).2 hb)) h6
          have h35 : byteAt s j ≠ 35 := fun e => h7 (HK.out.symm.trans ((kind_note _).2 e))
          have HBL := Lib.hid hbl; have H35 := Lib.hid h35
          have H6 := Lib.hid h6; have H7 := Lib.hid h7
          have hgt := tokE_gt (byteAt s) s.size j hlt
          obtain ⟨E, hE⟩ : ∃ E, tokE (byteAt s) s.size j = E := ⟨_, rfl⟩
          rw [hE] at hgt
          have HE := Lib.hid hE
          obtain ⟨hE1, hE2⟩ := hgt
          clear hbl h35 h6 h7 hE
          go_upto_block 4 with (first | (go_at_call 25; (with_reducible refine (HQ.out _).mono ?_); rintro e wq ⟨rfl, rfl⟩))
          go_cut [8] (fun n wx => n = .int .i64 E ∧ wx = wr)
          case first =>
            go_wp2_with fail
            by_cases hk1 : k = 1
            · subst hk1
              have hE := tokE_kind (byteAt s) s.size j
              rw [HK.out] at hE
              simp only [if_true] at hE
              obtain ⟨n1, n2, n3, n4⟩ := runEnd_spec nameB (byteAt s) s.size j (by omega)
              rw [← hE, HE.out] at n1 n2 n3 n4
              have N3 := Lib.hid n3; have N4 := Lib.hid n4
              clear n3 n4 hE
              go_loopg [8] (E - (j + 1)) (fun g n wx => ∃ m, j + 1 ≤ m ∧ m ≤ E ∧ g = E - m ∧ n = .int .i64 m ∧ wr = wx)
              case atStart => exact ⟨j + 1, by omega, by omega, rfl, by go_num, rfl⟩
              case round =>
                obtain ⟨m, hm1, hm2, hm3, hm4, rfl⟩ := hrel
                have HM := Lib.hid hm3; clear hm3
                subst hm4
                obtain ⟨q, hk2⟩ : ∃ q, kindF (byteAt s m) = q := ⟨_, rfl⟩
                have hq2 := kind_any (byteAt s m)
                rw [hk2] at hq2
                have HQ2 := Lib.hid hq2; clear hq2
                by_cases hmE : m < E
                · have hbm := byteAt_eq s m (by omega)
                  have m0 : (0 : Int) ≤ (m : Int) := by omega
                  have m1 : (m : Int) < (s.size : Int) := by omega
                  have hnm := (kind_name (byteAt s m)).2 (N3.out m (by omega) hmE)
                  rw [hk2] at hnm
                  have d1 : decide ((1 : Int) ≤ (q : Int)) = true := by simp; omega
                  have d3 : decide ((q : Int) ≤ 3) = true := by simp; omega
                  have HK2 := Lib.hid hk2; clear hk2 hnm
                  go_wp2_with (first | (go_at_call 25; (with_reducible refine (HQ2.out _).mono ?_); rintro e wq ⟨rfl, rfl⟩))
                  go_roundg (E - (m + 1))
                  case measure => have := HM.out; omega
                  case rel => exact ⟨m + 1, by omega, by omega, rfl, by go_num, rfl⟩
                · obtain rfl : m = E := by omega
                  by_cases hms : m < s.size
                  · have hbm := byteAt_eq s m hms
                    have m0 : (0 : Int) ≤ (m : Int) := by omega
                    have m1 : (m : Int) < (s.size : Int) := by omega
                    have hnm : ¬ (q = 1 ∨ q = 2 ∨ q = 3) := fun e => by
                      rw [← hk2] at e
                      have := (kind_name (byteAt s m)).1 e
                      rcases N4.out with e2 | e2
                      · omega
                      · rw [this] at e2; cases e2
                    by_cases hq0 : q = 0
                    · have d1 : decide ((1 : Int) ≤ (q : Int)) = false := by simp; omega
                      have HK2 := Lib.hid hk2; have HQ0 := Lib.hid hq0; clear hk2 hq0
                      go_wp2_with (first | (go_at_call 25; (with_reducible refine (HQ2.out _).mono ?_); rintro e wq ⟨rfl, rfl⟩))
                      go_meet
                      exact ⟨rfl, rfl⟩
                    · have d1 : decide ((1 : Int) ≤ (q : Int)) = true := by simp; omega
                      have d3 : decide ((q : Int) ≤ 3) = false := by simp; omega
                      have HK2 := Lib.hid hk2; have HQ0 := Lib.hid hq0; clear hk2 hq0
                      go_wp2_with (first | (go_at_call 25; (with_reducible refine (HQ2.out _).mono ?_); rintro e wq ⟨rfl, rfl⟩))
                      go_meet
                      exact ⟨rfl, rfl⟩
                  · have HK2 := Lib.hid hk2; clear hk2
                    go_wp2_with fail
                    go_meet
                    exact ⟨rfl, rfl⟩
            · have tk1 : ((k : Int) == 1) = false := by simp; omega
              by_cases hk2 : k = 2
              · subst hk2
                have hE := tokE_kind (byteAt s) s.size j
                rw [HK.out] at hE
                simp only [if_true, Nat.reduceEqDiff, if_false] at hE
                obtain ⟨n1, n2, n3, n4⟩ := runEnd_spec listB (byteAt s) s.size j (by omega)
                rw [← hE, HE.out] at n1 n2 n3 n4
                have N3 := Lib.hid n3; have N4 := Lib.hid n4
                clear n3 n4 hE
                go_loopg [8] (E - (j + 1)) (fun g n wx => ∃ m, j + 1 ≤ m ∧ m ≤ E ∧ g = E - m ∧ n = .int .i64 m ∧ wr = wx)
                case atStart => exact ⟨j + 1, by omega, by omega, rfl, by go_num, rfl⟩
                case round =>
                  obtain ⟨m, hm1, hm2, hm3, hm4, rfl⟩ := hrel
                  have HM := Lib.hid hm3; clear hm3
                  subst hm4
                  obtain ⟨q, hk2⟩ : ∃ q, kindF (byteAt s m) = q := ⟨_, rfl⟩
                  have hq2 := kind_any (byteAt s m)
                  rw [hk2] at hq2
                  have HQ2 := Lib.hid hq2; clear hq2
                  by_cases hmE : m < E
                  · have hbm := byteAt_eq s m (by omega)
                    have m0 : (0 : Int) ≤ (m : Int) := by omega
                    have m1 : (m : Int) < (s.size : Int) := by omega
                    have hnm := (kind_list (byteAt s m)).2 (N3.out m (by omega) hmE)
                    rw [hk2] at hnm
                    by_cases hq2 : q = 2
                    · have d1 : ((q : Int) == 2) = true := by simp; omega
                      have HK2 := Lib.hid hk2; have HQQ := Lib.hid hq2; clear hk2 hnm hq2
                      go_wp2_with (first | (go_at_call 25; (with_reducible refine (HQ2.out _).mono ?_); rintro e wq ⟨rfl, rfl⟩))
                      go_roundg (E - (m + 1))
                      case measure => have := HM.out; omega
                      case rel => exact ⟨m + 1, by omega, by omega, rfl, by go_num, rfl⟩
                    · have d1 : ((q : Int) == 2) = false := by simp; omega
                      have d3 : ((q : Int) == 4) = true := by simp; omega
                      have HK2 := Lib.hid hk2; have HQQ := Lib.hid hq2; clear hk2 hnm hq2
                      go_wp2_with (first | (go_at_call 25; (with_reducible refine (HQ2.out _).mono ?_); rintro e wq ⟨rfl, rfl⟩))
                      go_roundg (E - (m + 1))
                      case measure => have := HM.out; omega
                      case rel => exact ⟨m + 1, by omega, by omega, rfl, by go_num, rfl⟩
                  · obtain rfl : m = E := by omega
                    by_cases hms : m < s.size
                    · have hbm := byteAt_eq s m hms
                      have m0 : (0 : Int) ≤ (m : Int) := by omega
                      have m1 : (m : Int) < (s.size : Int) := by omega
                      have hnm : ¬ (q = 2 ∨ q = 4) := fun e => by
                        rw [← hk2] at e
                        have := (kind_list (byteAt s m)).1 e
                        rcases N4.out with e2 | e2
                        · omega
                        · rw [this] at e2; cases e2
                      have d1 : ((q : Int) == 2) = false := by simp; omega
                      have d3 : ((q : Int) == 4) = false := by simp; omega
                      have HK2 := Lib.hid hk2; clear hk2
                      go_wp2_with (first | (go_at_call 25; (with_reducible refine (HQ2.out _).mono ?_); rintro e wq ⟨rfl, rfl⟩))
                      go_meet
                      exact ⟨rfl, rfl⟩
                    · have HK2 := Lib.hid hk2; clear hk2
                      go_wp2_with fail
                      go_meet
                      exact ⟨rfl, rfl⟩
              · have tk2 : ((k : Int) == 2) = false := by simp; omega
                have hE := tokE_kind (byteAt s) s.size j
                rw [HK.out, if_neg hk1, if_neg hk2, HE.out] at hE
                have HEE := Lib.hid hE
                have HK1 := Lib.hid hk1; have HK2 := Lib.hid hk2; clear hE hk1 hk2
                go_loopg [8] 0 (fun g n wx => n = .int .i64 ((j : Int) + 1) ∧ wr = wx)
                case atStart => exact ⟨rfl, rfl⟩
                case round =>
                  obtain ⟨hm4, rfl⟩ := hrel
                  subst hm4
                  by_cases hms : j + 1 < s.size
                  · go_wp2_with fail
                    go_meet
                    exact ⟨by rw [HEE.out] <;> go_num, rfl⟩
                  · go_wp2_with fail
                    go_meet
                    exact ⟨by rw [HEE.out] <;> go_num, rfl⟩
          case rest =>
            obtain ⟨rfl, hwc⟩ := hcut
            obtain rfl := hwc.symm
            have HAT : Hid (∀ W, Calls Try.prog 12 #[.string s, .int .i64 j] W fun e w' => e = .returned (.agg #[.int .i64 j, .int .i64 (lineA (byteAt s) j), .int .i64 (colA (byteAt s) j)]) ∧ Below W.heap.size W w') := fun W => by
              have := refAt_any s j W hs2
              rw [show clampN (j : Int) s.size = j by unfold clampN; omega] at this
              exact this
            have i2 : (j : Int) ≤ (E : Int) := by omega
            have i3 : (E : Int) ≤ (s.size : Int) := by omega
            go_upto_region 15 with fail
            go_cut [9] (fun p wx => ∃ g, p = .pointer (some ⟨g, 0, none⟩) ∧ wr.heap.size ≤ g ∧ Tk g (.int .i64 0) (.string (s.extract j E)) (.int .i64 j) (.int .i64 (lineA (byteAt s) j)) (.int .i64 (colA (byteAt s) j)) wx ∧ Below wr.heap.size wr wx)
            case first =>
              have HS : Hid (Below wr.heap.size wr wr.drew) := (Below.refl _ _).drew
              refine wp_region_held_drew (S := fun W => Below wr.heap.size wr W) (by kernel_rfl) HS.out (fun _ => ?_)
              show wpAnyH _ _ _ _ _ _ _ _ _
              refine wpAnyH_take (i := 0) (v := ?_) rfl (by kernel_rfl) (by kernel_rfl) (by kernel_rfl) (fun _ _ _ h => h) (Or.inl ⟨by rfl, fun W hW => by go_simp <;> with_reducible rfl⟩) HS.out ?_
              go_simp
              refine wpAnyH_take (i := 1) (v := ?_) rfl (by kernel_rfl) (by kernel_rfl) (by kernel_rfl) (fun _ _ _ h => h) (Or.inl ⟨by rfl, fun W hW => by go_simp <;> with_reducible rfl⟩) HS.out ?_
              go_simp
              refine wpAnyH_take (i := 2) (v := ?_) rfl (by kernel_rfl) (by kernel_rfl) (by kernel_rfl) (fun _ _ _ h => h) (Or.inl ⟨by rfl, fun W hW => by go_simp <;> with_reducible rfl⟩) HS.out ?_
              go_simp
              refine wpAnyH_take (i := 3) (v := ?_) rfl (by kernel_rfl) (by kernel_rfl) (by kernel_rfl) (fun _ _ _ h => h) (Or.inl ⟨by rfl, fun W hW => by go_simp <;> with_reducible rfl⟩) HS.out ?_
              go_simp
              refine wpAnyH_take (i := 4) (v := ?_) rfl (by kernel_rfl) (by kernel_rfl) (by kernel_rfl) (fun _ _ _ h => h) (Or.inl ⟨by rfl, fun W hW => by go_simp <;> with_reducible rfl⟩) HS.out ?_
              go_simp
              refine wpAnyH_take (i := 5) (v := ?_) rfl (by kernel_rfl) (by kernel_rfl) (by kernel_rfl) (fun _ _ _ h => h) (Or.inl ⟨by rfl, fun W hW => by go_simp <;> with_reducible rfl⟩) HS.out ?_
              go_simp
              refine wpAnyH_ready (rs := [6, 8]) (by kernel_rfl) (by simp) (AllReadyH.cons rfl (fun K hK => ?_) (AllReadyH.cons rfl (fun K hK => ?_) AllReadyH.nil))
              · go_simp
                refine (HAT.out _).mono ?_
                rintro e w2 ⟨rfl, h2⟩
                have HS2 : Hid (Below wr.heap.size wr w2) := HS.out.trans (h2.mono HS.out.size)
                clear HS; have HS := HS2
                refine hK.out _ _ HS.out (fun _ => ?_)
                clear hK K
                refine wpAnyH_take (i := 7) (v := ?_) rfl (by kernel_rfl) (by kernel_rfl) (by kernel_rfl) (fun _ _ _ h => h) (Or.inl ⟨by rfl, fun W hW => by go_simp <;> with_reducible rfl⟩) HS.out ?_
                go_simp
                refine wpAnyH_ready (rs := [8]) (by kernel_rfl) (by simp) (AllReadyH.cons rfl (fun K hK => ?_) AllReadyH.nil)
                go_simp
                have HS3 : Hid (Below wr.heap.size wr (w2.alloc (.cells #[.int .i64 0, .string { data := #[] }, .int .i64 0, .int .i64 0, .int .i64 0] 33))) := HS.out.alloc HS.out.size _
                have hz2 := HS.out.size
                clear HS; have HS := HS3; clear HS3
                refine hK.out _ _ HS.out (fun _ => ?_)
                clear hK K
                refine wpAnyH_ready (rs := [9]) (by kernel_rfl) (by simp) (AllReadyH.cons rfl (fun K hK => ?_) AllReadyH.nil)
                go_simp
                have HS4 : Hid (Below wr.heap.size wr (w2.alloc (.cells #[.int .i64 0, .string (s.extract j E), .int .i64 j, .int .i64 (lineA (byteAt s) j), .int .i64 (colA (byteAt s) j)] 33))) := HS2.out.alloc HS2.out.size _
                clear HS; have HS := HS4; clear HS4
                refine hK.out _ _ HS.out (fun _ => ?_)
                clear hK K
                refine wpAnyH_done (by kernel_rfl) ?_ _
                go_wp2_with fail
                go_meet
                exact ⟨_, rfl, hz2, tk_new w2 _ _ _ _ _, HS.out⟩
              · go_simp
                have HS3 : Hid (Below wr.heap.size wr ((wr.alloc (.cells #[.int .i64 0, .string { data := #[] }, .int .i64 0, .int .i64 0, .int .i64 0] 33)).drew)) := ((Below.refl _ _).alloc (Nat.le_refl _) _).drew
                have TK3 : Hid (Tk wr.heap.size (.int .i64 0) (.string { data := #[] }) (.int .i64 0) (.int .i64 0) (.int .i64 0) ((wr.alloc (.cells #[.int .i64 0, .string { data := #[] }, .int .i64 0, .int .i64 0, .int .i64 0] 33)).drew)) := tk_new wr _ _ _ _ _
                clear HS; have HS := HS3; clear HS3
                refine hK.out _ _ HS.out (fun _ => ?_)
                clear hK K
                refine wpAnyH_ready (rs := [6]) (by kernel_rfl) (by simp) (AllReadyH.cons rfl (fun K hK => ?_) AllReadyH.nil)
                go_simp
                refine (HAT.out _).mono ?_
                rintro e w2 ⟨rfl, h2⟩
                have HS2 : Hid (Below wr.heap.size wr w2) := HS.out.trans (h2.mono HS.out.size)
                have TK2 : Hid (Tk wr.heap.size (.int .i64 0) (.string { data := #[] }) (.int .i64 0) (.int .i64 0) (.int .i64 0) w2) := (h2.block _ (by simp)).trans TK3.out
                clear HS TK3 h2; have HS := HS2
                refine hK.out _ _ HS.out (fun _ => ?_)
                clear hK K
                refine wpAnyH_take (i := 7) (v := ?_) rfl (by kernel_rfl) (by kernel_rfl) (by kernel_rfl) (fun _ _ _ h => h) (Or.inl ⟨by rfl, fun W hW => by go_simp <;> with_reducible rfl⟩) HS.out ?_
                go_simp
                refine wpAnyH_ready (rs := [9]) (by kernel_rfl) (by simp) (AllReadyH.cons rfl (fun K hK => ?_) AllReadyH.nil)
                obtain ⟨x0, x1, x2, x3, x4, xf⟩ := TK2.out.cells
                have f0 := xf 0; have f1 := xf 1; have f2 := xf 2; have f3 := xf 3; have f4 := xf 4
                clear xf
                go_simp
                have HS4 : Hid (Below wr.heap.size wr (((((w2.setCell ⟨wr.heap.size, 0, none⟩ (.int .i64 0)).setCell ⟨wr.heap.size, 1, none⟩ (.string (s.extract j E))).setCell ⟨wr.heap.size, 2, none⟩ (.int .i64 j)).setCell ⟨wr.heap.size, 3, none⟩ (.int .i64 (lineA (byteAt s) j))).setCell ⟨wr.heap.size, 4, none⟩ (.int .i64 (colA (byteAt s) j)))) := ((((HS2.out.setCell (Nat.le_refl _) _).setCell (Nat.le_refl _) _).setCell (Nat.le_refl _) _).setCell (Nat.le_refl _) _).setCell (Nat.le_refl _) _
                clear HS; have HS := HS4; clear HS4
                refine hK.out _ _ HS.out (fun _ => ?_)
                clear hK K
                refine wpAnyH_done (by kernel_rfl) ?_ _
                go_wp2_with fail
                go_meet
                exact ⟨_, rfl, Nat.le_refl _, ((((TK2.out.set0 _).set1 _).set2 _).set3 _).set4 _, HS.out⟩
            case rest =>
              obtain ⟨g, rfl, hg, hT, hBw⟩ := hcut
              have OWN := Lib.hid (I.own.kept (w' := wc) (row := none) ⟨hBw.os, hBw.tape, hBw.output, hBw.size, fun j hj _ => hBw.block j hj⟩ (by cases u5.ownBlock <;> simp))
              have hne : Hid (∀ b, u5.ownBlock = some b → B ≤ b ∧ b < g) := fun b e => by have := I.own.lt b e; omega
              have BEL := Lib.hid (I.bel.trans (hBw.mono I.sz))
              have hBg : B ≤ g := by have := I.sz; omega
              have LEX := Lib.hid I.lex
              have hdl := I.len
              have hTg : g < wc.heap.size := by
                unfold Tk at hT
                rcases Nat.lt_or_ge g wc.heap.size with h' | h'
                · exact h'
                · rw [Array.getElem?_eq_none h'] at hT; cases hT
              have TK := Lib.hid hT
              obtain ⟨x0, x1, x2, x3, x4, xf⟩ := hT.cells
              have f0 := xf 0
              have hKK := tokK_kind (byteAt s j)
              rw [HK.out] at hKK
              have HKK := Lib.hid hKK
              clear hT hBw hI xf I hKK
              by_cases hk1 : k = 1
              · subst hk1
                have hkk : tokK (byteAt s j) = 1 := HKK.out
                by_cases h32 : 32 < E - j
                · have d32 : decide ((32 : Int) < (E : Int) - (j : Int)) = true := by simp; omega
                  have hlex := lex_big (byteAt s) s.size j hlt HBL.out H35.out hkk (by rw [HE.out]; exact h32)
                  have hRR : RR = ([], 2, j) := by
                    have := HR.out
                    rw [LEX.out, hlex] at this
                    simpa using this.symm
                  have HRR := Lib.hid hRR; clear hRR hlex hkk
                  go_wp2_with fail
                  go_ret3
                  refine ⟨.slice none 0 0, ?_, ?_, ?_⟩
                  · rw [HRR.out] <;> rfl
                  · rw [HRR.out]; exact World.ownsRow_nil _ _ _ _
                  · exact BEL.out.setCell (p := ⟨g, 0, none⟩) hBg _
                · have d32 : decide ((32 : Int) < (E : Int) - (j : Int)) = false := by simp; omega
                  have hlex := lex_tok (byteAt s) s.size j hlt HBL.out H35.out (by rw [hkk]; decide) (by rw [hkk, HE.out]; omega)
                  rw [hkk, HE.out] at hlex
                  have HLE := Lib.hid hlex
                  clear hlex hkk
                  obtain ⟨ad, cap, hv⟩ := own_form OWN.out
                  subst hv
                  obtain ⟨i0, hi0, hz0, hz1, hz2⟩ := info_parts infoTk
                  have O1 := Lib.hid (OWN.out.kept (grown_set wc ⟨g, 0, none⟩ (.int .i64 1)) (.inr (fun e => Nat.lt_irrefl g (hne.out _ e).2)))
                  go_wp2_with (at_builtin; refine wpList_append_own _ rfl (.tmp 107) (.tmp 109) 23 rfl B 33 i0 _ 5 48 Try.underlying23 hi0 hz0 hz1 hz2 rfl (by decide) _ _ _ rfl (O1.out.alloc _) ⟨wc.heap.size, 0, none⟩ 1 1 (tokC s 1 j E).toList rfl rfl ?_ ?_ ?_ ?_ ?_ ?_)
                  · intro a u h; simpa [tokC] using h
                  · intro u hu
                    simp [tokC] at hu
                    rcases hu with rfl | rfl | rfl | rfl | rfl <;> rfl
                  · unfold maxLen; omega
                  · omega
                  · omega
                  intro v6 w6 own6 g6 _
                  have B6 := Below.grown ((BEL.out.setCell (p := ⟨g, 0, none⟩) hBg (.int .i64 1)).alloc (by simp; omega) (.cells (tokC s 1 j E) 33)) g6 (by simp; omega) (fun k hk => (hne.out k hk).1)
                  have z6 : B ≤ w6.heap.size := by have := g6.size; simp at this; omega
                  have o6 : w6.ownsRow B 33 5 v6 (done ++ [(⟨1, j, E⟩ : Tok)]).length (toksC s (done ++ [(⟨1, j, E⟩ : Tok)])) := by
                    rw [toksC_snoc]; simpa using own6
                  have I6 : Hid (ArInv s B w E (done ++ [(⟨1, j, E⟩ : Tok)]) v6 w6) := {
                    bel := B6
                    own := o6
                    lex := by rw [LEX.out, HLE.out]; simp
                    le := hE2
                    len := by simp; omega
                    sz := z6 }
                  clear own6 g6 B6 z6 o6
                  go_wp2_with fail
                  go_roundg (s.size - E)
                  case measure => have := HG.out; omega
                  case rel => exact ⟨E, _, rfl, rfl, I6⟩
              · have tk1 : ((k : Int) == 1) = false := by simp; omega
                by_cases hk2 : k = 2
                · subst hk2
                  have hkk : tokK (byteAt s j) = 2 := HKK.out
                  have hlex := lex_tok (byteAt s) s.size j hlt HBL.out H35.out (by rw [hkk]; decide) (by rw [hkk, HE.out]; omega)
                  rw [hkk, HE.out] at hlex
                  have HLE := Lib.hid hlex
                  clear hlex hkk
                  obtain ⟨ad, cap, hv⟩ := own_form OWN.out
                  subst hv
                  obtain ⟨i0, hi0, hz0, hz1, hz2⟩ := info_parts infoTk
                  have O1 := Lib.hid (OWN.out.kept (grown_set wc ⟨g, 0, none⟩ (.int .i64 2)) (.inr (fun e => Nat.lt_irrefl g (hne.out _ e).2)))
                  go_wp2_with (at_builtin; refine wpList_append_own _ rfl (.tmp 107) (.tmp 109) 23 rfl B 33 i0 _ 5 48 Try.underlying23 hi0 hz0 hz1 hz2 rfl (by decide) _ _ _ rfl (O1.out.alloc _) ⟨wc.heap.size, 0, none⟩ 1 1 (tokC s 2 j E).toList rfl rfl ?_ ?_ ?_ ?_ ?_ ?_)
                  · intro a u h; simpa [tokC] using h
                  · intro u hu
                    simp [tokC] at hu
                    rcases hu with rfl | rfl | rfl | rfl | rfl <;> rfl
                  · unfold maxLen; omega
                  · omega
                  · omega
                  intro v6 w6 own6 g6 _
                  have B6 := Below.grown ((BEL.out.setCell (p := ⟨g, 0, none⟩) hBg (.int .i64 2)).alloc (by simp; omega) (.cells (tokC s 2 j E) 33)) g6 (by simp; omega) (fun k hk => (hne.out k hk).1)
                  have z6 : B ≤ w6.heap.size := by have := g6.size; simp at this; omega
                  have o6 : w6.ownsRow B 33 5 v6 (done ++ [(⟨2, j, E⟩ : Tok)]).length (toksC s (done ++ [(⟨2, j, E⟩ : Tok)])) := by
                    rw [toksC_snoc]; simpa using own6
                  have I6 : Hid (ArInv s B w E (done ++ [(⟨2, j, E⟩ : Tok)]) v6 w6) := {
                    bel := B6
                    own := o6
                    lex := by rw [LEX.out, HLE.out]; simp
                    le := hE2
                    len := by simp; omega
                    sz := z6 }
                  clear own6 g6 B6 z6 o6
                  go_wp2_with fail
                  go_roundg (s.size - E)
                  case measure => have := HG.out; omega
                  case rel => exact ⟨E, _, rfl, rfl, I6⟩
                · have tk2 : ((k : Int) == 2) = false := by simp; omega
                  by_cases hk5 : k = 5
                  · subst hk5
                    have hkk : tokK (byteAt s j) = 3 := HKK.out
                    have hlex := lex_tok (byteAt s) s.size j hlt HBL.out H35.out (by rw [hkk]; decide) (by rw [hkk, HE.out]; omega)
                    rw [hkk, HE.out] at hlex
                    have HLE := Lib.hid hlex
                    clear hlex hkk
                    obtain ⟨ad, cap, hv⟩ := own_form OWN.out
                    subst hv
                    obtain ⟨i0, hi0, hz0, hz1, hz2⟩ := info_parts infoTk
                    have O1 := Lib.hid (OWN.out.kept (grown_set wc ⟨g, 0, none⟩ (.int .i64 3)) (.inr (fun e => Nat.lt_irrefl g (hne.out _ e).2)))
                    go_wp2_with (at_builtin; refine wpList_append_own _ rfl (.tmp 107) (.tmp 109) 23 rfl B 33 i0 _ 5 48 Try.underlying23 hi0 hz0 hz1 hz2 rfl (by decide) _ _ _ rfl (O1.out.alloc _) ⟨wc.heap.size, 0, none⟩ 1 1 (tokC s 3 j E).toList rfl rfl ?_ ?_ ?_ ?_ ?_ ?_)
                    · intro a u h; simpa [tokC] using h
                    · intro u hu
                      simp [tokC] at hu
                      rcases hu with rfl | rfl | rfl | rfl | rfl <;> rfl
                    · unfold maxLen; omega
                    · omega
                    · omega
                    intro v6 w6 own6 g6 _
                    have B6 := Below.grown ((BEL.out.setCell (p := ⟨g, 0, none⟩) hBg (.int .i64 3)).alloc (by simp; omega) (.cells (tokC s 3 j E) 33)) g6 (by simp; omega) (fun k hk => (hne.out k hk).1)
                    have z6 : B ≤ w6.heap.size := by have := g6.size; simp at this; omega
                    have o6 : w6.ownsRow B 33 5 v6 (done ++ [(⟨3, j, E⟩ : Tok)]).length (toksC s (done ++ [(⟨3, j, E⟩ : Tok)])) := by
                      rw [toksC_snoc]; simpa using own6
                    have I6 : Hid (ArInv s B w E (done ++ [(⟨3, j, E⟩ : Tok)]) v6 w6) := {
                      bel := B6
                      own := o6
                      lex := by rw [LEX.out, HLE.out]; simp
                      le := hE2
                      len := by simp; omega
                      sz := z6 }
                    clear own6 g6 B6 z6 o6
                    go_wp2_with fail
                    go_roundg (s.size - E)
                    case measure => have := HG.out; omega
                    case rel => exact ⟨E, _, rfl, rfl, I6⟩
                  · have tk5 : ((k : Int) == 5) = false := by simp; omega
                    have hkk : tokK (byteAt s j) = 0 := by
                      have := HKK.out
                      rw [if_neg hk1, if_neg hk2, if_neg hk5] at this; exact this
                    have K1 := Lib.hid hk1; have K2 := Lib.hid hk2; have K5 := Lib.hid hk5
                    clear hk1 hk2 hk5
                    have hlex := lex_byte (byteAt s) s.size j hlt HBL.out H35.out hkk
                    have hRR : RR = ([], 20, j) := by
                      have := HR.out
                      rw [LEX.out, hlex] at this
                      simpa using this.symm
                    have HRR := Lib.hid hRR; clear hRR hlex hkk
                    go_wp2_with fail
                    go_ret3
                    refine ⟨.slice none 0 0, ?_, ?_, ?_⟩
                    · rw [HRR.out] <;> rfl
                    · rw [HRR.out]; exact World.ownsRow_nil _ _ _ _
                    · exact BEL.out
    · have hle : s.size ≤ j := by omega
      have hRR : RR = (done, 0, 0) := by
        have := HR.out
        rw [I.lex, lex_done _ _ _ hle] at this
        simpa using this.symm
      have HRR := Lib.hid hRR; clear hRR
      have BEL := Lib.hid I.bel; have OWN := Lib.hid I.own
      clear I hI
      go_wp2_with fail
      go_ret3
      refine ⟨u5, ?_, ?_, BEL.out⟩
      · rw [HRR.out] <;> rfl
      · rw [HRR.out]; exact OWN.out
end Go.Proofs.Ytaghoicmfpndbaa
