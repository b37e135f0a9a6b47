/- CohortOwner's walk (layer 14). -/
import Derived.Test.YtekahmfchpgmfaaC3
namespace Go.Proofs.Ytekahmfchpgmfaa
open Go.RowKit
set_option maxRecDepth 100000

/-- One takes it; another one waits. -/
def ko1 (a s : Int) : Coh := { zCoh with own := a, soc := s }
def ko2 (a s b : Int) : Coh := { zCoh with own := a, soc := s, rnd := [(s, [b])] }
section
variable {a b s : Int}
theorem ko_e1 (ha : 0 ≤ a) (hs : 0 ≤ s) : takeE zCoh a s = (true, 0) := by
  unfold takeE
  rw [if_neg (by omega), if_neg (by show ¬ (-1 : Int) = a; omega), if_neg (by simp [waitsC, zCoh])]; rfl
theorem ko_t1 (ha : 0 ≤ a) (hs : 0 ≤ s) : takeT zCoh a s = ko1 a s := by
  unfold takeT; rw [ko_e1 ha hs, if_pos rfl]; unfold takeC; rw [if_pos (show zCoh.own = -1 from rfl)]; rfl
theorem ko_e2 (ha : 0 ≤ a) (hs : 0 ≤ s) : takeE (ko1 a s) a s = (false, 8) := by
  unfold takeE
  rw [if_neg (by omega), if_pos (show (ko1 a s).own = a from rfl)]
theorem ko_t2 (ha : 0 ≤ a) (hs : 0 ≤ s) : takeT (ko1 a s) a s = ko1 a s := by
  unfold takeT; rw [ko_e2 ha hs, if_neg (by decide)]
theorem ko_o3 (hab : a ≠ b) : isOfC (ko1 a s) b = false := by
  unfold isOfC
  have : ((ko1 a s).own == b) = false := by simpa [ko1] using hab
  rw [this]; simp
theorem ko_e4 (ha : 0 ≤ a) (hb : 0 ≤ b) (hs : 0 ≤ s) (hab : a ≠ b) : takeE (ko1 a s) b s = (false, 0) := by
  unfold takeE
  rw [if_neg (by omega), if_neg (by simpa [ko1] using hab), if_neg (by simp [waitsC, ko1, zCoh])]
  rw [show decide ((ko1 a s).own = -1) = false from decide_eq_false (show ¬ a = -1 by omega)]
theorem ko_t4 (ha : 0 ≤ a) (hb : 0 ≤ b) (hs : 0 ≤ s) (hab : a ≠ b) : takeT (ko1 a s) b s = ko2 a s b := by
  unfold takeT; rw [ko_e4 ha hb hs hab, if_pos rfl]; unfold takeC; rw [if_neg (by show ¬ a = -1; omega)]; rfl
theorem ko_e5 (hb : 0 ≤ b) (hs : 0 ≤ s) (hab : a ≠ b) : takeE (ko2 a s b) b s = (false, 9) := by
  unfold takeE
  rw [if_neg (by omega), if_neg (by simpa [ko2] using hab), if_pos (by simp [waitsC, ko2, withR])]
theorem ko_t5 (hb : 0 ≤ b) (hs : 0 ≤ s) (hab : a ≠ b) : takeT (ko2 a s b) b s = ko2 a s b := by
  unfold takeT; rw [ko_e5 hb hs hab, if_neg (by decide)]
theorem ko_o6 (ha : 0 ≤ a) : isOfC (ko2 a s b) a = true := by
  unfold isOfC
  have h1 : (a == -1) = false := by simp; omega
  have h2 : ((ko2 a s b).own == a) = true := by simp [ko2]
  rw [h1, h2]; rfl
theorem ko_i6 : ownI (ko2 a s b) = 0 := by
  unfold ownI ko2; simp [idxR, ofR]
theorem ko_g6 : goesC (ko2 a s b) = true := by
  unfold goesC; rw [ko_i6]; simp
theorem ko_w6 : (giveC (ko2 a s b)).own = b := by
  unfold giveC
  rw [ko_i6, if_pos ⟨by omega, .inl (by show (0 : Int) < 3; omega)⟩]
  rfl
end
set_option maxHeartbeats 8000000 in
theorem owner14_any (a b s : Int) (w : World) : Calls Try.prog 7 #[.int .i64 a, .int .i64 b, .int .i64 s] w fun e w' => e = .returned (.bool true) ∧ Below w.heap.size w w' := by
  have HLV := Lib.hid (fun W => lives14_any W)
  by_cases hbad : a < 0 ∨ b < 0 ∨ s < 0 ∨ a = b
  · by_cases h1 : a < 0
    · have t1 : decide (a < 0) = true := by simpa using h1
      clear hbad h1
      go_enter Try.func7, Try.ntmps7
      go_wp2_with fail
      refine (HLV.out _).mono ?_
      rintro e w1 ⟨rfl, h⟩
      dsimp only
      go_wp2_with fail
      go_ret
      exact ⟨rfl, h⟩
    · have t1 : decide (a < 0) = false := by simpa using h1
      by_cases h2 : b < 0
      · have t2 : decide (b < 0) = true := by simpa using h2
        clear hbad h1 h2
        go_enter Try.func7, Try.ntmps7
        go_wp2_with fail
        refine (HLV.out _).mono ?_
        rintro e w1 ⟨rfl, h⟩
        dsimp only
        go_wp2_with fail
        go_ret
        exact ⟨rfl, h⟩
      · have t2 : decide (b < 0) = false := by simpa using h2
        by_cases h3 : s < 0
        · have t3 : decide (s < 0) = true := by simpa using h3
          clear hbad h1 h2 h3
          go_enter Try.func7, Try.ntmps7
          go_wp2_with fail
          refine (HLV.out _).mono ?_
          rintro e w1 ⟨rfl, h⟩
          dsimp only
          go_wp2_with fail
          go_ret
          exact ⟨rfl, h⟩
        · have t3 : decide (s < 0) = false := by simpa using h3
          have h4 : a = b := by omega
          subst h4
          have t4 : (a == a) = true := by simp
          clear hbad h1 h2 h3
          go_enter Try.func7, Try.ntmps7
          go_wp2_with fail
          refine (HLV.out _).mono ?_
          rintro e w1 ⟨rfl, h⟩
          dsimp only
          go_wp2_with fail
          go_ret
          exact ⟨rfl, h⟩
  · have ha : 0 ≤ a := by omega
    have hb : 0 ≤ b := by omega
    have hs : 0 ≤ s := by omega
    have hab : a ≠ b := by omega
    have t1 : decide (a < 0) = false := by simp; omega
    have t2 : decide (b < 0) = false := by simp; omega
    have t3 : decide (s < 0) = false := by simp; omega
    have t4 : (a == b) = false := by simpa using hab
    have t5 : (b != b) = false := by simp
    have HA := Lib.hid ha; have HB := Lib.hid hb; have HS := Lib.hid hs; have HAB := Lib.hid hab
    have P := Lib.hid (new1 w)
    clear hbad ha hb hs hab
    go_enter Try.func7, Try.ntmps7
    go_wp2_with fail
    refine P.out.mono ?_
    rintro e w1 ⟨pb, lb, rfl, h1, b1⟩
    dsimp only
    have HT1 := Lib.hid (take1 a s (ko_e1 HA.out HS.out) (ko_t1 HA.out HS.out) h1 (by omega) b1.size)
    have HB1 := Lib.hid b1
    clear h1 b1 P
    go_wp2_with fail
    refine HT1.out.mono ?_
    rintro e w2 ⟨rfl, h2, b2⟩
    dsimp only
    have HB2 := Lib.hid (HB1.out.trans b2)
    have HT2 := Lib.hid (take1 a s (ko_e2 HA.out HS.out) (ko_t2 HA.out HS.out) h2 (by omega) HB2.out.size)
    clear h2 b2 HT1 HB1
    go_wp2_with fail
    refine HT2.out.mono ?_
    rintro e w3 ⟨rfl, h3, b3⟩
    dsimp only
    have HB3 := Lib.hid (HB2.out.trans b3)
    obtain ⟨gg, hgg⟩ : ∃ g, goesC (ko1 a s) = g := ⟨_, rfl⟩
    have HT3 := Lib.hid (give1 (c' := ko1 a s) (ow := 0) b (ko_o3 HAB.out) hgg (by rw [if_neg (by rintro ⟨h, _⟩; cases h)]) (if_neg (by simp)) h3 (by omega) HB3.out.size)
    rw [if_neg (by simp), Bool.false_and] at HT3
    clear h3 b3 HT2 HB2 hgg
    go_wp2_with fail
    refine HT3.out.mono ?_
    rintro e w4 ⟨rfl, h4, b4⟩
    dsimp only
    have HB4 := Lib.hid (HB3.out.trans b4)
    have HT4 := Lib.hid (take1 b s (ko_e4 HA.out HB.out HS.out HAB.out) (ko_t4 HA.out HB.out HS.out HAB.out) h4 (by omega) HB4.out.size)
    clear h4 b4 HT3 HB3
    go_wp2_with fail
    refine HT4.out.mono ?_
    rintro e w5 ⟨rfl, h5, b5⟩
    dsimp only
    have HB5 := Lib.hid (HB4.out.trans b5)
    have HT5 := Lib.hid (take1 b s (ko_e5 HB.out HS.out HAB.out) (ko_t5 HB.out HS.out HAB.out) h5 (by omega) HB5.out.size)
    clear h5 b5 HT4 HB4
    go_wp2_with fail
    refine HT5.out.mono ?_
    rintro e w6 ⟨rfl, h6, b6⟩
    dsimp only
    have HB6 := Lib.hid (HB5.out.trans b6)
    have HT6 := Lib.hid (give1 (c' := giveC (ko2 a s b)) (ow := b) a (ko_o6 HA.out) ko_g6 (by rw [if_pos ⟨rfl, rfl⟩]; exact ko_w6) (if_pos rfl) h6 (by omega) HB6.out.size)
    rw [if_pos rfl, Bool.and_self] at HT6
    clear h6 b6 HT5 HB5
    go_wp2_with fail
    refine HT6.out.mono ?_
    rintro e w7 ⟨rfl, -, b7⟩
    dsimp only
    have HB7 := Lib.hid (HB6.out.trans b7)
    clear b7 HT6 HB6
    have N1 := Lib.hid (takeL_nil 0 a s w7); have N2 := Lib.hid (giveL_nil 0 a w7); have N3 := Lib.hid (ownerL_nil 0 w7); have N4 := Lib.hid (waitL_nil 0 w7); have N5 := Lib.hid (ownedL_nil a w7); have N6 := Lib.hid (len_nil w7)
    go_wp2_with (first
      | (go_at_call 17; (with_reducible refine N1.out.mono ?_); rintro e w2 ⟨rfl, rfl⟩)
      | (go_at_call 21; (with_reducible refine N2.out.mono ?_); rintro e w2 ⟨rfl, rfl⟩)
      | (go_at_call 18; (with_reducible refine N3.out.mono ?_); rintro e w2 ⟨rfl, rfl⟩)
      | (go_at_call 20; (with_reducible refine N4.out.mono ?_); rintro e w2 ⟨rfl, rfl⟩)
      | (go_at_call 23; (with_reducible refine N5.out.mono ?_); rintro e w2 ⟨rfl, rfl⟩)
      | (go_at_call 22; (with_reducible refine N6.out.mono ?_); rintro e w2 ⟨rfl, rfl⟩)
      | (go_at_call 16; (with_reducible refine (HLV.out _).mono ?_); rintro e w9 ⟨rfl, h9⟩; have H9 := Lib.hid h9; clear h9))
    go_ret
    exact ⟨rfl, HB7.out.trans (H9.out.mono HB7.out.size)⟩
end Go.Proofs.Ytekahmfchpgmfaa
