/- The walk of DescLimits: the law answers true at every number. -/
import Derived.Test.YtaghoicmfpndbaaBk
import Derived.Laws.MakeOwn
namespace Go.Proofs.Ytaghoicmfpndbaa
open Go.RowKit

/-- N times the same byte. -/
def repS (b : UInt8) (N : Nat) : ByteArray := ⟨(List.replicate N b).toArray⟩
theorem repS_size (b : UInt8) (N : Nat) : (repS b N).size = N := by unfold repS; rw [size_mk]; simp
theorem repS_at (b : UInt8) (N j : Nat) (h : j < N) : byteAt (repS b N) j = b.toNat := by
  unfold repS; rw [byteAt_mk]; unfold cL; simp [h]
theorem res_a (N : Nat) (h1 : 1 ≤ N) (h2 : N ≤ 32) : resR (repS 97 N) = ([⟨1, 0, N⟩], 0, 0) := by
  have hk : tokK 97 = 1 := rfl
  have hc := repS_at 97 N 0 (by omega)
  have hE : tokE (byteAt (repS 97 N)) N 0 = N := by
    unfold tokE
    rw [hc, if_pos (by rfl)]
    exact runEnd_eq nameB _ _ _ _ (by omega) (Nat.le_refl _) (fun j _ hj => by rw [repS_at 97 N j hj]; rfl) (.inl rfl)
  unfold resR
  rw [repS_size, if_neg (by omega), lex_tok _ _ _ (by omega) (by rw [hc]; rfl) (by rw [hc]; decide) (by rw [hc]; decide) (by rw [hE]; omega), hE, hc, lex_done _ _ _ (Nat.le_refl _)]
  rfl
theorem res_a_big (N : Nat) (h2 : 32 < N) : resR (repS 97 N) = ([], 2, 0) := by
  have hc := repS_at 97 N 0 (by omega)
  have hE : tokE (byteAt (repS 97 N)) N 0 = N := by
    unfold tokE
    rw [hc, if_pos (by rfl)]
    exact runEnd_eq nameB _ _ _ _ (by omega) (Nat.le_refl _) (fun j _ hj => by rw [repS_at 97 N j hj]; rfl) (.inl rfl)
  unfold resR
  rw [repS_size]
  by_cases hb : 65536 < N
  · rw [if_pos hb]
  · rw [if_neg hb, lex_big _ _ _ (by omega) (by rw [hc]; rfl) (by rw [hc]; decide) (by rw [hc]; rfl) (by rw [hE]; omega)]
    rfl
theorem lex_semi (N : Nat) : ∀ m i, N - i ≤ m → i ≤ N → (lexAt (byteAt (repS 59 N)) N i).1.length = N - i ∧ (lexAt (byteAt (repS 59 N)) N i).2.1 = 0 := by
  intro m
  induction m with
  | zero =>
    intro i hm hi
    rw [lex_done _ _ _ (by omega)]
    exact ⟨by simp; omega, rfl⟩
  | succ m ih =>
    intro i hm hi
    by_cases hlt : i < N
    · have hc := repS_at 59 N i hlt
      have hE : tokE (byteAt (repS 59 N)) N i = i + 1 := by unfold tokE; rw [hc]; rfl
      have := ih (i + 1) (by omega) (by omega)
      rw [lex_tok _ _ _ hlt (by rw [hc]; rfl) (by rw [hc]; decide) (by rw [hc]; decide) (by rw [hc]; rintro ⟨h, -⟩; exact absurd h (by decide)), hE]
      exact ⟨by simp only [List.length_cons]; omega, this.2⟩
    · rw [lex_done _ _ _ (by omega)]
      exact ⟨by simp; omega, rfl⟩
theorem res_semi (N : Nat) (h : N ≤ 65536) : (resR (repS 59 N)).1.length = N ∧ (resR (repS 59 N)).2.1 = 0 := by
  have := lex_semi N _ 0 (Nat.le_refl _) (by omega)
  unfold resR
  rw [repS_size, if_neg (by omega), if_pos this.2]
  exact ⟨by simpa using this.1, this.2⟩
theorem res_semi_big (N : Nat) (h : 65536 < N) : resR (repS 59 N) = ([], 2, 0) := by
  unfold resR; rw [repS_size, if_pos h]
theorem name_a (N : Nat) (h1 : 1 ≤ N) : nameF (repS 97 N) = decide (N ≤ 32) := by
  have hw : wordF (repS 97 N) = false := by
    unfold wordF repS
    rw [ByteArray.toList_eq]
    simp only
    obtain ⟨m, rfl⟩ : ∃ m, N = m + 1 := ⟨N - 1, by omega⟩
    rw [List.replicate_succ]
    rfl
  unfold nameF
  rw [repS_size, repS_at 97 N 0 (by omega), hw, show runEnd nameB (byteAt (repS 97 N)) N 0 = N from runEnd_eq nameB _ _ _ _ (by omega) (Nat.le_refl _) (fun j _ hj => by rw [repS_at 97 N j hj]; rfl) (.inl rfl)]
  simp [show lowB 97 = true from rfl]; omega
/-- A row of N bytes, the first k of which are c. -/
def RowB (g N k : Nat) (c : Nat) (w : World) : Prop := ∃ cs, w.heap[g]? = some (.cells cs 5 (0, 0)) ∧ cs.size = N ∧ ∀ j, j < k → cs[j]? = some (.int .u8 c)
theorem RowB.cell {g N k c : Nat} {w : World} (h : RowB g N k c w) (j : Nat) (hj : j < N) : ∃ v, w.cell? ⟨g, j, none⟩ = some v := by
  obtain ⟨cs, h1, h2, -⟩ := h
  exact ⟨cs[j], by unfold World.cell?; rw [h1]; simp [h2, hj]⟩
theorem RowB.free {g N k c : Nat} {w : World} (h : RowB g N k c w) (o : Nat) : w.frozen? ⟨g, o, none⟩ = false := by
  obtain ⟨cs, h1, -⟩ := h
  unfold World.frozen?; rw [h1]; simp
theorem RowB.set {g N k c : Nat} {w : World} (h : RowB g N k c w) (hk : k < N) : RowB g N (k + 1) c (w.setCell ⟨g, k, none⟩ (.int .u8 c)) := by
  obtain ⟨cs, h1, h2, h3⟩ := h
  refine ⟨_, heap_setCell_same w g k cs _ _ h1, by simp [h2], fun j hj => ?_⟩
  by_cases e : j = k
  · subst e; simp [h2, hk]
  · rw [Array.getElem?_setIfInBounds_ne (by omega)]; exact h3 j (by omega)
theorem RowB.again {g N k c : Nat} (d : Nat) {w : World} (h : RowB g N k c w) : RowB g N 0 d w := by
  obtain ⟨cs, h1, h2, -⟩ := h
  exact ⟨cs, h1, h2, fun j hj => by omega⟩
theorem RowB.keep {g N k c : Nat} {w w' : World} (h : RowB g N k c w) (hb : w'.heap[g]? = w.heap[g]?) : RowB g N k c w' := by
  obtain ⟨cs, h1, h2⟩ := h
  exact ⟨cs, hb.trans h1, h2⟩
theorem RowB.lt {g N k c : Nat} {w : World} (h : RowB g N k c w) : g < w.heap.size := by
  obtain ⟨cs, h1, -⟩ := h
  rcases Nat.lt_or_ge g w.heap.size with h' | h'
  · exact h'
  · rw [Array.getElem?_eq_none h'] at h1; cases h1
theorem RowB.conv {g N : Nat} {b : UInt8} {w : World} (h : RowB g N N b.toNat w) : (convert 39 9 (.slice (some ⟨g, 0, none⟩) N N)).run Try.prog w = .ok (.string (repS b N)) w := by
  obtain ⟨cs, h1, h2, h3⟩ := h
  have hl : (List.replicate N b).length = N := by simp
  have := run_convert_bytes_back w _ _ _ ⟨g, 0, none⟩ N (List.replicate N b) Try.underlying39 Try.underlying5 Try.underlying9 (fun j hj => by
    have hj' : j < N := by simpa using hj
    rw [add_addr, cell_of_row w g j cs _ _ h1, h3 j hj']
    simp)
  rw [hl] at this
  exact this
theorem make_row (w : World) (N : Nat) (hN : N ≤ 65538) : ∃ cs, (Instr.makeSlice 39 (.int .i64 N) (.int .i64 N)).run Try.prog w = .ok (.slice (some ⟨w.heap.size, 0, none⟩) N N) (w.alloc (.cells cs 5)) ∧ cs.size = N := by
  obtain ⟨i0, hi0, hz0, hz1, hz2⟩ := info_parts infoByte
  have := run_makeSlice (P := Try.prog) w 39 5 i0 (.int .u8 0) Try.underlying39 hi0 hz0 .i64 .i64 N N (by omega) (by omega) (by rw [hz1]; simp; omega) (by rw [hz2]; omega) (by omega)
  simp only [Int.toNat_natCast] at this
  exact ⟨_, this, by rw [size_madeCells, hz1]; simp⟩
set_option maxRecDepth 100000 in
set_option maxHeartbeats 4000000 in
theorem limits_small (n : Int) (N : Nat) (w : World) (hm : max 1 (min n 65538) = (N : Int)) (h1 : 1 ≤ N) (h2 : N ≤ 65538) (h3 : N ≤ 32) :
    Calls Try.prog 7 #[.int .i64 n] w fun e w' => e = .returned (.bool true) ∧ Below w.heap.size w w' := by
  have HA : Hid (∀ W, Calls Try.prog 9 #[.string (repS 97 N)] W fun e w' => ∃ a c x0 x1 x2, e = .returned (.tuple #[.slice a 1 c, .int .i64 0, .agg #[.int .i64 x0, .int .i64 x1, .int .i64 x2]]) ∧ Below W.heap.size W w') := fun W => by
    have := all_any (repS 97 N) W (by rw [repS_size]; omega)
    rw [res_a N h1 h3] at this
    refine this.mono fun e w' ⟨v, q1, q2, q3⟩ => ?_
    obtain ⟨a, c, rfl⟩ := own_form q2
    exact ⟨a, c, _, _, _, q1, q3⟩
  have HB : Hid (∀ W, Calls Try.prog 9 #[.string (repS 59 N)] W fun e w' => ∃ a c x0 x1 x2, e = .returned (.tuple #[.slice a N c, .int .i64 0, .agg #[.int .i64 x0, .int .i64 x1, .int .i64 x2]]) ∧ Below W.heap.size W w') := fun W => by
    have := all_any (repS 59 N) W (by rw [repS_size]; omega)
    obtain ⟨g1, g2⟩ := res_semi N (by omega)
    obtain ⟨l, o, hl⟩ : ∃ l o, resR (repS 59 N) = (l, 0, o) := ⟨_, (resR (repS 59 N)).2.2, by rw [← g2]⟩
    rw [hl] at this g1
    refine this.mono fun e w' ⟨v, q1, q2, q3⟩ => ?_
    obtain ⟨a, c, rfl⟩ := own_form q2
    have g3 : l.length = N := g1
    rw [g3] at q1
    exact ⟨a, c, _, _, _, q1, q3⟩
  have hnm := fun W => isName_any (repS 97 N) W (by rw [repS_size]; omega)
  rw [name_a N h1] at hnm
  rw [show decide (N ≤ 32) = true by simpa using h3] at hnm
  have d1 : decide ((32 : Int) < (N : Int)) = false := by simp; omega
  have d2 : decide ((N : Int) ≤ 32) = true := by simp; omega
  have d3 : decide ((65536 : Int) < (N : Int)) = false := by simp; omega
  have d4 : decide ((N : Int) ≤ 65536) = true := by simp; omega
  have HN := Lib.hid hnm; clear hnm
  obtain ⟨cs, hmk, hcs⟩ := make_row w N h2
  have hr0 : RowB w.heap.size N 0 97 (w.alloc (.cells cs 5)) := ⟨cs, heap_alloc_new _ _, hcs, fun j hj => by omega⟩
  have ROW := Lib.hid hr0
  have BEL := Lib.hid ((Below.refl w.heap.size w).alloc (Nat.le_refl _) (.cells cs 5))
  clear hr0 hcs
  go_enter Try.func7, Try.ntmps7
  go_wp2_with fail
  obtain ⟨B, hB0⟩ : ∃ B, w.heap.size = B := ⟨_, rfl⟩
  obtain ⟨G, hG0⟩ : ∃ G, w.heap.size = G := ⟨_, rfl⟩
  have hGB : B ≤ G := by omega
  have HB0 := Lib.hid hB0
  rw [hB0] at BEL
  rw [hG0] at ROW
  simp only [hG0]
  clear hmk hm
  have HG0 := Lib.hid hG0
  clear hB0 hG0
  go_loopg [19] N (fun g x wx => ∃ k, k ≤ N ∧ g = N - k ∧ x = .int .i64 k ∧ RowB G N k 97 wx ∧ Below B w wx)
  case atStart => exact ⟨0, by omega, by omega, rfl, ROW.out, BEL.out⟩
  case round =>
    obtain ⟨k, hk, hg, hx, hR, hB⟩ := hrel
    have HG := Lib.hid hg; clear hg
    subst hx
    by_cases hlt : k < N
    · obtain ⟨cv, hcv⟩ := hR.cell k hlt
      have hfr := hR.free k
      have j0 : (0 : Int) ≤ (k : Int) := by omega
      have j1 : (k : Int) < (N : Int) := by omega
      have HR2 := Lib.hid (hR.set hlt)
      have HB2 := Lib.hid (hB.setCell (p := ⟨G, k, none⟩) hGB (.int .u8 97))
      clear hR hB
      go_wp2_with fail
      go_roundg (N - (k + 1))
      case measure => have := HG.out; omega
      case rel => exact ⟨k + 1, by omega, rfl, by go_num, HR2.out, HB2.out⟩
    · obtain rfl : N = k := by omega
      have hcv := RowB.conv (b := 97) hR
      have HBL := Lib.hid hB; have HRW := Lib.hid hR
      clear hB hR ROW BEL
      go_wp2_with fail
      refine (HA.out _).mono ?_
      rintro e w1 ⟨a1, c1, x0, x1, x2, rfl, q1⟩
      have hal := (Below.refl w1.heap.size w1).alloc (Nat.le_refl _) (.cells #[.int .i64 x0, .int .i64 x1, .int .i64 x2] 26)
      have hz1 : B ≤ wr.heap.size := Nat.le_trans hGB (Nat.le_of_lt HRW.out.lt)
      have R1 := HRW.out.keep ((hal.block G (Nat.lt_of_lt_of_le HRW.out.lt q1.size)).trans (q1.block G HRW.out.lt))
      have B1 := Lib.hid (HBL.out.trans ((q1.trans (hal.mono q1.size)).mono hz1))
      have hcv2 := RowB.conv (b := 97) R1
      have HR1 := Lib.hid R1
      clear R1 hal q1 hcv HBL HRW
      go_wp2_with fail
      generalize w1.alloc (.cells #[.int .i64 x0, .int .i64 x1, .int .i64 x2] 26) = W1 at *
      refine (HN.out _).mono ?_
      rintro e w2 ⟨rfl, rfl⟩
      clear hcv2
      have ROW : Hid (RowB G N 0 59 W1) := HR1.out.again 59
      have BEL := B1
      clear HR1 B1
      go_wp2_with fail
      go_loopg [62] N (fun g x wx => ∃ k, k ≤ N ∧ g = N - k ∧ x = .int .i64 k ∧ RowB G N k 59 wx ∧ Below B w wx)
      case atStart => exact ⟨0, by omega, by omega, rfl, ROW.out, BEL.out⟩
      case round =>
        obtain ⟨k, hk, hg, hx, hR, hB⟩ := hrel
        have HG := Lib.hid hg; clear hg
        subst hx
        by_cases hlt : k < N
        · obtain ⟨cv, hcv⟩ := hR.cell k hlt
          have hfr := hR.free k
          have j0 : (0 : Int) ≤ (k : Int) := by omega
          have j1 : (k : Int) < (N : Int) := by omega
          have HR2 := Lib.hid (hR.set hlt)
          have HB2 := Lib.hid (hB.setCell (p := ⟨G, k, none⟩) hGB (.int .u8 59))
          clear hR hB
          go_wp2_with fail
          go_roundg (N - (k + 1))
          case measure => have := HG.out; omega
          case rel => exact ⟨k + 1, by omega, rfl, by go_num, HR2.out, HB2.out⟩
        · obtain rfl : N = k := by omega
          have hcv := RowB.conv (b := 59) hR
          have HBL := Lib.hid hB; have HRW := Lib.hid hR
          clear hB hR ROW BEL
          go_wp2_with (first | (go_at_call 9; (with_reducible refine (HB.out _).mono ?_); rintro e w3 ⟨a3, c3, z0, z1, z2, rfl, q3⟩) | (go_at_call 13; (with_reducible refine (lives_any _).mono ?_); rintro e w9 ⟨rfl, h9⟩))
          go_ret
          have hz3 : B ≤ wr.heap.size := Nat.le_trans hGB (Nat.le_of_lt HRW.out.lt)
          have hal := (Below.refl w3.heap.size w3).alloc (Nat.le_refl _) (.cells #[.int .i64 z0, .int .i64 z1, .int .i64 z2] 26)
          refine ⟨rfl, ?_⟩
          rw [HB0.out]
          exact HBL.out.trans (((q3.trans (hal.mono q3.size)).trans (h9.mono (Nat.le_trans q3.size hal.size))).mono hz3)
set_option maxRecDepth 100000 in
set_option maxHeartbeats 4000000 in
theorem limits_mid (n : Int) (N : Nat) (w : World) (hm : max 1 (min n 65538) = (N : Int)) (h1 : 1 ≤ N) (h2 : N ≤ 65538) (h3 : 32 < N) (h4 : N ≤ 65536) :
    Calls Try.prog 7 #[.int .i64 n] w fun e w' => e = .returned (.bool true) ∧ Below w.heap.size w w' := by
  have HA : Hid (∀ W, Calls Try.prog 9 #[.string (repS 97 N)] W fun e w' => ∃ a c x0 x1 x2, e = .returned (.tuple #[.slice a 0 c, .int .i64 2, .agg #[.int .i64 x0, .int .i64 x1, .int .i64 x2]]) ∧ Below W.heap.size W w') := fun W => by
    have := all_any (repS 97 N) W (by rw [repS_size]; omega)
    rw [res_a_big N h3] at this
    refine this.mono fun e w' ⟨v, q1, q2, q3⟩ => ?_
    obtain ⟨a, c, rfl⟩ := own_form q2
    exact ⟨a, c, _, _, _, q1, q3⟩
  have HB : Hid (∀ W, Calls Try.prog 9 #[.string (repS 59 N)] W fun e w' => ∃ a c x0 x1 x2, e = .returned (.tuple #[.slice a N c, .int .i64 0, .agg #[.int .i64 x0, .int .i64 x1, .int .i64 x2]]) ∧ Below W.heap.size W w') := fun W => by
    have := all_any (repS 59 N) W (by rw [repS_size]; omega)
    obtain ⟨g1, g2⟩ := res_semi N (by omega)
    obtain ⟨l, o, hl⟩ : ∃ l o, resR (repS 59 N) = (l, 0, o) := ⟨_, (resR (repS 59 N)).2.2, by rw [← g2]⟩
    rw [hl] at this g1
    refine this.mono fun e w' ⟨v, q1, q2, q3⟩ => ?_
    obtain ⟨a, c, rfl⟩ := own_form q2
    have g3 : l.length = N := g1
    rw [g3] at q1
    exact ⟨a, c, _, _, _, q1, q3⟩
  have hnm := fun W => isName_any (repS 97 N) W (by rw [repS_size]; omega)
  rw [name_a N h1] at hnm
  rw [show decide (N ≤ 32) = false by simpa using h3] at hnm
  have d1 : decide ((32 : Int) < (N : Int)) = true := by simp; omega
  have d2 : decide ((N : Int) ≤ 32) = false := by simp; omega
  have d3 : decide ((65536 : Int) < (N : Int)) = false := by simp; omega
  have d4 : decide ((N : Int) ≤ 65536) = true := by simp; omega
  have HN := Lib.hid hnm; clear hnm
  obtain ⟨cs, hmk, hcs⟩ := make_row w N h2
  have hr0 : RowB w.heap.size N 0 97 (w.alloc (.cells cs 5)) := ⟨cs, heap_alloc_new _ _, hcs, fun j hj => by omega⟩
  have ROW := Lib.hid hr0
  have BEL := Lib.hid ((Below.refl w.heap.size w).alloc (Nat.le_refl _) (.cells cs 5))
  clear hr0 hcs
  go_enter Try.func7, Try.ntmps7
  go_wp2_with fail
  obtain ⟨B, hB0⟩ : ∃ B, w.heap.size = B := ⟨_, rfl⟩
  obtain ⟨G, hG0⟩ : ∃ G, w.heap.size = G := ⟨_, rfl⟩
  have hGB : B ≤ G := by omega
  have HB0 := Lib.hid hB0
  rw [hB0] at BEL
  rw [hG0] at ROW
  simp only [hG0]
  clear hmk hm
  have HG0 := Lib.hid hG0
  clear hB0 hG0
  go_loopg [19] N (fun g x wx => ∃ k, k ≤ N ∧ g = N - k ∧ x = .int .i64 k ∧ RowB G N k 97 wx ∧ Below B w wx)
  case atStart => exact ⟨0, by omega, by omega, rfl, ROW.out, BEL.out⟩
  case round =>
    obtain ⟨k, hk, hg, hx, hR, hB⟩ := hrel
    have HG := Lib.hid hg; clear hg
    subst hx
    by_cases hlt : k < N
    · obtain ⟨cv, hcv⟩ := hR.cell k hlt
      have hfr := hR.free k
      have j0 : (0 : Int) ≤ (k : Int) := by omega
      have j1 : (k : Int) < (N : Int) := by omega
      have HR2 := Lib.hid (hR.set hlt)
      have HB2 := Lib.hid (hB.setCell (p := ⟨G, k, none⟩) hGB (.int .u8 97))
      clear hR hB
      go_wp2_with fail
      go_roundg (N - (k + 1))
      case measure => have := HG.out; omega
      case rel => exact ⟨k + 1, by omega, rfl, by go_num, HR2.out, HB2.out⟩
    · obtain rfl : N = k := by omega
      have hcv := RowB.conv (b := 97) hR
      have HBL := Lib.hid hB; have HRW := Lib.hid hR
      clear hB hR ROW BEL
      go_wp2_with fail
      refine (HA.out _).mono ?_
      rintro e w1 ⟨a1, c1, x0, x1, x2, rfl, q1⟩
      have hal := (Below.refl w1.heap.size w1).alloc (Nat.le_refl _) (.cells #[.int .i64 x0, .int .i64 x1, .int .i64 x2] 26)
      have hz1 : B ≤ wr.heap.size := Nat.le_trans hGB (Nat.le_of_lt HRW.out.lt)
      have R1 := HRW.out.keep ((hal.block G (Nat.lt_of_lt_of_le HRW.out.lt q1.size)).trans (q1.block G HRW.out.lt))
      have B1 := Lib.hid (HBL.out.trans ((q1.trans (hal.mono q1.size)).mono hz1))
      have hcv2 := RowB.conv (b := 97) R1
      have HR1 := Lib.hid R1
      clear R1 hal q1 hcv HBL HRW
      go_wp2_with fail
      generalize w1.alloc (.cells #[.int .i64 x0, .int .i64 x1, .int .i64 x2] 26) = W1 at *
      refine (HN.out _).mono ?_
      rintro e w2 ⟨rfl, rfl⟩
      clear hcv2
      have ROW : Hid (RowB G N 0 59 W1) := HR1.out.again 59
      have BEL := B1
      clear HR1 B1
      go_wp2_with fail
      go_loopg [62] N (fun g x wx => ∃ k, k ≤ N ∧ g = N - k ∧ x = .int .i64 k ∧ RowB G N k 59 wx ∧ Below B w wx)
      case atStart => exact ⟨0, by omega, by omega, rfl, ROW.out, BEL.out⟩
      case round =>
        obtain ⟨k, hk, hg, hx, hR, hB⟩ := hrel
        have HG := Lib.hid hg; clear hg
        subst hx
        by_cases hlt : k < N
        · obtain ⟨cv, hcv⟩ := hR.cell k hlt
          have hfr := hR.free k
          have j0 : (0 : Int) ≤ (k : Int) := by omega
          have j1 : (k : Int) < (N : Int) := by omega
          have HR2 := Lib.hid (hR.set hlt)
          have HB2 := Lib.hid (hB.setCell (p := ⟨G, k, none⟩) hGB (.int .u8 59))
          clear hR hB
          go_wp2_with fail
          go_roundg (N - (k + 1))
          case measure => have := HG.out; omega
          case rel => exact ⟨k + 1, by omega, rfl, by go_num, HR2.out, HB2.out⟩
        · obtain rfl : N = k := by omega
          have hcv := RowB.conv (b := 59) hR
          have HBL := Lib.hid hB; have HRW := Lib.hid hR
          clear hB hR ROW BEL
          go_wp2_with (first | (go_at_call 9; (with_reducible refine (HB.out _).mono ?_); rintro e w3 ⟨a3, c3, z0, z1, z2, rfl, q3⟩) | (go_at_call 13; (with_reducible refine (lives_any _).mono ?_); rintro e w9 ⟨rfl, h9⟩))
          go_ret
          have hz3 : B ≤ wr.heap.size := Nat.le_trans hGB (Nat.le_of_lt HRW.out.lt)
          have hal := (Below.refl w3.heap.size w3).alloc (Nat.le_refl _) (.cells #[.int .i64 z0, .int .i64 z1, .int .i64 z2] 26)
          refine ⟨rfl, ?_⟩
          rw [HB0.out]
          exact HBL.out.trans (((q3.trans (hal.mono q3.size)).trans (h9.mono (Nat.le_trans q3.size hal.size))).mono hz3)
set_option maxRecDepth 100000 in
set_option maxHeartbeats 4000000 in
theorem limits_big (n : Int) (N : Nat) (w : World) (hm : max 1 (min n 65538) = (N : Int)) (h1 : 1 ≤ N) (h2 : N ≤ 65538) (h3 : 65536 < N) :
    Calls Try.prog 7 #[.int .i64 n] w fun e w' => e = .returned (.bool true) ∧ Below w.heap.size w w' := by
  have HA : Hid (∀ W, Calls Try.prog 9 #[.string (repS 97 N)] W fun e w' => ∃ a c x0 x1 x2, e = .returned (.tuple #[.slice a 0 c, .int .i64 2, .agg #[.int .i64 x0, .int .i64 x1, .int .i64 x2]]) ∧ Below W.heap.size W w') := fun W => by
    have := all_any (repS 97 N) W (by rw [repS_size]; omega)
    rw [res_a_big N (by omega)] at this
    refine this.mono fun e w' ⟨v, q1, q2, q3⟩ => ?_
    obtain ⟨a, c, rfl⟩ := own_form q2
    exact ⟨a, c, _, _, _, q1, q3⟩
  have HB : Hid (∀ W, Calls Try.prog 9 #[.string (repS 59 N)] W fun e w' => ∃ a c x0 x1 x2, e = .returned (.tuple #[.slice a 0 c, .int .i64 2, .agg #[.int .i64 x0, .int .i64 x1, .int .i64 x2]]) ∧ Below W.heap.size W w') := fun W => by
    have := all_any (repS 59 N) W (by rw [repS_size]; omega)
    rw [res_semi_big N (by omega)] at this
    refine this.mono fun e w' ⟨v, q1, q2, q3⟩ => ?_
    obtain ⟨a, c, rfl⟩ := own_form q2
    exact ⟨a, c, _, _, _, q1, q3⟩
  have hnm := fun W => isName_any (repS 97 N) W (by rw [repS_size]; omega)
  rw [name_a N h1] at hnm
  rw [show decide (N ≤ 32) = false by simp; omega] at hnm
  have d1 : decide ((32 : Int) < (N : Int)) = true := by simp; omega
  have d2 : decide ((N : Int) ≤ 32) = false := by simp; omega
  have d3 : decide ((65536 : Int) < (N : Int)) = true := by simp; omega
  have d4 : decide ((N : Int) ≤ 65536) = false := by simp; omega
  have HN := Lib.hid hnm; clear hnm
  obtain ⟨cs, hmk, hcs⟩ := make_row w N h2
  have hr0 : RowB w.heap.size N 0 97 (w.alloc (.cells cs 5)) := ⟨cs, heap_alloc_new _ _, hcs, fun j hj => by omega⟩
  have ROW := Lib.hid hr0
  have BEL := Lib.hid ((Below.refl w.heap.size w).alloc (Nat.le_refl _) (.cells cs 5))
  clear hr0 hcs
  go_enter Try.func7, Try.ntmps7
  go_wp2_with fail
  obtain ⟨B, hB0⟩ : ∃ B, w.heap.size = B := ⟨_, rfl⟩
  obtain ⟨G, hG0⟩ : ∃ G, w.heap.size = G := ⟨_, rfl⟩
  have hGB : B ≤ G := by omega
  have HB0 := Lib.hid hB0
  rw [hB0] at BEL
  rw [hG0] at ROW
  simp only [hG0]
  clear hmk hm
  have HG0 := Lib.hid hG0
  clear hB0 hG0
  go_loopg [19] N (fun g x wx => ∃ k, k ≤ N ∧ g = N - k ∧ x = .int .i64 k ∧ RowB G N k 97 wx ∧ Below B w wx)
  case atStart => exact ⟨0, by omega, by omega, rfl, ROW.out, BEL.out⟩
  case round =>
    obtain ⟨k, hk, hg, hx, hR, hB⟩ := hrel
    have HG := Lib.hid hg; clear hg
    subst hx
    by_cases hlt : k < N
    · obtain ⟨cv, hcv⟩ := hR.cell k hlt
      have hfr := hR.free k
      have j0 : (0 : Int) ≤ (k : Int) := by omega
      have j1 : (k : Int) < (N : Int) := by omega
      have HR2 := Lib.hid (hR.set hlt)
      have HB2 := Lib.hid (hB.setCell (p := ⟨G, k, none⟩) hGB (.int .u8 97))
      clear hR hB
      go_wp2_with fail
      go_roundg (N - (k + 1))
      case measure => have := HG.out; omega
      case rel => exact ⟨k + 1, by omega, rfl, by go_num, HR2.out, HB2.out⟩
    · obtain rfl : N = k := by omega
      have hcv := RowB.conv (b := 97) hR
      have HBL := Lib.hid hB; have HRW := Lib.hid hR
      clear hB hR ROW BEL
      go_wp2_with fail
      refine (HA.out _).mono ?_
      rintro e w1 ⟨a1, c1, x0, x1, x2, rfl, q1⟩
      have hal := (Below.refl w1.heap.size w1).alloc (Nat.le_refl _) (.cells #[.int .i64 x0, .int .i64 x1, .int .i64 x2] 26)
      have hz1 : B ≤ wr.heap.size := Nat.le_trans hGB (Nat.le_of_lt HRW.out.lt)
      have R1 := HRW.out.keep ((hal.block G (Nat.lt_of_lt_of_le HRW.out.lt q1.size)).trans (q1.block G HRW.out.lt))
      have B1 := Lib.hid (HBL.out.trans ((q1.trans (hal.mono q1.size)).mono hz1))
      have hcv2 := RowB.conv (b := 97) R1
      have HR1 := Lib.hid R1
      clear R1 hal q1 hcv HBL HRW
      go_wp2_with fail
      generalize w1.alloc (.cells #[.int .i64 x0, .int .i64 x1, .int .i64 x2] 26) = W1 at *
      refine (HN.out _).mono ?_
      rintro e w2 ⟨rfl, rfl⟩
      clear hcv2
      have ROW : Hid (RowB G N 0 59 W1) := HR1.out.again 59
      have BEL := B1
      clear HR1 B1
      go_wp2_with fail
      go_loopg [62] N (fun g x wx => ∃ k, k ≤ N ∧ g = N - k ∧ x = .int .i64 k ∧ RowB G N k 59 wx ∧ Below B w wx)
      case atStart => exact ⟨0, by omega, by omega, rfl, ROW.out, BEL.out⟩
      case round =>
        obtain ⟨k, hk, hg, hx, hR, hB⟩ := hrel
        have HG := Lib.hid hg; clear hg
        subst hx
        by_cases hlt : k < N
        · obtain ⟨cv, hcv⟩ := hR.cell k hlt
          have hfr := hR.free k
          have j0 : (0 : Int) ≤ (k : Int) := by omega
          have j1 : (k : Int) < (N : Int) := by omega
          have HR2 := Lib.hid (hR.set hlt)
          have HB2 := Lib.hid (hB.setCell (p := ⟨G, k, none⟩) hGB (.int .u8 59))
          clear hR hB
          go_wp2_with fail
          go_roundg (N - (k + 1))
          case measure => have := HG.out; omega
          case rel => exact ⟨k + 1, by omega, rfl, by go_num, HR2.out, HB2.out⟩
        · obtain rfl : N = k := by omega
          have hcv := RowB.conv (b := 59) hR
          have HBL := Lib.hid hB; have HRW := Lib.hid hR
          clear hB hR ROW BEL
          go_wp2_with (first | (go_at_call 9; (with_reducible refine (HB.out _).mono ?_); rintro e w3 ⟨a3, c3, z0, z1, z2, rfl, q3⟩) | (go_at_call 13; (with_reducible refine (lives_any _).mono ?_); rintro e w9 ⟨rfl, h9⟩))
          go_ret
          have hz3 : B ≤ wr.heap.size := Nat.le_trans hGB (Nat.le_of_lt HRW.out.lt)
          have hal := (Below.refl w3.heap.size w3).alloc (Nat.le_refl _) (.cells #[.int .i64 z0, .int .i64 z1, .int .i64 z2] 26)
          refine ⟨rfl, ?_⟩
          rw [HB0.out]
          exact HBL.out.trans (((q3.trans (hal.mono q3.size)).trans (h9.mono (Nat.le_trans q3.size hal.size))).mono hz3)
theorem limits_any (n : Int) (w : World) :
    Calls Try.prog 7 #[.int .i64 n] w fun e w' => e = .returned (.bool true) ∧ Below w.heap.size w w' := by
  obtain ⟨N, hN⟩ := Int.eq_ofNat_of_zero_le (show 0 ≤ max 1 (min n 65538) by omega)
  by_cases h1 : N ≤ 32
  · exact limits_small n N w hN (by omega) (by omega) h1
  · by_cases h2 : N ≤ 65536
    · exact limits_mid n N w hN (by omega) (by omega) (by omega) h2
    · exact limits_big n N w hN (by omega) (by omega) (by omega)
end Go.Proofs.Ytaghoicmfpndbaa
