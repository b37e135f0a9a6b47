/- The walk of DescAll: the law answers true at every text. -/
import Derived.Test.YtaghoicmfpndbaaSa
namespace Go.Proofs.Ytaghoicmfpndbaa
open Go.RowKit

theorem own_below {w w' : World} {B n : Nat} {v : Value} {xs : List Value} (h : w.ownsRow B 33 5 v n xs) (hb : Below w.heap.size w w') : w'.ownsRow B 33 5 v n xs :=
  h.kept (row := none) ⟨hb.os, hb.tape, hb.output, hb.size, fun j hj _ => hb.block j hj⟩ (by cases v.ownBlock <;> simp)
theorem Pl.below {g : Nat} {x0 x1 x2 : Value} {w w' : World} (h : Pl g x0 x1 x2 w) (hb : Below w.heap.size w w') : Pl g x0 x1 x2 w' := h.keep (hb.block g h.lt)
theorem lexF_off (c : Nat → Nat) (len : Nat) : ∀ f i, (lexF c len f i).2.1 ≠ 0 → (lexF c len f i).2.2 < len := by
  intro f
  induction f with
  | zero => intro i h; simp [lexF] at h
  | succ f ih =>
    intro i
    rw [lexF]
    by_cases h0 : len ≤ i
    · rw [if_pos h0]; intro h; exact absurd rfl h
    rw [if_neg h0]
    by_cases hb : blankB (c i) = true
    · rw [if_pos hb]; exact ih _
    rw [if_neg hb]
    by_cases hn : c i = 35
    · rw [if_pos hn]; exact ih _
    rw [if_neg hn]
    by_cases hk : tokK (c i) = 0
    · rw [if_pos hk]; intro _; show i < len; omega
    rw [if_neg hk]
    by_cases he : tokK (c i) = 1 ∧ 32 < tokE c len i - i
    · rw [if_pos he]; intro _; show i < len; omega
    rw [if_neg he]; exact ih _
theorem lexF_len (c : Nat → Nat) (len : Nat) : ∀ f i, i ≤ len → (lexF c len f i).1.length ≤ len - i := by
  intro f
  induction f with
  | zero => intro i _; simp [lexF]
  | succ f ih =>
    intro i hi
    rw [lexF]
    by_cases h0 : len ≤ i
    · rw [if_pos h0]; simp
    rw [if_neg h0]
    by_cases hb : blankB (c i) = true
    · rw [if_pos hb]; have := ih (i + 1) (by omega); omega
    rw [if_neg hb]
    by_cases hn : c i = 35
    · rw [if_pos hn]
      have h1 := note_gt c len i (by omega) hn
      have h2 := (runEnd_spec noteB c len i (by omega)).2.1
      have := ih _ h2; omega
    rw [if_neg hn]
    by_cases hk : tokK (c i) = 0
    · rw [if_pos hk]; simp
    rw [if_neg hk]
    by_cases he : tokK (c i) = 1 ∧ 32 < tokE c len i - i
    · rw [if_pos he]; simp
    rw [if_neg he]
    have h1 := tokE_gt c len i (by omega)
    have := ih _ h1.2
    simp only [List.length_cons]; omega
theorem resR_len (s : ByteArray) : (resR s).1.length ≤ s.size := by
  unfold resR
  split
  · simp
  · split
    · have := lexF_len (byteAt s) s.size (s.size + 1) 0 (by omega); simpa [lexAt] using this
    · simp
theorem resR_err (s : ByteArray) (h : (resR s).2.1 ≠ 0) : (resR s).1 = [] ∧ (resR s).2.2 ≤ s.size := by
  unfold resR at h ⊢
  split
  · simp
  · rename_i hb
    rw [if_neg hb] at h
    split
    · rename_i h0; rw [if_pos h0] at h; exact absurd h0 h
    · rename_i h0
      have := lexF_off (byteAt s) s.size (s.size + 1) 0 h0
      exact ⟨rfl, Nat.le_of_lt this⟩
set_option maxHeartbeats 2000000 in
theorem descAll_in (s : ByteArray) (w : World) :
    Calls Try.prog 3 #[.string s] w fun e w' => e = .returned (.bool true) ∧ Below w.heap.size w w' := by
  have hc := cut_any s
  have hz := cutS_size s
  generalize cutS s = t at *
  have HC := Lib.hid hc; clear hc
  have ht : t.size ≤ 100000 := by omega
  have HA := Lib.hid (fun w => all_any t w ht)
  have HB := Lib.hid (fun w => refAll_any t w)
  have hl := resR_len t
  by_cases her : (resR t).2.1 = 0
  · obtain ⟨l, o, hR⟩ : ∃ l o, resR t = (l, 0, o) := ⟨_, (resR t).2.2, by rw [← her]⟩
    rw [hR] at hl
    have hpl : plV t (l, 0, o) = .agg #[.int .i64 0, .int .i64 0, .int .i64 0] := rfl
    have HA1 : Hid (∀ w, Calls Try.prog 9 #[.string t] w fun e w' => ∃ v, e = .returned (.tuple #[v, .int .i64 0, .agg #[.int .i64 0, .int .i64 0, .int .i64 0]]) ∧ w'.ownsRow w.heap.size 33 5 v l.length (toksC t l) ∧ Below w.heap.size w w') := fun w => by
      have := HA.out w; rw [hR] at this; exact this
    have HB1 : Hid (∀ w, Calls Try.prog 10 #[.string t] w fun e w' => ∃ v, e = .returned (.tuple #[v, .int .i64 0, .int .i64 o]) ∧ w'.ownsRow w.heap.size 33 5 v l.length (toksC t l) ∧ Below w.heap.size w w') := fun w => by
      have := HB.out w; rw [hR] at this; exact this
    have hl2 : l.length ≤ 2000 := by simp at hl; omega
    clear HA HB her hR hpl hl
    go_enter Try.func3, Try.ntmps3
    go_wp2_with (go_at_call 8; (with_reducible refine (HC.out _).mono ?_); rintro e wq ⟨rfl, rfl⟩)
    refine (HA1.out _).mono ?_
    rintro e w1 ⟨v1, rfl, o1, h1⟩
    have O1 := Lib.hid (o1.alloc (.cells #[.int .i64 0, .int .i64 0, .int .i64 0] 26))
    have P1 := Lib.hid (pl_new w1 (.int .i64 0) (.int .i64 0) (.int .i64 0))
    have B1 := Lib.hid (h1.alloc h1.size (.cells #[.int .i64 0, .int .i64 0, .int .i64 0] 26))
    clear o1 h1
    go_wp2_with fail
    generalize w1.alloc (.cells #[.int .i64 0, .int .i64 0, .int .i64 0] 26) = W1 at *
    refine (HB1.out _).mono ?_
    rintro e w2 ⟨v2, rfl, o2, h2⟩
    have O21 := Lib.hid (own_below O1.out h2)
    have O22 := Lib.hid o2
    have P2 := Lib.hid (P1.out.below h2)
    have B2 := Lib.hid (B1.out.trans (h2.mono B1.out.size))
    clear O1 P1 B1 o2 h2
    go_wp2_with fail
    refine (same_own _ _ _ _ _ _ _ _ _ O21.out O22.out (by omega) rfl).mono ?_
    rintro e w3 ⟨rfl, h3⟩
    have O31 := Lib.hid (own_below O21.out h3)
    have O32 := Lib.hid (own_below O22.out h3)
    have P3 := Lib.hid (P2.out.below h3)
    have B3 := Lib.hid (B2.out.trans (h3.mono B2.out.size))
    clear O21 O22 P2 B2 h3
    by_cases hl0 : l = []
    · subst hl0
      obtain ⟨a1, c1, rfl⟩ := own_form O31.out
      obtain ⟨a2, c2, rfl⟩ := own_form O32.out
      clear O31 O32
      go_wp2_with fail
      go_loopg [36] 0 (fun _ x wx => x = .int .i64 0 ∧ w3 = wx)
      case atStart => exact ⟨rfl, rfl⟩
      case round =>
        obtain ⟨hx, rfl⟩ := hrel
        subst hx
        have P4 := P3.out.below ((Below.refl w3.heap.size w3).alloc (Nat.le_refl _) (.cells #[.int .i64 0, .int .i64 0, .int .i64 0] 26))
        obtain ⟨x0, x1, x2, xf⟩ := P4.cells
        have B4 := Lib.hid ((B3.out.trans (show Below _ w3 w3 from ⟨rfl, rfl, rfl, Nat.le_refl _, fun _ _ => rfl⟩)).alloc B3.out.size (.cells #[.int .i64 0, .int .i64 0, .int .i64 0] 26))
        clear xf P4
        go_wp2_with (first | (go_at_call 13; (with_reducible refine (lives_any _).mono ?_); rintro e w9 ⟨rfl, h9⟩))
        go_ret
        exact ⟨rfl, B4.out.trans (h9.mono B4.out.size)⟩
    · obtain ⟨g1, c1, rfl, -, z1, hc1, k1⟩ := row_get O31.out hl0
      obtain ⟨g2, c2, rfl, -, z2, hc2, k2⟩ := row_get O32.out hl0
      have K1 := Lib.hid k1; have K2 := Lib.hid k2
      have hpos : 0 < l.length := List.length_pos_iff.2 hl0
      clear O31 O32 k1 k2 hl0
      go_wp2_with fail
      go_loopg [36] l.length (fun g x wx => ∃ k, k ≤ l.length ∧ g = l.length - k ∧ x = .int .i64 k ∧ Below w3.heap.size w3 wx)
      case atStart => exact ⟨0, by omega, by omega, rfl, Below.refl _ _⟩
      case round =>
        obtain ⟨k, hk, hg, hx, hb⟩ := hrel
        have HG := Lib.hid hg; clear hg
        subst hx
        by_cases hlt : k < l.length
        · obtain ⟨-, -, a2, a3, a4⟩ := K1.out k hlt
          obtain ⟨-, -, b2, b3, b4⟩ := K2.out k hlt
          rw [← hb.cell (p := ⟨g1, _, none⟩) z1] at a2 a3 a4
          rw [← hb.cell (p := ⟨g2, _, none⟩) z2] at b2 b3 b4
          have j0 : (0 : Int) ≤ (k : Int) := by omega
          have j1 : (k : Int) < (l.length : Int) := by omega
          go_wp2_with fail
          go_quiet (fail)
          go_wp2_with fail
          go_roundg (l.length - (k + 1))
          case measure => have := HG.out; omega
          case rel => exact ⟨k + 1, by omega, rfl, by go_num, hb.trans ⟨rfl, rfl, rfl, Nat.le_refl _, fun _ _ => rfl⟩⟩
        · obtain rfl : k = l.length := by omega
          have P4 := (P3.out.below hb).below ((Below.refl wr.heap.size wr).alloc (Nat.le_refl _) (.cells #[.int .i64 0, .int .i64 0, .int .i64 0] 26))
          obtain ⟨x0, x1, x2, xf⟩ := P4.cells
          have B4 := Lib.hid ((B3.out.trans (hb.mono B3.out.size)).alloc (Nat.le_trans B3.out.size hb.size) (.cells #[.int .i64 0, .int .i64 0, .int .i64 0] 26))
          clear xf P4
          go_wp2_with (first | (go_at_call 13; (with_reducible refine (lives_any _).mono ?_); rintro e w9 ⟨rfl, h9⟩))
          go_ret
          exact ⟨rfl, B4.out.trans (h9.mono B4.out.size)⟩
  · obtain ⟨he, ho⟩ := resR_err t her
    obtain ⟨er, o, hR⟩ : ∃ er o, resR t = ([], er, o) := ⟨_, _, by rw [← he]⟩
    rw [hR] at her ho
    have her' : er ≠ 0 := her
    have ho' : o ≤ t.size := ho
    have hpl : plV t ([], er, o) = .agg #[.int .i64 o, .int .i64 (lineA (byteAt t) o), .int .i64 (colA (byteAt t) o)] := by
      unfold plV; rw [if_neg her]; rfl
    have HA1 : Hid (∀ w, Calls Try.prog 9 #[.string t] w fun e w' => ∃ a c, e = .returned (.tuple #[.slice a 0 c, .int .i64 er, .agg #[.int .i64 o, .int .i64 (lineA (byteAt t) o), .int .i64 (colA (byteAt t) o)]]) ∧ Below w.heap.size w w') := fun w => by
      have := HA.out w; rw [hR] at this
      refine this.mono fun e w' ⟨v, h1, h2, h3⟩ => ?_
      obtain ⟨a, c, rfl⟩ := own_form h2
      rw [hpl] at h1
      exact ⟨a, c, h1, h3⟩
    have HB1 : Hid (∀ w, Calls Try.prog 10 #[.string t] w fun e w' => ∃ a c, e = .returned (.tuple #[.slice a 0 c, .int .i64 er, .int .i64 o]) ∧ Below w.heap.size w w') := fun w => by
      have := HB.out w; rw [hR] at this
      refine this.mono fun e w' ⟨v, h1, h2, h3⟩ => ?_
      obtain ⟨a, c, rfl⟩ := own_form h2
      exact ⟨a, c, h1, h3⟩
    have HT : Hid (∀ w, Calls Try.prog 12 #[.string t, .int .i64 o] w fun e w' => e = .returned (.agg #[.int .i64 o, .int .i64 (lineA (byteAt t) o), .int .i64 (colA (byteAt t) o)]) ∧ Below w.heap.size w w') := fun w => by
      have := refAt_any t o w ht
      rw [show clampN (o : Int) t.size = o by unfold clampN; omega] at this
      exact this
    have tn : ((er : Int) != 0) = true := by simp; omega
    have te : ((er : Int) != (er : Int)) = false := by simp
    clear HA HB her hR hpl hl he ho her' ho'
    generalize lineA (byteAt t) o = li at *
    generalize colA (byteAt t) o = co at *
    go_enter Try.func3, Try.ntmps3
    go_wp2_with (go_at_call 8; (with_reducible refine (HC.out _).mono ?_); rintro e wq ⟨rfl, rfl⟩)
    refine (HA1.out _).mono ?_
    rintro e w1 ⟨a1, c1, rfl, h1⟩
    have P1 := Lib.hid (pl_new w1 (.int .i64 o) (.int .i64 li) (.int .i64 co))
    have B1 := Lib.hid (h1.alloc h1.size (.cells #[.int .i64 o, .int .i64 li, .int .i64 co] 26))
    clear h1
    go_wp2_with fail
    generalize w1.alloc (.cells #[.int .i64 o, .int .i64 li, .int .i64 co] 26) = W1 at *
    refine (HB1.out _).mono ?_
    rintro e w2 ⟨a2, c2, rfl, h2⟩
    have P2 := Lib.hid (P1.out.below h2)
    have B2 := Lib.hid (B1.out.trans (h2.mono B1.out.size))
    clear P1 B1 h2
    go_wp2_with fail
    refine (same_zero _ _ _ _ _).mono ?_
    rintro e w3 ⟨rfl, h3⟩
    have P3 := Lib.hid (P2.out.below h3)
    have B3 := Lib.hid (B2.out.trans (h3.mono B2.out.size))
    clear P2 B2 h3
    go_wp2_with fail
    go_loopg [36] 0 (fun _ x wx => x = .int .i64 0 ∧ w3 = wx)
    case atStart => exact ⟨rfl, rfl⟩
    case round =>
      obtain ⟨hx, rfl⟩ := hrel
      subst hx
      go_wp2_with fail
      refine (HT.out _).mono ?_
      rintro e w4 ⟨rfl, h4⟩
      have P4 := (P3.out.below ((Below.refl w3.heap.size w3).alloc (Nat.le_refl _) (.cells #[.int .i64 0, .int .i64 0, .int .i64 0] 26))).below h4
      have Q4 := (pl_new w3 (.int .i64 0) (.int .i64 0) (.int .i64 0)).below h4
      obtain ⟨x0, x1, x2, -⟩ := P4.cells
      obtain ⟨y0, y1, y2, yf⟩ := Q4.cells
      have f0 := yf 0; have f1 := yf 1; have f2 := yf 2
      have B4 := Lib.hid (((B3.out.alloc B3.out.size (.cells #[.int .i64 0, .int .i64 0, .int .i64 0] 26)).trans (h4.mono (by have := B3.out.size; simp; omega))))
      have zq := P3.out.lt
      have z3 := B3.out.size
      clear P4 Q4 yf h4
      go_wp2_with (first | (go_at_call 13; (with_reducible refine (lives_any _).mono ?_); rintro e w9 ⟨rfl, h9⟩))
      go_ret
      have B5 := ((B4.out.setCell (p := ⟨w3.heap.size, 0, none⟩) z3 (.int .i64 o)).setCell (p := ⟨w3.heap.size, 1, none⟩) z3 (.int .i64 li)).setCell (p := ⟨w3.heap.size, 2, none⟩) z3 (.int .i64 co)
      exact ⟨rfl, B5.trans (h9.mono B5.size)⟩
end Go.Proofs.Ytaghoicmfpndbaa
