/- The walk of DescRises: the law answers true at every text. -/
import Derived.Test.YtaghoicmfpndbaaGa
import Derived.Deep.RegionHeld3
import Derived.IntWalk
namespace Go.Proofs.Ytaghoicmfpndbaa
open Go.RowKit

/-- The document's All of what stands between two places of a good text. -/
theorem gap_call (s : ByteArray) (a b : Nat) (hb : b ≤ s.size) (hs : s.size ≤ 65536) (h : Gap (byteAt s) a b) (w : World) :
    Calls Try.prog 10 #[.string (s.extract a b)] w fun e w' => ∃ ad c, e = .returned (.tuple #[.slice ad 0 c, .int .i64 0, .int .i64 0]) ∧ Below w.heap.size w w' := by
  have := refAll_any (s.extract a b) w
  rw [gap_res s a b hb hs h] at this
  refine this.mono fun e w' ⟨v, h1, h2, h3⟩ => ?_
  obtain ⟨ad, c, rfl⟩ := own_form h2
  exact ⟨ad, c, h1, h3⟩
/-- A row of tokens, place by place, nil and empty included. -/
theorem row_any {w : World} {B : Nat} {v : Value} {s : ByteArray} {l : List Tok} (h : w.ownsRow B 33 5 v l.length (toksC s l)) :
    ∃ ad cap, v = .slice ad l.length cap ∧ l.length ≤ cap ∧ ∀ i (hi : i < l.length), ∃ g, ad = some ⟨g, 0, none⟩ ∧ g < w.heap.size ∧
      w.cell? ⟨g, i * 5, none⟩ = some (.int .i64 (l[i]).kind) ∧ w.cell? ⟨g, i * 5 + 1, none⟩ = some (.string (s.extract (l[i]).a (l[i]).e)) ∧
      w.cell? ⟨g, i * 5 + 2, none⟩ = some (.int .i64 (l[i]).a) ∧ w.cell? ⟨g, i * 5 + 3, none⟩ = some (.int .i64 (lineA (byteAt s) (l[i]).a)) ∧ w.cell? ⟨g, i * 5 + 4, none⟩ = some (.int .i64 (colA (byteAt s) (l[i]).a)) := by
  by_cases hl : l = []
  · subst hl
    rcases h.2 with ⟨rfl, -⟩ | ⟨g, cap, cur, rfl, -, -, -, -⟩
    · exact ⟨none, 0, rfl, by simp, fun i hi => by simp at hi⟩
    · exact ⟨_, cap, rfl, by simp, fun i hi => by simp at hi⟩
  · obtain ⟨g, cap, rfl, -, h2, h3, h4⟩ := row_get h hl
    exact ⟨_, cap, rfl, h3, fun i hi => ⟨g, rfl, h2, h4 i hi⟩⟩
theorem resR_lex {s : ByteArray} {l : List Tok} {o : Nat} (hs : s.size ≤ 65536) (h : resR s = (l, 0, o)) : lexAt (byteAt s) s.size 0 = (l, 0, o) := by
  unfold resR at h
  rw [if_neg (by omega)] at h
  split at h
  · exact h
  · rename_i h0
    exact absurd (congrArg (fun r => r.2.1) h) h0
theorem Tk.below {g : Nat} {x0 x1 x2 x3 x4 : Value} {w w' : World} (h : Tk g x0 x1 x2 x3 x4 w) (hb : Below w.heap.size w w') : Tk g x0 x1 x2 x3 x4 w' := by
  have hlt : g < w.heap.size := by
    unfold Tk at h
    rcases Nat.lt_or_ge g w.heap.size with h' | h'
    · exact h'
    · rw [Array.getElem?_eq_none h'] at h; cases h
  exact (hb.block g hlt).trans h
theorem ri_keep {W8 W W' : World} {b : Nat} {v1 v2 v3 v4 : Value} (hb : b < W8.heap.size)
    (hS : Below W8.heap.size W8 W ∧ W.cell? ⟨b, 1, none⟩ = some v1 ∧ W.cell? ⟨b, 2, none⟩ = some v2 ∧ W.cell? ⟨b, 3, none⟩ = some v3 ∧ W.cell? ⟨b, 4, none⟩ = some v4) (h : Below W.heap.size W W') :
    Below W8.heap.size W8 W' ∧ W'.cell? ⟨b, 1, none⟩ = some v1 ∧ W'.cell? ⟨b, 2, none⟩ = some v2 ∧ W'.cell? ⟨b, 3, none⟩ = some v3 ∧ W'.cell? ⟨b, 4, none⟩ = some v4 := by
  obtain ⟨h0, h1, h2, h3, h4⟩ := hS
  have hlt : b < W.heap.size := Nat.lt_of_lt_of_le hb h0.size
  exact ⟨h0.trans (h.mono h0.size), (h.cell (p := ⟨b, 1, none⟩) hlt).trans h1, (h.cell (p := ⟨b, 2, none⟩) hlt).trans h2, (h.cell (p := ⟨b, 3, none⟩) hlt).trans h3, (h.cell (p := ⟨b, 4, none⟩) hlt).trans h4⟩
set_option maxRecDepth 100000 in
set_option maxHeartbeats 4000000 in
theorem rises_any (s : ByteArray) (w : World) :
    Calls Try.prog 6 #[.string s] w fun e w' => e = .returned (.bool true) ∧ Below w.heap.size w w' := by
  have hc := cut_any s
  have hz := cutS_size s
  generalize cutS s = t at *
  have HC := Lib.hid hc; clear hc
  have ht : t.size ≤ 100000 := by omega
  have HA := Lib.hid (fun w => all_any t w ht)
  by_cases her : (resR t).2.1 = 0
  · obtain ⟨l, o, hR⟩ : ∃ l o, resR t = (l, 0, o) := ⟨_, (resR t).2.2, by rw [← her]⟩
    have hl := resR_len t
    rw [hR] at hl
    have HA1 : Hid (∀ w, Calls Try.prog 9 #[.string t] w fun e w' => ∃ v, e = .returned (.tuple #[v, .int .i64 0, .agg #[.int .i64 0, .int .i64 0, .int .i64 0]]) ∧ w'.ownsRow w.heap.size 33 5 v l.length (toksC t l) ∧ Below w.heap.size w w') := fun w => by
      have := HA.out w; rw [hR] at this; exact this
    have HLX := Lib.hid (resR_lex (by omega) hR)
    have hl2 : l.length ≤ 2000 := by simp at hl; omega
    clear HA her hR hl
    go_enter Try.func6, Try.ntmps6
    go_wp2_with (go_at_call 8; (with_reducible refine (HC.out _).mono ?_); rintro e wq ⟨rfl, rfl⟩)
    refine (HA1.out _).mono ?_
    rintro e w1 ⟨v1, rfl, o1, h1⟩
    obtain ⟨ad, cap, rfl, hcap, hrow⟩ := row_any (o1.alloc (.cells #[.int .i64 0, .int .i64 0, .int .i64 0] 26))
    have B1 := Lib.hid (h1.alloc h1.size (.cells #[.int .i64 0, .int .i64 0, .int .i64 0] 26))
    have ROW := Lib.hid hrow
    clear o1 h1 hrow
    go_wp2_with fail
    generalize w1.alloc (.cells #[.int .i64 0, .int .i64 0, .int .i64 0] 26) = W1 at *
    go_loopg [6, 29] l.length (fun g en x wx => ∃ (k E : Nat), k ≤ l.length ∧ g = l.length - k ∧ en = .int .i64 E ∧ x = .int .i64 k ∧ E ≤ t.size ∧ Hid (lexAt (byteAt t) t.size E = (l.drop k, 0, o)) ∧ Below W1.heap.size W1 wx)
    case atStart => exact ⟨0, 0, by omega, by omega, rfl, rfl, by omega, HLX, Below.refl _ _⟩
    case round =>
      obtain ⟨k, E, hk, hg, hen, hx, hE, HL, hb⟩ := hrel
      have HG := Lib.hid hg; clear hg
      subst hen hx
      have hcs := lex_cases (byteAt t) t.size E (l.drop k) o hE HL.out
      by_cases hlt : k < l.length
      · obtain ⟨g, hga, hgl, a0, a1, a2, a3, a4⟩ := ROW.out k hlt
        subst hga
        rcases hcs with ⟨h0, -⟩ | ⟨tk, r, hr, q1, q2, q3, q4, q5, q6, q7, -, -⟩
        · have := congrArg List.length h0
          simp at this; omega
        · rw [List.drop_eq_getElem_cons hlt] at hr
          obtain ⟨e1, e2⟩ := List.cons.inj hr
          rw [e1] at a0 a1 a2 a3 a4
          have Q5 : Hid (lexAt (byteAt t) t.size tk.e = (l.drop (k + 1), 0, o)) := by rw [e2]; exact q5
          obtain ⟨L, hL⟩ : ∃ L, tk.e = tk.a + L := ⟨tk.e - tk.a, by omega⟩
          rw [hL] at q2 q3 Q5 a1
          have GC := Lib.hid (fun w => gap_call t E tk.a (by omega) (by omega) q4 w)
          have HT : Hid (∀ w, Calls Try.prog 12 #[.string t, .int .i64 tk.a] w fun e w' => e = .returned (.agg #[.int .i64 tk.a, .int .i64 (lineA (byteAt t) tk.a), .int .i64 (colA (byteAt t) tk.a)]) ∧ Below w.heap.size w w') := fun w => by
            have := refAt_any t tk.a w ht
            rw [show clampN (tk.a : Int) t.size = tk.a by unfold clampN; omega] at this
            exact this
          generalize tk.kind = kd at *
          generalize tk.a = A at *
          rw [← hb.cell (p := ⟨g, _, none⟩) hgl] at a0 a1 a2 a3 a4
          have hsz : (t.extract A (A + L)).size = L := by simp; omega
          have hem : (t.extract A (A + L)).toList.isEmpty = false := empty_f (by omega)
          have hB := Lib.hid hb
          clear hr e1 e2 q4 q5 q6 q7 hL HL hb
          generalize lineA (byteAt t) A = li at *
          generalize colA (byteAt t) A = co at *
          have TK := Lib.hid (tk_new wr (.int .i64 kd) (.string (t.extract A (A + L))) (.int .i64 A) (.int .i64 li) (.int .i64 co))
          have j0 : (0 : Int) ≤ (k : Int) := by omega
          have j1 : (k : Int) < (l.length : Int) := by omega
          go_upto_region 10 with fail
          obtain ⟨x0, x1, x2, x3, x4, -⟩ := TK.out.cells
          have d1 : decide (A < E) = false := by simp; omega
          have d2 : decide ((t.size : Int) - (L : Int) < (A : Int)) = false := by simp; omega
          have wL : IntKind.i64.wrap ((A : Int) + (L : Int)) = (A : Int) + (L : Int) := IntWalk.i64_in _ (by omega)
          have wS : IntKind.i64.wrap ((t.size : Int) - (L : Int)) = (t.size : Int) - (L : Int) := IntWalk.i64_in _ (by omega)
          have tN : ((A : Int) + (L : Int)).toNat = A + L := by omega
          have s0 : (0 : Int) ≤ (A : Int) := by omega
          have s1 : (A : Int) ≤ (A : Int) + (L : Int) := by omega
          have s2 : (A : Int) + (L : Int) ≤ (t.size : Int) := by omega
          generalize hW8 : wr.alloc (.cells #[.int .i64 kd, .string (t.extract A (A + L)), .int .i64 A, .int .i64 li, .int .i64 co] 33) = W8 at *
          have hlt8 : wr.heap.size < W8.heap.size := by rw [← hW8]; simp
          have HW8 : Hid (Below wr.heap.size wr W8) := by rw [← hW8]; exact (Below.refl _ _).alloc (Nat.le_refl _) _
          clear hW8
          go_cut [74] (fun c wx => c = .bool false ∧ Below W8.heap.size W8 wx)
          case first =>
            go_region_held3 (fun W => Below W8.heap.size W8 W ∧ W.cell? ⟨wr.heap.size, 1, none⟩ = some (.string (t.extract A (A + L))) ∧ W.cell? ⟨wr.heap.size, 2, none⟩ = some (.int .i64 A) ∧ W.cell? ⟨wr.heap.size, 3, none⟩ = some (.int .i64 li) ∧ W.cell? ⟨wr.heap.size, 4, none⟩ = some (.int .i64 co)) (first | exact ⟨(Below.refl _ _).drew, x1, x2, x3, x4⟩ | exact ri_keep hlt8 (by assumption) h4) ((go_at_call 12; (with_reducible refine (HT.out _).mono ?_); rintro e w4 ⟨rfl, h4⟩))
            go_wp2_with fail
            go_meet
            exact ⟨rfl, (show Below W8.heap.size W8 w4 ∧ w4.cell? ⟨wr.heap.size, 1, none⟩ = _ ∧ _ from by assumption).1⟩
          case rest =>
            obtain ⟨rfl, hbc⟩ := hcut
            have e0 : (0 : Int) ≤ (E : Int) := by omega
            have e1 : (E : Int) ≤ (A : Int) := by omega
            have e2 : (A : Int) ≤ (t.size : Int) := by omega
            clear x0 x1 x2 x3 x4
            go_wp2_with fail
            refine (GC.out _).mono ?_
            rintro e w5 ⟨a5, c5, rfl, h5⟩
            have T5 := (TK.out.below hbc).below h5
            obtain ⟨x0, x1, x2, x3, x4, -⟩ := T5.cells
            clear x0 x2 x3 x4 T5
            go_wp2_with fail
            go_roundg (l.length - (k + 1))
            case measure => have := HG.out; omega
            case rel => exact ⟨k + 1, A + L, by omega, rfl, by go_num, by go_num, by omega, Q5, hB.out.trans (((HW8.out.trans (hbc.mono HW8.out.size)).trans (h5.mono (Nat.le_trans HW8.out.size hbc.size))).mono hB.out.size)⟩
      · obtain rfl : k = l.length := by omega
        have hgap : Gap (byteAt t) E t.size := by
          rcases hcs with ⟨-, h0⟩ | ⟨tk, r, hr, -⟩
          · exact h0
          · simp at hr
        have GC := Lib.hid (fun w => gap_call t E t.size (Nat.le_refl _) (by omega) hgap w)
        clear hcs HL hgap
        have B2 := Lib.hid (B1.out.trans (hb.mono B1.out.size))
        go_wp2_with (first | (go_at_call 10; (with_reducible refine (GC.out _).mono ?_); rintro e w2 ⟨a2, c2, rfl, h2⟩) | (go_at_call 13; (with_reducible refine (lives_any _).mono ?_); rintro e w9 ⟨rfl, h9⟩))
        go_ret
        exact ⟨rfl, B2.out.trans ((h2.trans (h9.mono h2.size)).mono B2.out.size)⟩
  · obtain ⟨he, -⟩ := resR_err t her
    obtain ⟨er, o, hR⟩ : ∃ er o, resR t = ([], er, o) := ⟨_, _, by rw [← he]⟩
    rw [hR] at her
    have her' : er ≠ 0 := her
    have HA1 : Hid (∀ w, Calls Try.prog 9 #[.string t] w fun e w' => ∃ v x0 x1 x2, e = .returned (.tuple #[v, .int .i64 er, .agg #[.int .i64 x0, .int .i64 x1, .int .i64 x2]]) ∧ Below w.heap.size w w') := fun w => by
      have := HA.out w; rw [hR] at this
      refine this.mono fun e w' ⟨v, h1, h2, h3⟩ => ?_
      have hpl : plV t ([], er, o) = .agg #[.int .i64 o, .int .i64 (lineA (byteAt t) o), .int .i64 (colA (byteAt t) o)] := by
        unfold plV; rw [if_neg her]; rfl
      rw [hpl] at h1
      exact ⟨v, _, _, _, h1, h3⟩
    have tn : ((er : Int) != 0) = true := by simp; omega
    clear HA her hR he her'
    go_enter Try.func6, Try.ntmps6
    go_wp2_with (first | (go_at_call 8; (with_reducible refine (HC.out _).mono ?_); rintro e wq ⟨rfl, rfl⟩) | (go_at_call 9; (with_reducible refine (HA1.out _).mono ?_); rintro e w1 ⟨v1, x0, x1, x2, rfl, h1⟩) | (go_at_call 13; (with_reducible refine (lives_any _).mono ?_); rintro e w9 ⟨rfl, h9⟩))
    go_ret
    exact ⟨rfl, (h1.alloc h1.size _).trans (h9.mono (by have := h1.size; simp; omega))⟩
end Go.Proofs.Ytaghoicmfpndbaa
