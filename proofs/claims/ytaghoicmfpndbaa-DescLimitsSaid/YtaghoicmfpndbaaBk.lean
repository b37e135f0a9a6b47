/- The walk of DescBack: the law answers true at every text. -/
import Derived.Test.YtaghoicmfpndbaaPt
import Derived.Laws.Concat
namespace Go.Proofs.Ytaghoicmfpndbaa
open Go.RowKit

def sumL : List Tok → Nat
  | [] => 0
  | t :: l => (t.e - t.a) + sumL l
theorem sumL_le (c : Nat → Nat) (len o : Nat) : ∀ (l : List Tok) (i : Nat), i ≤ len → lexAt c len i = (l, 0, o) → i + sumL l ≤ len := by
  intro l
  induction l with
  | nil => intro i hi _; simp [sumL]; omega
  | cons t l ih =>
    intro i hi h
    rcases lex_cases c len i (t :: l) o hi h with ⟨h0, -⟩ | ⟨u, r, hr, h1, h2, h3, -, h5, -⟩
    · cases h0
    · obtain ⟨rfl, rfl⟩ := List.cons.inj hr
      have := ih _ h3 h5
      rw [sumL]; omega
theorem sumL_snoc (l : List Tok) (t : Tok) : sumL (l ++ [t]) = sumL l + (t.e - t.a) := by
  induction l with
  | nil => simp [sumL]
  | cons u l ih => simp only [List.cons_append, sumL, ih]; omega
theorem sumL_take (l : List Tok) (k : Nat) : sumL (l.take k) ≤ sumL l := by
  induction l generalizing k with
  | nil => simp [sumL]
  | cons u l ih => cases k with
    | zero => simp [sumL]
    | succ k => simp only [List.take_succ_cons, sumL]; have := ih k; omega
theorem accK_bound {s : ByteArray} {l : List Tok} {o : Nat} (h : lexAt (byteAt s) s.size 0 = (l, 0, o)) : ∀ k, k ≤ l.length → (accK (fT s l) k).length ≤ sumL (l.take k) + k := by
  intro k
  induction k with
  | zero => intro _; simp [accK]
  | succ k ih =>
    intro hk
    have := ih (by omega)
    have hg := all_good _ _ _ l 0 (by omega) h l[k] (List.getElem_mem _)
    have hb := bytesT_len s l[k] hg.2.1
    rw [accK_succ_len, fT_eq s l k (by omega), hb, List.take_succ_eq_append_getElem (by omega), sumL_snoc]
    unfold posK; split <;> omega
/-- The tokens of the printed text. -/
def backL (s : ByteArray) (l : List Tok) : List Tok := (List.range' 0 l.length).map fun j => ⟨((l[j]?.map (·.kind)).getD 0), posK (fT s l) j, posK (fT s l) j + (fT s l j).length⟩
theorem back_res {s : ByteArray} {l : List Tok} {o : Nat} (hs : s.size ≤ 2000) (hl : l.length ≤ 2000) (h : lexAt (byteAt s) s.size 0 = (l, 0, o)) :
    resR ⟨(accK (fT s l) l.length).toArray⟩ = (backL s l, 0, 0) := by
  have hb := accK_bound h l.length (Nat.le_refl _)
  have h1 := sumL_take l l.length
  have h2 := sumL_le _ _ _ l 0 (by omega) h
  have hj := lex_join (fT s l) (fun j => (l[j]?.map (·.kind)).getD 0) l.length (fun i hi => by
    have := good_of h l[i] (List.getElem_mem _)
    rw [fT_eq s l i hi, List.getElem?_eq_getElem hi]; exact this) _ 0 (Nat.le_refl _) (by omega)
  unfold resR
  rw [size_mk, if_neg (by omega), byteAt_mk]
  have e0 : (accK (fT s l) 0).length = 0 := rfl
  rw [e0] at hj
  rw [hj]
  rfl
theorem extract_mid (A B C : List UInt8) : (ByteArray.mk (A ++ B ++ C).toArray).extract A.length (A.length + B.length) = ⟨B.toArray⟩ := by
  apply ByteArray.ext
  apply Array.ext'
  simp
theorem back_face {s : ByteArray} {l : List Tok} : faceL s l = faceL ⟨(accK (fT s l) l.length).toArray⟩ (backL s l) := by
  apply List.ext_getElem
  · simp [faceL, backL]
  · intro i h1 h2
    have hi : i < l.length := by simpa [faceL] using h1
    simp only [faceL, backL, List.getElem_map, List.getElem_range', Nat.zero_add, Nat.one_mul, List.getElem?_eq_getElem hi, Option.map_some, Option.getD_some]
    congr 1
    obtain ⟨R, hR, -⟩ := accK_pre (fT s l) (i + 1) l.length (by omega)
    have e : accK (fT s l) (i + 1) = (if 0 < i then accK (fT s l) i ++ [32] else accK (fT s l) i) ++ fT s l i := rfl
    have hp : posK (fT s l) i = (if 0 < i then accK (fT s l) i ++ [32] else accK (fT s l) i).length := by unfold posK; split <;> simp
    rw [hR, e, hp, extract_mid, fT_str s l i hi]
theorem mk_app (A B : List UInt8) : ByteArray.mk A.toArray ++ ByteArray.mk B.toArray = ⟨(A ++ B).toArray⟩ := by
  rw [ByteArray.mk_append_mk]
theorem want_c (f : Nat → List UInt8) (k : Nat) (h : 0 < k) : Value.string (⟨(accK f k).toArray⟩ ++ ⟨#[32]⟩ ++ ⟨(f k).toArray⟩) = Value.string ⟨(accK f (k + 1)).toArray⟩ := by
  show Value.string (⟨(accK f k).toArray⟩ ++ ⟨[32].toArray⟩ ++ ⟨(f k).toArray⟩) = _
  rw [mk_app, mk_app, accK, if_pos h]
theorem want_0 (f : Nat → List UInt8) (k : Nat) (h : ¬ 0 < k) : Value.string (⟨(accK f k).toArray⟩ ++ ⟨(f k).toArray⟩) = Value.string ⟨(accK f (k + 1)).toArray⟩ := by
  rw [mk_app, accK, if_neg h]
set_option maxHeartbeats 2000000 in
theorem back_any (s : ByteArray) (w : World) :
    Calls Try.prog 5 #[.string s] w fun e w' => e = .returned (.bool true) ∧ Below w.heap.size w w' := by
  have hc := cut_any s
  have hz := cutS_size s
  generalize cutS s = t at *
  have HC := Lib.hid hc; clear hc
  have ht : t.size ≤ 100000 := by omega
  have HA := Lib.hid (fun w => all_any t w ht)
  by_cases her : (resR t).2.1 = 0
  · obtain ⟨l, o, hR⟩ : ∃ l o, resR t = (l, 0, o) := ⟨_, (resR t).2.2, by rw [← her]⟩
    have hl := resR_len t
    rw [hR] at hl
    have HA1 : Hid (∀ w, Calls Try.prog 9 #[.string t] w fun e w' => ∃ v, e = .returned (.tuple #[v, .int .i64 0, .agg #[.int .i64 0, .int .i64 0, .int .i64 0]]) ∧ w'.ownsRow w.heap.size 33 5 v l.length (toksC t l) ∧ Below w.heap.size w w') := fun w => by
      have := HA.out w; rw [hR] at this; exact this
    have hlx := resR_lex (by omega) hR
    have hl2 : l.length ≤ 2000 := by simp at hl; omega
    have hbd := accK_bound hlx l.length (Nat.le_refl _)
    have hst := sumL_take l l.length
    have hsl := sumL_le _ _ _ l 0 (by omega) hlx
    have hPl : (accK (fT t l) l.length).length ≤ 4000 := by omega
    have HB1 : Hid (∀ w, Calls Try.prog 9 #[.string ⟨(accK (fT t l) l.length).toArray⟩] w fun e w' => ∃ v, e = .returned (.tuple #[v, .int .i64 0, .agg #[.int .i64 0, .int .i64 0, .int .i64 0]]) ∧ w'.ownsRow w.heap.size 33 5 v (backL t l).length (toksC ⟨(accK (fT t l) l.length).toArray⟩ (backL t l)) ∧ Below w.heap.size w w') := fun w => by
      have := all_any ⟨(accK (fT t l) l.length).toArray⟩ w (by rw [size_mk]; omega)
      rw [back_res (by omega) hl2 hlx] at this; exact this
    clear HA her hR hl hlx hbd hst hsl
    go_enter Try.func5, Try.ntmps5
    go_wp2_with (go_at_call 8; (with_reducible refine (HC.out _).mono ?_); rintro e wq ⟨rfl, rfl⟩)
    refine (HA1.out _).mono ?_
    rintro e w1 ⟨v1, rfl, o1, h1⟩
    have O1 := Lib.hid (o1.alloc (.cells #[.int .i64 0, .int .i64 0, .int .i64 0] 26))
    obtain ⟨ad, cap, rfl, -, hrow⟩ := row_any O1.out
    have ROW1 : Hid (RowT (w1.alloc (.cells #[.int .i64 0, .int .i64 0, .int .i64 0] 26)) ad t l) := hrow
    have B1 := Lib.hid (h1.alloc h1.size (.cells #[.int .i64 0, .int .i64 0, .int .i64 0] 26))
    clear o1 h1 hrow
    go_wp2_with fail
    generalize w1.alloc (.cells #[.int .i64 0, .int .i64 0, .int .i64 0] 26) = W1 at *
    refine (print_any t l ad cap W1 ROW1.out (by omega) (by omega)).mono ?_
    rintro e w2 ⟨rfl, h2⟩
    have O2 := Lib.hid (own_below O1.out h2)
    have ROW2 := Lib.hid (ROW1.out.below h2)
    have B2 := Lib.hid (B1.out.trans (h2.mono B1.out.size))
    clear O1 ROW1 B1 h2
    go_wp2_with fail
    refine (HB1.out _).mono ?_
    rintro e w3 ⟨v3, rfl, o3, h3⟩
    have hal := (Below.refl w3.heap.size w3).alloc (Nat.le_refl _) (.cells #[.int .i64 0, .int .i64 0, .int .i64 0] 26)
    have O3 := Lib.hid (own_below (own_below O2.out h3) hal)
    have M3 := Lib.hid (own_below o3 hal)
    have ROW3 := Lib.hid ((ROW2.out.below h3).below hal)
    have B3 := Lib.hid ((B2.out.trans (h3.mono B2.out.size)).trans (hal.mono (Nat.le_trans B2.out.size h3.size)))
    clear O2 ROW2 B2 h3 o3 hal
    go_wp2_with fail
    generalize w3.alloc (.cells #[.int .i64 0, .int .i64 0, .int .i64 0] 26) = W3 at *
    go_loopg [10, 38] l.length (fun g v x wx => ∃ k, k ≤ l.length ∧ g = l.length - k ∧ x = .int .i64 k ∧ v = .string ⟨(accK (fT t l) k).toArray⟩ ∧ Below W3.heap.size W3 wx)
    case atStart => exact ⟨0, by omega, by omega, rfl, rfl, Below.refl _ _⟩
    case round =>
      obtain ⟨k, hk, hg, hx, hv, hb⟩ := hrel
      have HG := Lib.hid hg; clear hg
      subst hx hv
      by_cases hlt : k < l.length
      · obtain ⟨g, hga, hgl, a0, a1, a2, a3, a4⟩ := ROW3.out k hlt
        subst hga
        rw [fT_str t l k hlt] at a1
        rw [← hb.cell (p := ⟨g, _, none⟩) hgl] at a0 a1 a2 a3 a4
        have hle := accK_le (fT t l) (k + 1) l.length (by omega)
        rw [accK_succ_len] at hle
        have hpk : (accK (fT t l) k).length ≤ posK (fT t l) k := by unfold posK; omega
        have HPK := Lib.hid (And.intro hle hpk)
        have l1 : (accK (fT t l) k).length ≤ 4000 := by omega
        have l2 : (fT t l k).length ≤ 4000 := by omega
        clear hle hpk
        generalize (l[k]).kind = kd at *
        generalize (l[k]).a = A at *
        generalize lineA (byteAt t) A = li at *
        generalize colA (byteAt t) A = co at *
        have HB := Lib.hid hb
        have hal := (Below.refl wr.heap.size wr).alloc (Nat.le_refl _) (.cells #[.int .i64 kd, .string ⟨(fT t l k).toArray⟩, .int .i64 A, .int .i64 li, .int .i64 co] 33)
        have HAL := Lib.hid hal
        clear hb hal
        by_cases h0 : 0 < k
        · have d0 : decide (0 < k) = true := by simp; omega
          go_wp2_with fail
          go_roundg (l.length - (k + 1))
          case measure => have := HG.out; omega
          case rel => exact ⟨k + 1, by omega, rfl, by go_num, want_c (fT t l) k h0, HB.out.trans (HAL.out.mono HB.out.size)⟩
        · have d0 : decide (0 < k) = false := by simp; omega
          go_wp2_with fail
          go_roundg (l.length - (k + 1))
          case measure => have := HG.out; omega
          case rel => exact ⟨k + 1, by omega, rfl, by go_num, want_0 (fT t l) k h0, HB.out.trans (HAL.out.mono HB.out.size)⟩
      · obtain rfl : k = l.length := by omega
        have O4 := own_below O3.out hb
        have M4 := own_below M3.out hb
        have B4 := Lib.hid (B3.out.trans (hb.mono B3.out.size))
        go_wp2_with fail
        refine (same_own _ _ _ _ _ _ _ _ _ O4 M4 (by omega) back_face).mono ?_
        rintro e w5 ⟨rfl, h5⟩
        go_wp2_with (first | (go_at_call 13; (with_reducible refine (lives_any _).mono ?_); rintro e w9 ⟨rfl, h9⟩))
        go_ret
        exact ⟨rfl, B4.out.trans ((h5.trans (h9.mono h5.size)).mono B4.out.size)⟩
  · obtain ⟨he, -⟩ := resR_err t her
    obtain ⟨er, o, hR⟩ : ∃ er o, resR t = ([], er, o) := ⟨_, _, by rw [← he]⟩
    rw [hR] at her
    have her' : er ≠ 0 := her
    have HA1 : Hid (∀ w, Calls Try.prog 9 #[.string t] w fun e w' => ∃ a c x0 x1 x2, e = .returned (.tuple #[.slice a 0 c, .int .i64 er, .agg #[.int .i64 x0, .int .i64 x1, .int .i64 x2]]) ∧ Below w.heap.size w w') := fun w => by
      have := HA.out w; rw [hR] at this
      refine this.mono fun e w' ⟨v, h1, h2, h3⟩ => ?_
      obtain ⟨a, c, rfl⟩ := own_form h2
      have hpl : plV t ([], er, o) = .agg #[.int .i64 o, .int .i64 (lineA (byteAt t) o), .int .i64 (colA (byteAt t) o)] := by
        unfold plV; rw [if_neg her]; rfl
      rw [hpl] at h1
      exact ⟨a, c, _, _, _, h1, h3⟩
    have tn : ((er : Int) != 0) = true := by simp; omega
    clear HA her hR he her'
    go_enter Try.func5, Try.ntmps5
    go_wp2_with (first | (go_at_call 8; (with_reducible refine (HC.out _).mono ?_); rintro e wq ⟨rfl, rfl⟩) | (go_at_call 9; (with_reducible refine (HA1.out _).mono ?_); rintro e w1 ⟨a1, c1, x0, x1, x2, rfl, h1⟩) | (go_at_call 13; (with_reducible refine (lives_any _).mono ?_); rintro e w9 ⟨rfl, h9⟩))
    go_ret
    exact ⟨rfl, (h1.alloc h1.size _).trans (h9.mono (by have := h1.size; simp; omega))⟩
end Go.Proofs.Ytaghoicmfpndbaa
