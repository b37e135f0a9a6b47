/- Layer 7's alike: both have the same rows, and each node knows its place. -/
import Derived.Test.YtlgdeadghmbfmaaDe
import Derived.Test.YtlgdeadghmbfmaaDd
import Derived.Deep.DeepCutAuto
namespace Go.Proofs.Ytlgdeadghmbfmaa
open Go.RowKit

def TN (b gl gn rb gL : Nat) (k : Nat) : Prop := Own3 b gl gn k ∨ k = rb ∨ k = gL
/-- The chain and the document's rows, beside one another. -/
structure Two (b gl gn rb gL n m : Nat) (ls : Nat → List Nat) (w : World) : Prop where
  ch : Ch b gl gn n m ls w
  dr : DrV (TN b gl gn rb gL) rb gL n m ls w
  o1 : ¬ Own3 b gl gn rb
  o2 : ¬ Own3 b gl gn gL
section
variable {b gl gn rb gL n m : Nat} {ls : Nat → List Nat} {w w' : World}
theorem Two.nob (h : Two b gl gn rb gL n m ls w) (hb : But Nob w w') : Two b gl gn rb gL n m ls w' := ⟨h.ch.but hb fun _ _ q => q.elim, h.dr.nob hb, h.o1, h.o2⟩
theorem Two.lt (h : Two b gl gn rb gL n m ls w) {k : Nat} (hk : TN b gl gn rb gL k) : k < w.heap.size := by
  rcases hk with hk | rfl | rfl
  · exact h.ch.lt hk
  · exact h.dr.own.lt
  · obtain ⟨V, S, a, c, d, e⟩ := h.dr.rows; exact c.lt
theorem Two.len (h : Two b gl gn rb gL n m ls w) {k : Nat} (hk : k < m) : (ls k).length ≤ 4096 := Nat.le_trans (h.ch.len_le hk) h.ch.lim.1
theorem row_in (k : Nat) (h : Two b gl gn rb gL n m ls w) (hk : k < m) (v : Value) (hv : RowIn (TN b gl gn rb gL) w v (ls k)) :
    Calls Try.prog 80 #[.pointer (some ⟨b, 0, none⟩), .int .i64 k, v] w fun e w' => e = .returned (.bool true) ∧ But Nob w w' := by
  obtain ⟨A, cap, rfl, h1, h2, h3, h4⟩ := hv
  exact row7_any (some ⟨b, 0, none⟩) k (ls k) A cap w (h.len hk) h3 (fun w1 h1 => firstc_ok k (h.nob h1).ch hk) (fun w1 h1 => lenc_ok k (h.nob h1).ch hk) (fun w1 h1 => all_ok k (h.nob h1).ch hk)
theorem row_out (i : Int) (h : Two b gl gn rb gL n m ls w) (hi : inB i m = false) :
    Calls Try.prog 80 #[.pointer (some ⟨b, 0, none⟩), .int .i64 i, .slice none 0 0] w fun e w' => e = .returned (.bool true) ∧ But Nob w w' :=
  row7_any (some ⟨b, 0, none⟩) i [] none 0 w (by simp) (fun j hj => absurd hj (Nat.not_lt_zero _)) (fun w1 h1 => firstc_out i (h.nob h1).ch hi)
    (fun w1 h1 => by obtain ⟨cl, cn, R, Ah, Be, L, q, hI⟩ := (h.nob h1).ch; exact lenc_out i q hi)
    (fun w1 h1 => (all_none i (firstc_out i (h.nob h1).ch hi)).mono fun e W' ⟨he, hw⟩ => ⟨none, 0, 0, he, rfl, by omega, fun j hj => absurd hj (by omega), by rw [← hw]; exact But.refl _ _⟩)
theorem inc_out (x : Int) (h : Ch b gl gn n m ls w) (hx : inB x n = false) :
    Calls Try.prog 51 #[.pointer (some ⟨b, 0, none⟩), .int .i64 x] w fun e w' => e = .returned (.tuple #[.int .i64 0, .bool false]) ∧ w = w' := by
  obtain ⟨cl, cn, R, Ah, Be, L, h, hI⟩ := h
  exact in_out x h hx
set_option maxHeartbeats 1000000 in
theorem drow_at {N : Nat → Prop} (k : Nat) (h : DrV N rb gL n m ls w) (hk : k < m) (v : Value) (hv : w.cell? ⟨gL, k, none⟩ = some v) : Calls Try.prog 81 #[.pointer (some ⟨rb, 0, none⟩), .int .i64 k] w fun e w' => e = .returned v ∧ w = w' := by
  obtain ⟨c0, c1⟩ := h.cells
  have k0 : (0 : Int) ≤ (k : Int) := by omega
  have k1 : (k : Int) < (m : Int) := by omega
  have k2 : decide (m ≤ k) = false := decide_eq_false (by omega)
  clear h
  go_enter Try.func81, Try.ntmps81
  go_wp2
  go_ret
  exact ⟨rfl, rfl⟩
/-- A node that is in no row. -/
theorem lone (x : Int) (h : Two b gl gn rb gL n m ls w) (hx : ∀ a, a < m → ∀ y ∈ ls a, (y : Int) ≠ x) :
    Calls Try.prog 51 #[.pointer (some ⟨b, 0, none⟩), .int .i64 x] w fun e w' => e = .returned (.tuple #[.int .i64 0, .bool false]) ∧ w = w' := by
  cases hb : inB x n with
  | false => exact inc_out x h.ch hb
  | true =>
    have h2 : 0 ≤ x ∧ x < n := by simpa [inB] using hb
    obtain ⟨y, rfl⟩ : ∃ y : Nat, x = y := ⟨x.toNat, by omega⟩
    exact inc_free y h.ch (by omega) fun j hj q => hx j hj y q rfl
theorem nodup_at {l : List Nat} (h : l.Nodup) {i j : Nat} (hi : i < l.length) (hj : j < l.length) (e : l[i] = l[j]) : i = j := by
  rcases Nat.lt_trichotomy i j with q | q | q
  · exact absurd e (List.pairwise_iff_getElem.1 h i j hi hj q)
  · exact q
  · exact absurd e.symm (List.pairwise_iff_getElem.1 h j i hj hi q)
theorem din_at (a c : Nat) (h : Two b gl gn rb gL n m ls w) (ha : a < m) (hc : c < (ls a).length) :
    Calls Try.prog 82 #[.pointer (some ⟨rb, 0, none⟩), .int .i64 ((ls a)[c] : Nat)] w fun e w' => e = .returned (.tuple #[.int .i64 a, .int .i64 c]) ∧ w = w' := by
  refine (din_any _ h.dr (fun a ha => h.len ha)).mono ?_
  rintro e w' ⟨i, k, rfl, hF, rfl⟩
  have hmem : (ls a)[c] ∈ ls a := List.getElem_mem hc
  rcases hF with ⟨rfl, rfl, q⟩ | ⟨a', c', rfl, rfl, ha', hc', hx⟩
  · exact absurd rfl (q a ha _ hmem)
  · rw [List.getElem?_eq_getElem hc'] at hx
    have hx' : (ls a')[c'] = (ls a)[c] := Int.ofNat.inj hx
    obtain rfl : a' = a := h.ch.one ha' ha (by rw [← hx']; exact List.getElem_mem hc') hmem
    obtain rfl := nodup_at (h.ch.nodup ha) hc' hc hx'
    exact ⟨rfl, rfl⟩
theorem split_at {l : List Nat} {c : Nat} (hc : c < l.length) : l = l.take c ++ l[c] :: l.drop (c + 1) := by
  rw [← List.drop_eq_getElem_cons hc, List.take_append_drop]
set_option maxRecDepth 100000 in
set_option maxHeartbeats 8000000 in
theorem alike7_any (h : Two b gl gn rb gL n m ls w) :
    Calls Try.prog 42 #[.pointer (some ⟨b, 0, none⟩), .pointer (some ⟨rb, 0, none⟩)] w fun e w' => e = .returned (.bool true) ∧ But Nob w w' := by
  have hm4 := h.ch.lim.2
  have hn4 := h.ch.lim.1
  have H := Lib.hid h
  clear h
  go_enter Try.func42, Try.ntmps42
  go_wp2_with fail
  go_loopw [5, 4] (fun t u wr => ∃ i : Int, -1 ≤ i ∧ i ≤ m + 1 ∧ t = .int .i64 i ∧ u = .bool false ∧ But Nob w wr) (fun t _ _ => m + 2 - (intOf t + 1).toNat)
  case atStart => exact ⟨-1, by omega, by omega, rfl, rfl, But.refl _ _⟩
  case round =>
    obtain ⟨i, hi0, hi1, rfl, rfl, hG⟩ := hrel
    have h2 := H.out.nob hG
    obtain ⟨c0, c1⟩ := h2.dr.cells
    have q2 : IntKind.i64.wrap (i + 1) = i + 1 := IntWalk.i64_in _ (by omega)
    have HG := Lib.hid hG
    by_cases hle : i ≤ m
    · have HR : Hid (∃ v, Calls Try.prog 81 #[.pointer (some ⟨rb, 0, none⟩), .int .i64 i] wr (fun e w' => e = .returned v ∧ wr = w') ∧
          Calls Try.prog 80 #[.pointer (some ⟨b, 0, none⟩), .int .i64 i, v] wr fun e w' => e = .returned (.bool true) ∧ But Nob wr w') := by
        cases hb : inB i m with
        | false => exact ⟨_, drow_out i h2.dr hb, row_out i h2 hb⟩
        | true =>
          have h3 : 0 ≤ i ∧ i < m := by simpa [inB] using hb
          obtain ⟨k, rfl⟩ : ∃ k : Nat, i = k := ⟨i.toNat, by omega⟩
          obtain ⟨v, hv, hR⟩ := h2.dr.row (show k < m by omega)
          exact ⟨v, drow_at k h2.dr (by omega) v hv, row_in k h2 (by omega) v hR⟩
      obtain ⟨v, HR1, HR2⟩ := HR.out
      have HR1 := Lib.hid HR1; have HR2 := Lib.hid HR2
      clear h2 hG HR
      go_wp2_with (first
        | (go_at_call 81; (with_reducible refine HR1.out.mono ?_); rintro e wq ⟨rfl, rfl⟩)
        | (go_at_call 80; (with_reducible refine HR2.out.mono ?_); rintro e w2 ⟨rfl, h2⟩; have H2 := Lib.hid h2; clear h2 c0 c1))
      go_roundw
      case rel => exact ⟨i + 1, by omega, by omega, rfl, rfl, HG.out.trans H2.out⟩
      case measure => simp only [intOf]; omega
    · have hi : i = m + 1 := by omega
      have H2 := Lib.hid h2
      have hle' : (m : Int) < i := by omega
      clear h2 hG q2 H hi hi0 hi1
      go_wp2_with fail
      go_loopw [6, 4] (fun t u wr2 => ∃ i : Int, -1 ≤ i ∧ i ≤ n + 1 ∧ t = .int .i64 i ∧ u = .bool false ∧ But Nob wr wr2) (fun t _ _ => n + 2 - (intOf t + 1).toNat)
      case atStart => exact ⟨-1, by omega, by omega, rfl, rfl, But.refl _ _⟩
      case round =>
        obtain ⟨x, hx0, hx1, rfl, rfl, hG⟩ := hrel
        have h2 := H2.out.nob hG
        obtain ⟨c0, c1⟩ := h2.dr.cells
        have q2 : IntKind.i64.wrap (x + 1) = x + 1 := IntWalk.i64_in _ (by omega)
        have HG2 := Lib.hid hG
        by_cases hle : x ≤ n
        · by_cases hin : ∃ a, a < m ∧ ∃ y ∈ ls a, (y : Int) = x
          · obtain ⟨a, ha, y, hy, rfl⟩ := hin
            obtain ⟨c, hc, rfl⟩ := List.mem_iff_getElem.1 hy
            have HI := Lib.hid (inc_ok _ a h2.ch ha hy)
            have HX := Lib.hid (nextc_ok _ a _ _ h2.ch ha (split_at hc))
            have HD := Lib.hid (din_at a c h2 ha hc)
            obtain ⟨v, hv, A, cap, rfl, hr1, hr2, hr3, hr4⟩ := h2.dr.row ha
            have hl4 := h2.len ha
            have a0 : (0 : Int) ≤ (a : Int) := by omega
            have a1 : (a : Int) < (m : Int) := by omega
            have a2 : ¬ (a : Int) < 0 := by omega
            have q3 : IntKind.i64.wrap ((c : Int) + 1) = (c : Int) + 1 := IntWalk.i64_in _ (by omega)
            have t0 : ((a : Int) != (a : Int)) = false := by simp
            obtain ⟨x, hx⟩ : ∃ x, (ls a)[c] = x := ⟨_, rfl⟩
            rw [hx] at HI HX HD hle hx0 hx1 q2 ⊢
            obtain ⟨len, hlen⟩ : ∃ len, (ls a).length = len := ⟨_, rfl⟩
            rw [hlen] at hc hl4 hr1 hr3 hv
            have HL := Lib.hid hlen
            by_cases hc1 : c + 1 < len
            · obtain ⟨bb, off, rfl, hbb, cx⟩ := hr3 (c + 1) hc1
              obtain ⟨y, hy1⟩ : ∃ y : Int, hd ((ls a).drop (c + 1)) = y := ⟨_, rfl⟩
              have hy2 : (!((ls a).drop (c + 1)).isEmpty) = true := by
                have : ((ls a).drop (c + 1)).length ≠ 0 := by rw [List.length_drop, hlen]; omega
                cases hq : (ls a).drop (c + 1) with
                | nil => rw [hq] at this; exact absurd rfl this
                | cons p q => rfl
              have hy3 : (((ls a)[c + 1]?.getD 0 : Nat) : Int) = y := by
                rw [← hy1, ← hd_get _ (by rw [List.length_drop, hlen]; omega), List.getElem?_drop]
              rw [hy1, hy2] at HX
              dsimp only at cx
              rw [hy3] at cx
              have t1 : (y != y) = false := by simp
              have t3 : (c : Int) + 1 < (len : Int) := by omega
              have t4 : (0 : Int) ≤ (c : Int) + 1 := by omega
              clear h2 hG hy hr1 hr2 hr3 hr4 hy1 hy2 hy3 hx hlen
              go_wp2_with (first
                | (go_at_call 51; (with_reducible refine HI.out.mono ?_); rintro e wq ⟨rfl, rfl⟩)
                | (go_at_call 53; (with_reducible refine HX.out.mono ?_); rintro e wq ⟨rfl, rfl⟩)
                | (go_at_call 82; (with_reducible refine HD.out.mono ?_); rintro e wq ⟨rfl, rfl⟩))
              go_roundw
              case rel => exact ⟨(x : Int) + 1, by omega, by omega, rfl, rfl, HG2.out⟩
              case measure => simp only [intOf]; omega
            · have hy0 : (ls a).drop (c + 1) = [] := List.drop_eq_nil_of_le (by rw [hlen]; omega)
              rw [hy0, show hd [] = 0 from rfl, show (!([] : List Nat).isEmpty) = false from rfl] at HX
              have t3 : ¬ (c : Int) + 1 < (len : Int) := by omega
              clear h2 hG hy hr1 hr2 hr3 hr4 hx hlen hy0
              go_wp2_with (first
                | (go_at_call 51; (with_reducible refine HI.out.mono ?_); rintro e wq ⟨rfl, rfl⟩)
                | (go_at_call 53; (with_reducible refine HX.out.mono ?_); rintro e wq ⟨rfl, rfl⟩)
                | (go_at_call 82; (with_reducible refine HD.out.mono ?_); rintro e wq ⟨rfl, rfl⟩))
              go_roundw
              case rel => exact ⟨(x : Int) + 1, by omega, by omega, rfl, rfl, HG2.out⟩
              case measure => simp only [intOf]; omega
          · have hno : ∀ a, a < m → ∀ y ∈ ls a, (y : Int) ≠ x := fun a ha y hy e => hin ⟨a, ha, y, hy, e⟩
            have HI := Lib.hid (lone x h2 hno)
            have HX := Lib.hid (next_no x (lone x h2 hno))
            have HD := Lib.hid (din_none x h2.dr (fun a ha => h2.len ha) hno)
            clear hin hno h2 hG
            go_wp2_with (first
              | (go_at_call 51; (with_reducible refine HI.out.mono ?_); rintro e wq ⟨rfl, rfl⟩)
              | (go_at_call 53; (with_reducible refine HX.out.mono ?_); rintro e wq ⟨rfl, rfl⟩)
              | (go_at_call 82; (with_reducible refine HD.out.mono ?_); rintro e wq ⟨rfl, rfl⟩))
            go_roundw
            case rel => exact ⟨x + 1, by omega, by omega, rfl, rfl, HG2.out⟩
            case measure => simp only [intOf]; omega
        · have hle' : (n : Int) < x := by omega
          clear h2 hG
          go_wp2_with fail
          go_ret
          exact ⟨rfl, HG.out.trans HG2.out⟩
end
end Go.Proofs.Ytlgdeadghmbfmaa
