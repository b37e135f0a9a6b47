/- The document's rows of layer 7 in memory; Row, In. -/
import Derived.Test.YtlgdeadghmbfmaaCa
import Derived.Test.YtlgdeadghmbfmaaMo
namespace Go.Proofs.Ytlgdeadghmbfmaa
open Go.RowKit

/-- A slice that reads as a row, in a block that N leaves out. -/
def RowIn (N : Nat → Prop) (w : World) (v : Value) (l : List Nat) : Prop :=
  ∃ A cap, v = .slice A l.length cap ∧ l.length ≤ cap ∧ (A = none → cap = 0) ∧ IntsIn w A l.length (fun i => (l[i]?.getD 0 : Nat)) ∧ ∀ bb off, A = some ⟨bb, off, none⟩ → ¬ N bb
theorem IntsIn.but {w w' : World} {A : Option Addr} {len : Nat} {z : Nat → Int} {X : Nat → Prop} (h : IntsIn w A len z) (hb : But X w w') (hX : ∀ bb off, A = some ⟨bb, off, none⟩ → ¬ X bb) : IntsIn w' A len z := fun i hi => by
  obtain ⟨b, off, e, hlt, hc⟩ := h i hi
  refine ⟨b, off, e, Nat.lt_of_lt_of_le hlt hb.size, ?_⟩
  have h1 := hb.block b hlt (hX b off e)
  have h2 : w'.cell? ⟨b, off + i, none⟩ = w.cell? ⟨b, off + i, none⟩ := by unfold World.cell?; simp only [h1]
  rw [h2]; exact hc
theorem RowIn.but {N X : Nat → Prop} {w w' : World} {v : Value} {l : List Nat} (h : RowIn N w v l) (hb : But X w w') (hX : ∀ k, X k → N k) : RowIn N w' v l := by
  obtain ⟨A, cap, e, h1, h2, h3, h4⟩ := h
  exact ⟨A, cap, e, h1, h2, h3.but hb fun bb off e q => h4 bb off e (hX bb q), h4⟩
theorem rowIn_nil (N : Nat → Prop) (w : World) : RowIn N w (.slice none 0 0) [] := ⟨none, 0, rfl, Nat.le_refl _, fun _ => rfl, fun i hi => absurd hi (Nat.not_lt_zero _), fun _ _ e => by cases e⟩
/-- The document's rows. -/
structure DrV (N : Nat → Prop) (rb gL n m : Nat) (ls : Nat → List Nat) (w : World) : Prop where
  hn : n ≤ 4096
  hm : m ≤ 4096
  nr : N rb
  nL : N gL
  ne : gL ≠ rb
  own : Blk w rb 72 #[.int .i64 n, .slice (some ⟨gL, 0, none⟩) m m]
  rows : ∃ (V : Nat → Value) (S : Array Value), m ≤ S.size ∧ Blk w gL 27 S ∧ (∀ k, k < m → S[k]? = some (V k)) ∧ ∀ k, k < m → RowIn N w (V k) (ls k)
section
variable {N : Nat → Prop} {rb gL n m : Nat} {ls : Nat → List Nat} {w w' : World}
theorem DrV.but {X : Nat → Prop} (h : DrV N rb gL n m ls w) (hb : But X w w') (hX : ∀ k, X k → N k) (h1 : ¬ X rb) (h2 : ¬ X gL) : DrV N rb gL n m ls w' :=
  ⟨h.hn, h.hm, h.nr, h.nL, h.ne, h.own.but hb h1, let ⟨V, S, a, c, d, e⟩ := h.rows; ⟨V, S, a, c.but hb h2, d, fun k hk => (e k hk).but hb hX⟩⟩
theorem DrV.nob (h : DrV N rb gL n m ls w) (hb : But Nob w w') : DrV N rb gL n m ls w' := h.but hb (fun _ q => q.elim) id id
theorem DrV.cells (h : DrV N rb gL n m ls w) : w.cell? ⟨rb, 0, none⟩ = some (.int .i64 n) ∧ w.cell? ⟨rb, 1, none⟩ = some (.slice (some ⟨gL, 0, none⟩) m m) := ⟨h.own.cell 0, h.own.cell 1⟩
theorem DrV.row (h : DrV N rb gL n m ls w) {k : Nat} (hk : k < m) : ∃ v, w.cell? ⟨gL, k, none⟩ = some v ∧ RowIn N w v (ls k) := by
  obtain ⟨V, S, a, c, d, e⟩ := h.rows
  exact ⟨V k, (c.cell _).trans (d k hk), e k hk⟩
set_option maxHeartbeats 1000000 in
theorem drow_in (k : Nat) (h : DrV N rb gL n m ls w) (hk : k < m) : Calls Try.prog 81 #[.pointer (some ⟨rb, 0, none⟩), .int .i64 k] w fun e w' => ∃ v, e = .returned v ∧ RowIn N w v (ls k) ∧ w = w' := by
  obtain ⟨c0, c1⟩ := h.cells
  obtain ⟨v, hv, hR⟩ := h.row hk
  have k0 : (0 : Int) ≤ (k : Int) := by omega
  have k1 : (k : Int) < (m : Int) := by omega
  have k2 : decide (m ≤ k) = false := decide_eq_false (by omega)
  have HR := Lib.hid hR
  clear h hR
  go_enter Try.func81, Try.ntmps81
  go_wp2
  go_ret
  exact ⟨v, rfl, HR.out, rfl⟩
set_option maxHeartbeats 1000000 in
theorem drow_out (k : Int) (h : DrV N rb gL n m ls w) (hk : inB k m = false) : Calls Try.prog 81 #[.pointer (some ⟨rb, 0, none⟩), .int .i64 k] w fun e w' => e = .returned (.slice none 0 0) ∧ w = w' := by
  obtain ⟨c0, c1⟩ := h.cells
  clear h
  by_cases k0 : k < 0
  · go_enter Try.func81, Try.ntmps81
    go_wp2
    go_ret
    exact ⟨rfl, rfl⟩
  · have k1 : (m : Int) ≤ k := by simp [inB] at hk; omega
    clear hk
    go_enter Try.func81, Try.ntmps81
    go_wp2
    go_ret
    exact ⟨rfl, rfl⟩
/-- In which row a node is, and at which place: the first ones. -/
def Found (ls : Nat → List Nat) (m : Nat) (x : Int) (i k : Int) : Prop :=
  (i = -1 ∧ k = -1 ∧ ∀ a, a < m → ∀ y ∈ ls a, (y : Int) ≠ x) ∨ ∃ a c : Nat, i = a ∧ k = c ∧ a < m ∧ c < (ls a).length ∧ (((ls a)[c]?.getD 0 : Nat) : Int) = x
set_option maxRecDepth 100000 in
set_option maxHeartbeats 4000000 in
theorem din_any (x : Int) (h : DrV N rb gL n m ls w) (hL : ∀ a, a < m → (ls a).length ≤ 4096) : Calls Try.prog 82 #[.pointer (some ⟨rb, 0, none⟩), .int .i64 x] w fun e w' => ∃ i k : Int, e = .returned (.tuple #[.int .i64 i, .int .i64 k]) ∧ Found ls m x i k ∧ w = w' := by
  obtain ⟨c0, c1⟩ := h.cells
  have hm4 := h.hm
  have H := Lib.hid h; have HL := Lib.hid hL
  clear h hL
  go_enter Try.func82, Try.ntmps82
  go_wp2_with fail
  go_loopw [15, 22] (fun t _ wr => ∃ a : Nat, a ≤ m ∧ t = .int .i64 a ∧ w = wr ∧ ∀ a', a' < a → ∀ y ∈ ls a', (y : Int) ≠ x) (fun t _ _ => m - (intOf t).toNat)
  case atStart => exact ⟨0, Nat.zero_le _, rfl, rfl, fun a' ha => absurd ha (Nat.not_lt_zero _)⟩
  case round =>
    obtain ⟨a, ha, rfl, rfl, hno⟩ := hrel
    by_cases hlt : a < m
    · obtain ⟨v, hv, A, cap, rfl, hc1, hc2, hIn, hc3⟩ := H.out.row hlt
      have a0 : (0 : Int) ≤ (a : Int) := by omega
      have a1 : (a : Int) < (m : Int) := by omega
      have hl4 := HL.out a hlt
      have HNO := Lib.hid hno; have HIN := Lib.hid hIn
      clear hno hIn hc2 hc3
      go_wp2_with fail
      go_loopw [22] (fun t wr => ∃ c : Nat, c ≤ (ls a).length ∧ t = .int .i64 c ∧ w = wr ∧ ∀ c', c' < c → (((ls a)[c']?.getD 0 : Nat) : Int) ≠ x) (fun t _ => (ls a).length - (intOf t).toNat)
      case atStart => exact ⟨0, Nat.zero_le _, rfl, rfl, fun c' hc => absurd hc (Nat.not_lt_zero _)⟩
      case round =>
        obtain ⟨c, hc, rfl, rfl, hnc⟩ := hrel
        have HNC := Lib.hid hnc; clear hnc
        by_cases hlc : c < (ls a).length
        · obtain ⟨bb, off, rfl, hbb, hcx⟩ := HIN.out c hlc
          have k0 : (0 : Int) ≤ (c : Int) := by omega
          have k1 : (c : Int) < ((ls a).length : Int) := by omega
          obtain ⟨y, hy⟩ : ∃ y : Int, y = (((ls a)[c]?.getD 0 : Nat) : Int) := ⟨_, rfl⟩
          dsimp only at hcx
          rw [← hy] at hcx
          by_cases hyx : y = x
          · subst hyx
            have tq : (y == y) = true := by simp
            have HY := Lib.hid hy; clear hy
            go_wp2_with fail
            go_ret2
            exact ⟨a, c, rfl, .inr ⟨a, c, rfl, rfl, hlt, hlc, HY.out.symm⟩, rfl⟩
          · have tq : (y == x) = false := by simpa using hyx
            have HY := Lib.hid hy; have HYX := Lib.hid hyx; clear hy hyx
            go_wp2_with fail
            go_roundw
            case rel => exact ⟨c + 1, hlc, by go_num, trivial, fun c' hc' => by
              by_cases e : c' = c
              · rw [e, ← HY.out]; exact HYX.out
              · exact HNC.out c' (by omega)⟩
            case measure => simp [intOf]; omega
        · obtain rfl : c = (ls a).length := by omega
          go_wp2_with fail
          go_roundw
          case rel => exact ⟨a + 1, hlt, by go_num, trivial, fun a' ha' y hy => by
            by_cases e : a' = a
            · subst e
              obtain ⟨c', hc', e⟩ := List.mem_iff_getElem.1 hy
              have := HNC.out c' hc'
              rwa [List.getElem?_eq_getElem hc', e] at this
            · exact HNO.out a' (by omega) y hy⟩
          case measure => simp [intOf]; omega
    · obtain rfl : a = m := by omega
      have HNO := Lib.hid hno; clear hno
      go_wp2_with fail
      go_ret2
      exact ⟨-1, -1, rfl, .inl ⟨rfl, rfl, HNO.out⟩, rfl⟩
end
end Go.Proofs.Ytlgdeadghmbfmaa
