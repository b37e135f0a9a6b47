/- A ring as it lies in memory; slot, turn, Len, Room. -/
import Derived.Test.YtlgdeadghmbfmaaBu
namespace Go.Proofs.Ytlgdeadghmbfmaa
open Go.RowKit

/-- A ring's block and its slots' block; V: what stands at each place. -/
structure RgV (b g m room first n : Nat) (V : Nat → Int) (w : World) : Prop where
  lim : room ≤ 4096
  hm : m ≤ room ∧ (m = room ∨ 4 ≤ m)
  hn : n ≤ m
  hf : first < m
  ne : g ≠ b
  own : Blk w b 87 #[.slice (some ⟨g, 0, none⟩) m m, .int .i64 first, .int .i64 n, .int .i64 room]
  row : ∃ S : Array Value, S.size = m ∧ Blk w g 3 S ∧ ∀ i, i < m → S[(first + i) % m]? = some (.int .i64 (V i))
section
variable {b g m room first n : Nat} {V : Nat → Int} {w w' : World}
theorem RgV.drewN (h : RgV b g m room first n V w) (k : Nat) : RgV b g m room first n V (w.drewN k) := ⟨h.lim, h.hm, h.hn, h.hf, h.ne, h.own, h.row⟩
theorem RgV.but {X : Nat → Prop} (h : RgV b g m room first n V w) (hb : But X w w') (h1 : ¬ X b) (h2 : ¬ X g) : RgV b g m room first n V w' :=
  ⟨h.lim, h.hm, h.hn, h.hf, h.ne, h.own.but hb h1, let ⟨S, a, c, d⟩ := h.row; ⟨S, a, c.but hb h2, d⟩⟩
theorem RgV.load (h : RgV b g m room first n V w) {i : Nat} (hi : i < m) : w.cell? ⟨g, (first + i) % m, none⟩ = some (.int .i64 (V i)) := by
  obtain ⟨S, _, c, d⟩ := h.row
  rw [c.cell]; exact d i hi
theorem RgV.free (h : RgV b g m room first n V w) (o : Nat) : w.frozen? ⟨g, o, none⟩ = false := let ⟨_, _, c, _⟩ := h.row; c.free o
theorem RgV.congr {V' : Nat → Int} (h : RgV b g m room first n V w) (hV : ∀ i, i < m → V i = V' i) : RgV b g m room first n V' w :=
  ⟨h.lim, h.hm, h.hn, h.hf, h.ne, h.own, let ⟨S, a, c, d⟩ := h.row; ⟨S, a, c, fun i hi => by rw [d i hi, hV i hi]⟩⟩
theorem mod_inj {a m i j : Nat} (hi : i < m) (hj : j < m) (h : (a + i) % m = (a + j) % m) : i = j := by
  have h1 : (a + i) % m = (a % m + i) % m := by rw [Nat.mod_add_mod]
  have h2 : (a + j) % m = (a % m + j) % m := by rw [Nat.mod_add_mod]
  have hr := Nat.mod_lt a (show 0 < m by omega)
  generalize a % m = r at *
  rw [h1, h2] at h
  have e1 : (r + i) % m = if r + i < m then r + i else r + i - m := by
    split
    · exact Nat.mod_eq_of_lt (by assumption)
    · rw [Nat.mod_eq_sub_mod (by omega), Nat.mod_eq_of_lt (by omega)]
  have e2 : (r + j) % m = if r + j < m then r + j else r + j - m := by
    split
    · exact Nat.mod_eq_of_lt (by assumption)
    · rw [Nat.mod_eq_sub_mod (by omega), Nat.mod_eq_of_lt (by omega)]
  rw [e1, e2] at h
  split at h <;> split at h <;> omega
/-- One place more is written. -/
def upd (V : Nat → Int) (i : Nat) (x : Int) : Nat → Int := fun j => if j = i then x else V j
theorem RgV.store (h : RgV b g m room first n V w) {i : Nat} (hi : i < m) (x : Int) : RgV b g m room first n (upd V i x) (w.setCell ⟨g, (first + i) % m, none⟩ (.int .i64 x)) := by
  obtain ⟨S, a, c, d⟩ := h.row
  refine ⟨h.lim, h.hm, h.hn, h.hf, h.ne, h.own.far (by exact h.ne.symm) _, S.setIfInBounds ((first + i) % m) (.int .i64 x), by simpa using a, c.set_ _ _, fun j hj => ?_⟩
  have hlt : (first + i) % m < S.size := by rw [a]; exact Nat.mod_lt _ (by omega)
  rw [Array.getElem?_setIfInBounds]
  unfold upd
  by_cases e : j = i
  · subst e; rw [if_pos rfl, if_pos rfl, if_pos hlt]
  · rw [if_neg (fun q => e (mod_inj hj hi q.symm)), if_neg e]; exact d j hj
theorem RgV.cells (h : RgV b g m room first n V w) :
    w.cell? ⟨b, 0, none⟩ = some (.slice (some ⟨g, 0, none⟩) m m) ∧ w.cell? ⟨b, 1, none⟩ = some (.int .i64 first) ∧ w.cell? ⟨b, 2, none⟩ = some (.int .i64 n) ∧ w.cell? ⟨b, 3, none⟩ = some (.int .i64 room) :=
  ⟨h.own.cell 0, h.own.cell 1, h.own.cell 2, h.own.cell 3⟩
theorem RgV.setN (h : RgV b g m room first n V w) {k : Nat} (hk : k ≤ m) : RgV b g m room first k V (w.setCell ⟨b, 2, none⟩ (.int .i64 k)) := by
  refine ⟨h.lim, h.hm, hk, h.hf, h.ne, h.own.set_ 2 _, ?_⟩
  obtain ⟨S, a, c, d⟩ := h.row
  exact ⟨S, a, c.far h.ne _, d⟩
theorem RgV.setF (h : RgV b g m room first n V w) {k : Nat} {V' : Nat → Int} (hk : k < m) (hV : ∀ i, i < m → ∃ j, j < m ∧ V' i = V j ∧ (k + i) % m = (first + j) % m) : RgV b g m room k n V' (w.setCell ⟨b, 1, none⟩ (.int .i64 k)) := by
  refine ⟨h.lim, h.hm, h.hn, hk, h.ne, h.own.set_ 1 _, ?_⟩
  obtain ⟨S, a, c, d⟩ := h.row
  refine ⟨S, a, c.far h.ne _, fun i hi => ?_⟩
  obtain ⟨j, hj, e1, e2⟩ := hV i hi
  rw [e2, d j hj, e1]
end
/-- The places by one further. -/
def fwd (m : Nat) (V : Nat → Int) : Nat → Int := fun j => V ((j + 1) % m)
def bwd (m : Nat) (V : Nat → Int) : Nat → Int := fun j => V ((j + (m - 1)) % m)

set_option maxHeartbeats 1000000 in
theorem slot_any (b g m room first n : Nat) (V : Nat → Int) (i : Nat) (w : World) (h : RgV b g m room first n V w) (hi : i < m) :
    Calls Try.prog 59 #[.pointer (some ⟨b, 0, none⟩), .int .i64 i] w fun e w' => e = .returned (.pointer (some ⟨g, (first + i) % m, none⟩)) ∧ RgV b g m room first n V w' ∧ But Nob w w' := by
  obtain ⟨c0, c1, -, -⟩ := h.cells
  have l1 := h.lim; have l2 := h.hm.1; have l3 := h.hf
  have H := Lib.hid h; clear h
  obtain ⟨q, hq⟩ : ∃ q, q = (first + i) % m := ⟨_, rfl⟩
  have hlt : q < m := by rw [hq]; exact Nat.mod_lt _ (by omega)
  rw [← hq]
  have hs : IntKind.i64.wrap ((first : Int) + i) = (first : Int) + i := IntWalk.i64_in _ (by omega)
  have hr : ((first : Int) + i).tmod (m : Int) = (q : Int) := by rw [Int.tmod_eq_emod_of_nonneg (by omega), hq]; rfl
  clear hq
  have h0 : (0 : Int) ≤ (q : Int) := by omega
  have h1 : (q : Int) < (m : Int) := by omega
  have hz : ¬ (m : Int) = 0 := by omega
  go_enter Try.func59, Try.ntmps59
  go_wp2_with fail
  go_quiet (fail)
  go_wp2
  go_ret
  exact ⟨rfl, H.out.drewN nq, (But.refl _ _).drewN nq⟩
end Go.Proofs.Ytlgdeadghmbfmaa
