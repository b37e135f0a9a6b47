/- A ring's small methods: turn, Len, Room, New, behind. -/
import Derived.Test.YtlgdeadghmbfmaaRs
import Derived.StillTailTactics
import Derived.Laws.MakeOwn
namespace Go.Proofs.Ytlgdeadghmbfmaa
open Go.RowKit

theorem fwd_step {first m i : Nat} (_hf : first < m) (_hi : i < m) : ((first + 1) % m + i) % m = (first + (i + 1) % m) % m := by
  rw [Nat.mod_add_mod, Nat.add_mod_mod]; congr 1; omega
theorem bwd_step {first m i : Nat} (_hf : first < m) (_hi : i < m) : ((first + (m - 1)) % m + i) % m = (first + (i + (m - 1)) % m) % m := by
  rw [Nat.mod_add_mod, Nat.add_mod_mod]; congr 1; omega
theorem RgV.turnF {b g m room first n : Nat} {V : Nat → Int} {w : World} (h : RgV b g m room first n V w) : RgV b g m room ((first + 1) % m) n (fwd m V) (w.setCell ⟨b, 1, none⟩ (.int .i64 ((first + 1) % m : Nat))) :=
  h.setF (Nat.mod_lt _ (by have := h.hf; omega)) fun i hi => ⟨(i + 1) % m, Nat.mod_lt _ (by omega), rfl, fwd_step h.hf hi⟩
theorem RgV.turnB {b g m room first n : Nat} {V : Nat → Int} {w : World} (h : RgV b g m room first n V w) : RgV b g m room ((first + (m - 1)) % m) n (bwd m V) (w.setCell ⟨b, 1, none⟩ (.int .i64 ((first + (m - 1)) % m : Nat))) :=
  h.setF (Nat.mod_lt _ (by have := h.hf; omega)) fun i hi => ⟨(i + (m - 1)) % m, Nat.mod_lt _ (by omega), rfl, bwd_step h.hf hi⟩
def Of (b : Nat) : Nat → Prop := fun k => k = b
set_option maxRecDepth 100000 in
set_option maxHeartbeats 1000000 in
theorem turn_fwd (b g m room first n : Nat) (V : Nat → Int) (w : World) (h : RgV b g m room first n V w) :
    Calls Try.prog 58 #[.pointer (some ⟨b, 0, none⟩), .int .i64 1] w fun e w' => e = .returned (.tuple #[]) ∧ RgV b g m room ((first + 1) % m) n (fwd m V) w' ∧ But (Of b) w w' := by
  obtain ⟨c0, c1, -, -⟩ := h.cells
  have f1 := h.own.free 1
  have l1 := h.lim; have l2 := h.hm.1; have l3 := h.hf
  have H := Lib.hid h.turnF; 
  have H0 := Lib.hid h; clear h
  obtain ⟨q, hq⟩ : ∃ q, q = (first + 1) % m := ⟨_, rfl⟩
  have hlt : q < m := by rw [hq]; exact Nat.mod_lt _ (by omega)
  have hr : ((first : Int) + 1 + m).tmod (m : Int) = (q : Int) := by rw [Int.tmod_eq_emod_of_nonneg (by omega), Int.add_emod_right, hq]; rfl
  have H1 : Hid (RgV b g m room q n (fwd m V) ((w.drew).setCell ⟨b, 1, none⟩ (.int .i64 q))) := by
    have := (H0.out.drewN 1).turnF; rw [← hq] at this; exact this
  clear H
  have hs : IntKind.i64.wrap ((first : Int) + 1) = (first : Int) + 1 := IntWalk.i64_in _ (by omega)
  have hs2 : IntKind.i64.wrap ((first : Int) + 1 + m) = (first : Int) + 1 + m := IntWalk.i64_in _ (by omega)
  rw [← hq]
  clear hq
  have h0 : (0 : Int) ≤ (q : Int) := by omega
  have h1 : (q : Int) < (m : Int) := by omega
  have hz : ¬ m = 0 := by omega
  go_enter Try.func58, Try.ntmps58
  go_wp2_with fail
  go_still_tail 21, (by kernel_rfl)
  change wpList _ _ _ _ _ w.drew
  go_wp2
  go_end0
  exact ⟨rfl, H1.out, (But.refl _ _).drew.set _ _ (.inl rfl)⟩
set_option maxRecDepth 100000 in
set_option maxHeartbeats 1000000 in
theorem turn_bwd (b g m room first n : Nat) (V : Nat → Int) (w : World) (h : RgV b g m room first n V w) :
    Calls Try.prog 58 #[.pointer (some ⟨b, 0, none⟩), .int .i64 (-1)] w fun e w' => e = .returned (.tuple #[]) ∧ RgV b g m room ((first + (m - 1)) % m) n (bwd m V) w' ∧ But (Of b) w w' := by
  obtain ⟨c0, c1, -, -⟩ := h.cells
  have f1 := h.own.free 1
  have l1 := h.lim; have l2 := h.hm.1; have l3 := h.hf
  have H0 := Lib.hid h; clear h
  obtain ⟨q, hq⟩ : ∃ q, q = (first + (m - 1)) % m := ⟨_, rfl⟩
  have hlt : q < m := by rw [hq]; exact Nat.mod_lt _ (by omega)
  have hr : ((first : Int) + -1 + m).tmod (m : Int) = (q : Int) := by
    rw [Int.tmod_eq_emod_of_nonneg (by omega), hq, show (first : Int) + -1 + m = ((first + (m - 1) : Nat) : Int) by omega]; rfl
  have H1 : Hid (RgV b g m room q n (bwd m V) ((w.drew).setCell ⟨b, 1, none⟩ (.int .i64 q))) := by
    have := (H0.out.drewN 1).turnB; rw [← hq] at this; exact this
  have hs : IntKind.i64.wrap ((first : Int) + -1) = (first : Int) + -1 := IntWalk.i64_in _ (by omega)
  have hs2 : IntKind.i64.wrap ((first : Int) + -1 + m) = (first : Int) + -1 + m := IntWalk.i64_in _ (by omega)
  rw [← hq]
  clear hq
  have h0 : (0 : Int) ≤ (q : Int) := by omega
  have h1 : (q : Int) < (m : Int) := by omega
  have hz : ¬ m = 0 := by omega
  go_enter Try.func58, Try.ntmps58
  go_wp2_with fail
  go_still_tail 21, (by kernel_rfl)
  change wpList _ _ _ _ _ w.drew
  go_wp2
  go_end0
  exact ⟨rfl, H1.out, (But.refl _ _).drew.set _ _ (.inl rfl)⟩

/-- A ring: what it has, in order. -/
def Rg (b : Nat) (G : Option Nat) (l : List Int) (room : Nat) (w : World) : Prop :=
  (G = none ∧ l = [] ∧ room ≤ 4096 ∧ Blk w b 87 #[.slice none 0 0, .int .i64 0, .int .i64 0, .int .i64 room]) ∨
  ∃ g m first V, G = some g ∧ RgV b g m room first l.length V w ∧ ∀ j, j < l.length → V j = l[j]?.getD 0
theorem Rg.room_le {b : Nat} {G : Option Nat} {l : List Int} {room : Nat} {w : World} (h : Rg b G l room w) : room ≤ 4096 := by
  rcases h with ⟨_, _, h, _⟩ | ⟨_, _, _, _, _, h, _⟩
  · exact h
  · exact h.lim
theorem Rg.len_le {b : Nat} {G : Option Nat} {l : List Int} {room : Nat} {w : World} (h : Rg b G l room w) : l.length ≤ room := by
  rcases h with ⟨_, rfl, _, _⟩ | ⟨_, _, _, _, _, h, _⟩
  · simp
  · exact Nat.le_trans h.hn h.hm.1
theorem Rg.head {b : Nat} {G : Option Nat} {l : List Int} {room : Nat} {w : World} (h : Rg b G l room w) :
    w.cell? ⟨b, 2, none⟩ = some (.int .i64 l.length) ∧ w.cell? ⟨b, 3, none⟩ = some (.int .i64 room) := by
  rcases h with ⟨_, rfl, _, h⟩ | ⟨_, _, _, _, _, h, _⟩
  · exact ⟨h.cell 2, h.cell 3⟩
  · exact ⟨h.cells.2.2.1, h.cells.2.2.2⟩
theorem Rg.lt {b : Nat} {G : Option Nat} {l : List Int} {room : Nat} {w : World} (h : Rg b G l room w) : b < w.heap.size := by
  rcases h with ⟨_, rfl, _, h⟩ | ⟨_, _, _, _, _, h, _⟩
  · exact h.lt
  · exact h.own.lt
theorem Rg.ltG {b g : Nat} {l : List Int} {room : Nat} {w : World} (h : Rg b (some g) l room w) : g < w.heap.size := by
  rcases h with ⟨h, _⟩ | ⟨_, _, _, _, e, h, _⟩
  · cases h
  · obtain ⟨S, _, c, _⟩ := h.row; cases e; exact c.lt
/-- The blocks of a ring. -/
def Own2 (b : Nat) (G : Option Nat) : Nat → Prop := fun k => k = b ∨ G = some k
theorem Rg.but {b : Nat} {G : Option Nat} {l : List Int} {room : Nat} {w w' : World} {X : Nat → Prop} (h : Rg b G l room w) (hb : But X w w') (hX : ∀ k, Own2 b G k → ¬ X k) : Rg b G l room w' := by
  rcases h with ⟨e, rfl, hr, h⟩ | ⟨g, m, first, V, rfl, h, hV⟩
  · exact .inl ⟨e, rfl, hr, h.but hb (hX b (.inl rfl))⟩
  · exact .inr ⟨g, m, first, V, rfl, h.but hb (hX b (.inl rfl)) (hX g (.inr rfl)), hV⟩
set_option maxHeartbeats 1000000 in
theorem len_any (b : Nat) (n : Nat) (w : World) (h : w.cell? ⟨b, 2, none⟩ = some (.int .i64 n)) :
    Calls Try.prog 26 #[.pointer (some ⟨b, 0, none⟩)] w fun e w' => e = .returned (.int .i64 n) ∧ w = w' := by
  go_enter Try.func26, Try.ntmps26
  go_wp2
  go_ret
  exact ⟨rfl, rfl⟩
theorem len_nil (w : World) : Calls Try.prog 26 #[.pointer none] w fun e w' => e = .returned (.int .i64 0) ∧ w = w' := by
  go_enter Try.func26, Try.ntmps26
  go_wp2
  go_ret
  exact ⟨rfl, rfl⟩
theorem room_any (b : Nat) (n : Nat) (w : World) (h : w.cell? ⟨b, 3, none⟩ = some (.int .i64 n)) :
    Calls Try.prog 16 #[.pointer (some ⟨b, 0, none⟩)] w fun e w' => e = .returned (.int .i64 n) ∧ w = w' := by
  go_enter Try.func16, Try.ntmps16
  go_wp2
  go_ret
  exact ⟨rfl, rfl⟩
theorem room_nil (w : World) : Calls Try.prog 16 #[.pointer none] w fun e w' => e = .returned (.int .i64 0) ∧ w = w' := by
  go_enter Try.func16, Try.ntmps16
  go_wp2
  go_ret
  exact ⟨rfl, rfl⟩
theorem new_any (room : Int) (R : Nat) (hR : min (max room 0) 4096 = (R : Int)) (w : World) :
    Calls Try.prog 15 #[.int .i64 room] w fun e w' => e = .returned (.pointer (some ⟨w.heap.size, 0, none⟩)) ∧ Rg w.heap.size none [] R w' ∧ But Nob w w' := by
  go_enter Try.func15, Try.ntmps15
  go_wp2
  all_goals
    go_ret
    refine ⟨rfl, .inl ⟨rfl, rfl, by omega, ?_⟩, (But.refl _ _).alloc _⟩
    first
      | (rw [show (R : Int) = 0 by omega]; exact Blk.new _ _ _)
      | (rw [show (R : Int) = 4096 by omega]; exact Blk.new _ _ _)
      | (rw [show (R : Int) = room by omega]; exact Blk.new _ _ _)
end Go.Proofs.Ytlgdeadghmbfmaa
