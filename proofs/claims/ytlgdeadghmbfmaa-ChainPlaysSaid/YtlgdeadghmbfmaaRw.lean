/- A ring's widen. -/
import Derived.Test.YtlgdeadghmbfmaaRu
import Derived.Laws.CopyOwn
namespace Go.Proofs.Ytlgdeadghmbfmaa
open Go.RowKit

theorem add_addr (b j : Nat) : (⟨b, 0, none⟩ : Addr).add j = ⟨b, j, none⟩ := by unfold Addr.add; split <;> simp_all

set_option maxHeartbeats 1000000 in
theorem behind_none (b : Nat) (w : World) (h : w.cell? ⟨b, 2, none⟩ = some (.int .i64 0)) :
    Calls Try.prog 61 #[.pointer (some ⟨b, 0, none⟩), .int .i64 0] w fun e w' => e = .returned (.slice none 0 0) ∧ w = w' := by
  have hlen := len_any b 0 w h
  have HL := Lib.hid hlen; clear hlen
  go_enter Try.func61, Try.ntmps61
  go_wp2_with (go_at_call 26; (with_reducible refine HL.out.mono ?_); rintro e wq ⟨rfl, rfl⟩)
  go_ret
  exact ⟨rfl, rfl⟩
set_option maxHeartbeats 1000000 in
theorem widen_room (b g m room first n : Nat) (V : Nat → Int) (w : World) (h : RgV b g m room first n V w) (hn : n < m) :
    Calls Try.prog 57 #[.pointer (some ⟨b, 0, none⟩)] w fun e w' => e = .returned (.tuple #[]) ∧ RgV b g m room first n V w' ∧ But Nob w w' := by
  obtain ⟨c0, c1, c2, -⟩ := h.cells
  have H := Lib.hid h; clear h
  have t : decide (n < m) = true := by simpa using hn
  go_enter Try.func57, Try.ntmps57
  go_wp2_with fail
  go_quiet (fail)
  go_wp2
  refine bodyPost_ret (results_none rfl _ _ _) rfl ?_
  exact ⟨rfl, H.out.drewN nq, (But.refl _ _).drewN nq⟩
theorem splice_row {Z : List Value} {S : Array Value} {n N : Nat} {V : Nat → Int} (_hZ1 : Z.length = N) (hZ2 : ∀ i, i < N → Z[i]? = some (.int .i64 0)) (hS1 : S.size = n) (hS2 : ∀ j, j < n → S[j]? = some (.int .i64 (V (0 + j)))) :
    ∀ i, i < N → (splice Z 0 S.toList).toArray[(0 + i) % N]? = some (.int .i64 (if i < n then V i else 0)) := by
  intro i hi
  rw [Nat.zero_add, Nat.mod_eq_of_lt hi]
  simp only [splice, List.take_zero, List.nil_append, List.getElem?_toArray, Array.length_toList, Nat.zero_add, hS1]
  by_cases h : i < n
  · rw [List.getElem?_append_left (by simpa [hS1] using h), if_pos h, Array.getElem?_toList, hS2 i h, Nat.zero_add]
  · rw [List.getElem?_append_right (by simp [hS1]; omega), if_neg h, List.getElem?_drop, Array.length_toList, hS1, show n + (i - n) = i by omega, hZ2 i hi]
/-- What widen gives where no slot was free. -/
def WidP (b room n : Nat) (V : Nat → Int) (w : World) (e : Ending) (w' : World) : Prop :=
  ∃ g m V', e = .returned (.tuple #[]) ∧ w.heap.size ≤ g ∧ RgV b g m room 0 n V' w' ∧ n < m ∧ (∀ j, j < n → V' j = V j) ∧ But (Of b) w w'
set_option maxRecDepth 100000 in
set_option maxHeartbeats 2000000 in
theorem widen_nil (b room : Nat) (V : Nat → Int) (w : World) (h : Blk w b 87 #[.slice none 0 0, .int .i64 0, .int .i64 0, .int .i64 room]) (h0 : 0 < room) (h1 : room ≤ 4096) :
    Calls Try.prog 57 #[.pointer (some ⟨b, 0, none⟩)] w (WidP b room 0 V w) := by
  have c0 := h.cell 0; have c1 := h.cell 1; have c2 := h.cell 2; have c3 := h.cell 3
  simp only [List.getElem?_toArray, List.getElem?_cons_zero, List.getElem?_cons_succ] at c0 c1 c2 c3
  have hw0 : IntKind.i64.wrap 0 = 0 := rfl
  by_cases hr : room < 4
  · have hri : (room : Int) < 4 := by omega
    go_enter Try.func57, Try.ntmps57
    go_wp2_with fail
    go_quiet (fail)
    have hB : Hid (But (Of b) w (w.drewN nq)) := (But.refl _ _).drewN nq
    have hH : Hid (Blk (w.drewN nq) b 87 #[.slice none 0 0, .int .i64 0, .int .i64 0, .int .i64 room]) := h
    replace c0 : (w.drewN nq).cell? ⟨b, 0, none⟩ = some (.slice none 0 0) := c0
    replace c1 : (w.drewN nq).cell? ⟨b, 1, none⟩ = some (.int .i64 0) := c1
    replace c2 : (w.drewN nq).cell? ⟨b, 2, none⟩ = some (.int .i64 0) := c2
    replace c3 : (w.drewN nq).cell? ⟨b, 3, none⟩ = some (.int .i64 room) := c3
    clear h
    generalize w.drewN nq = w1 at *
    go_wp2_with fail
    go_still_tail 11, (by kernel_rfl)
    change wpList _ _ _ _ _ w1.drew
    have hB2 : Hid (But (Of b) w w1.drew) := hB.out.drew
    have hH2 : Blk w1.drew b 87 #[.slice none 0 0, .int .i64 0, .int .i64 0, .int .i64 room] := hH.out
    clear hB hH c0 c1 c2 c3
    generalize w1.drew = w2 at *
    clear w1
    obtain ⟨Z, hmk, hZ1, hZ2⟩ := make_ints w2 room room rfl (by omega)
    have HZ1 := Lib.hid hZ1; have HZ2 := Lib.hid hZ2; clear hZ1 hZ2
    have hlt := hH2.lt
    have hH3 := hH2.alloc (.cells Z.toArray 3)
    have hrow : Blk (w2.alloc (.cells Z.toArray 3)) w2.heap.size 3 Z.toArray := Blk.new _ _ _
    have hbe := behind_none b _ (hH3.cell 2)
    have c0 := hH3.cell 0; have c1 := hH3.cell 1
    have f0 := hH3.free 0; have f1 := hH3.free 1
    simp only [List.getElem?_toArray, List.getElem?_cons_zero, List.getElem?_cons_succ] at c0 c1
    have HBE := Lib.hid hbe
    have HH2 := Lib.hid hH2
    have HH3 := Lib.hid hH3
    have HROW := Lib.hid hrow
    clear hbe hH2 hH3 hrow
    have hc : Below w2.heap.size w2 (w2.alloc (.cells Z.toArray 3)) := (Below.refl _ _).alloc (Nat.le_refl _) _
    have HC := Lib.hid hc
    clear hc
    go_wp2_with (first
      | (go_at_call 61; (with_reducible refine HBE.out.mono ?_); rintro e wq ⟨rfl, rfl⟩)
      | (refine wpList_copy_splice rfl (.tmp 25) (.tmp 27) _ _ rfl 3 Try.underlying27 (by kernel_rfl) _ _ room room 0 0 rfl rfl w2.heap.size 0 Z 3 HROW.out [] (by simp) (fun h => absurd h (by simp)) (by rw [HZ1.out]; simp) (by simp) w2.heap.size w2 HC.out (Nat.le_refl _) ?_
         intro w4 hg4 hb4
         have hH4 := HH2.out.below hb4 hlt
         have c0 := hH4.cell 0; have c1 := hH4.cell 1
         have f0 := hH4.free 0; have f1 := hH4.free 1
         simp only [List.getElem?_toArray, List.getElem?_cons_zero, List.getElem?_cons_succ] at c0 c1
         have HH4 := Lib.hid hH4; clear hH4))
    go_end0
    have hg5 : Blk w4 w2.heap.size 3 Z.toArray := by have := hg4.out; rw [show splice Z 0 [] = Z by simp [splice]] at this; exact this
    refine ⟨w2.heap.size, room, fun _ => 0, rfl, hB2.out.size, ⟨h1, ⟨Nat.le_refl _, .inl rfl⟩, Nat.zero_le _, by omega, by omega, (HH4.out.set_ 0 _).set_ 1 _, Z.toArray, by simpa using HZ1.out, (hg5.far (by show _ ≠ b; omega) _).far (by show _ ≠ b; omega) _, fun i hi => ?_⟩, by omega, fun j hj => absurd hj (by omega), ?_⟩
    · have := HZ2.out ((0 + i) % room) (Nat.mod_lt _ (by omega)); simpa using this
    · exact ((hB2.out.step (But.of_below hb4) fun _ _ y => y).set ⟨b, 0, none⟩ _ (.inl rfl)).set ⟨b, 1, none⟩ _ (.inl rfl)
  · have hri : ¬ (room : Int) < 4 := by omega
    go_enter Try.func57, Try.ntmps57
    go_wp2_with fail
    go_quiet (fail)
    have hB : Hid (But (Of b) w (w.drewN nq)) := (But.refl _ _).drewN nq
    have hH : Hid (Blk (w.drewN nq) b 87 #[.slice none 0 0, .int .i64 0, .int .i64 0, .int .i64 room]) := h
    replace c0 : (w.drewN nq).cell? ⟨b, 0, none⟩ = some (.slice none 0 0) := c0
    replace c1 : (w.drewN nq).cell? ⟨b, 1, none⟩ = some (.int .i64 0) := c1
    replace c2 : (w.drewN nq).cell? ⟨b, 2, none⟩ = some (.int .i64 0) := c2
    replace c3 : (w.drewN nq).cell? ⟨b, 3, none⟩ = some (.int .i64 room) := c3
    clear h
    generalize w.drewN nq = w1 at *
    go_wp2_with fail
    go_still_tail 11, (by kernel_rfl)
    change wpList _ _ _ _ _ w1.drew
    have hB2 : Hid (But (Of b) w w1.drew) := hB.out.drew
    have hH2 : Blk w1.drew b 87 #[.slice none 0 0, .int .i64 0, .int .i64 0, .int .i64 room] := hH.out
    clear hB hH c0 c1 c2 c3
    generalize w1.drew = w2 at *
    clear w1
    obtain ⟨Z, hmk, hZ1, hZ2⟩ := make_ints w2 4 4 rfl (by omega)
    have HZ1 := Lib.hid hZ1; have HZ2 := Lib.hid hZ2; clear hZ1 hZ2
    have hlt := hH2.lt
    have hH3 := hH2.alloc (.cells Z.toArray 3)
    have hrow : Blk (w2.alloc (.cells Z.toArray 3)) w2.heap.size 3 Z.toArray := Blk.new _ _ _
    have hbe := behind_none b _ (hH3.cell 2)
    have c0 := hH3.cell 0; have c1 := hH3.cell 1
    have f0 := hH3.free 0; have f1 := hH3.free 1
    simp only [List.getElem?_toArray, List.getElem?_cons_zero, List.getElem?_cons_succ] at c0 c1
    have HBE := Lib.hid hbe
    have HH2 := Lib.hid hH2
    have HH3 := Lib.hid hH3
    have HROW := Lib.hid hrow
    clear hbe hH2 hH3 hrow
    have hc : Below w2.heap.size w2 (w2.alloc (.cells Z.toArray 3)) := (Below.refl _ _).alloc (Nat.le_refl _) _
    have HC := Lib.hid hc
    clear hc
    go_wp2_with (first
      | (go_at_call 61; (with_reducible refine HBE.out.mono ?_); rintro e wq ⟨rfl, rfl⟩)
      | (refine wpList_copy_splice rfl (.tmp 25) (.tmp 27) _ _ rfl 3 Try.underlying27 (by kernel_rfl) _ _ 4 4 0 0 rfl rfl w2.heap.size 0 Z 3 HROW.out [] (by simp) (fun h => absurd h (by simp)) (by rw [HZ1.out]; simp) (by simp) w2.heap.size w2 HC.out (Nat.le_refl _) ?_
         intro w4 hg4 hb4
         have hH4 := HH2.out.below hb4 hlt
         have c0 := hH4.cell 0; have c1 := hH4.cell 1
         have f0 := hH4.free 0; have f1 := hH4.free 1
         simp only [List.getElem?_toArray, List.getElem?_cons_zero, List.getElem?_cons_succ] at c0 c1
         have HH4 := Lib.hid hH4; clear hH4))
    go_end0
    have hg5 : Blk w4 w2.heap.size 3 Z.toArray := by have := hg4.out; rw [show splice Z 0 [] = Z by simp [splice]] at this; exact this
    refine ⟨w2.heap.size, 4, fun _ => 0, rfl, hB2.out.size, ⟨h1, ⟨by omega, .inr (Nat.le_refl _)⟩, Nat.zero_le _, by omega, by omega, (HH4.out.set_ 0 _).set_ 1 _, Z.toArray, by simpa using HZ1.out, (hg5.far (by show _ ≠ b; omega) _).far (by show _ ≠ b; omega) _, fun i hi => ?_⟩, by omega, fun j hj => absurd hj (by omega), ?_⟩
    · have := HZ2.out ((0 + i) % 4) (Nat.mod_lt _ (by omega)); simpa using this
    · exact ((hB2.out.step (But.of_below hb4) fun _ _ y => y).set ⟨b, 0, none⟩ _ (.inl rfl)).set ⟨b, 1, none⟩ _ (.inl rfl)
set_option maxRecDepth 100000 in
set_option maxHeartbeats 2000000 in
theorem widen_full (b g room first n : Nat) (V : Nat → Int) (w : World) (h : RgV b g n room first n V w) (hr : n < room) :
    Calls Try.prog 57 #[.pointer (some ⟨b, 0, none⟩)] w (WidP b room n V w) := by
  obtain ⟨c0, c1, c2, c3⟩ := h.cells
  have l1 := h.lim
  have l4 : 4 ≤ n := by have := h.hm; omega
  have hw0 : IntKind.i64.wrap (2 * (n : Int)) = 2 * (n : Int) := IntWalk.i64_in _ (by omega)
  have q1 : ¬ 2 * (n : Int) < 4 := by omega
  by_cases hr2 : room < 2 * n
  · have hri : (room : Int) < 2 * (n : Int) := by omega
    go_enter Try.func57, Try.ntmps57
    go_wp2_with fail
    go_quiet (fail)
    have hB : Hid (But (Of b) w (w.drewN nq)) := (But.refl _ _).drewN nq
    have hH : Hid (RgV b g n room first n V (w.drewN nq)) := h.drewN nq
    replace c0 : (w.drewN nq).cell? ⟨b, 0, none⟩ = some (.slice (some ⟨g, 0, none⟩) n n) := c0
    replace c1 : (w.drewN nq).cell? ⟨b, 1, none⟩ = some (.int .i64 first) := c1
    replace c2 : (w.drewN nq).cell? ⟨b, 2, none⟩ = some (.int .i64 n) := c2
    replace c3 : (w.drewN nq).cell? ⟨b, 3, none⟩ = some (.int .i64 room) := c3
    clear h
    generalize w.drewN nq = w1 at *
    go_wp2_with fail
    go_still_tail 11, (by kernel_rfl)
    change wpList _ _ _ _ _ w1.drew
    have hB2 : Hid (But (Of b) w w1.drew) := hB.out.drew
    have hH2 : RgV b g n room first n V w1.drew := hH.out.drewN 1
    clear hB hH c0 c1 c2 c3
    generalize w1.drew = w2 at *
    clear w1
    obtain ⟨N, hN⟩ : ∃ N : Nat, N = room := ⟨_, rfl⟩
    obtain ⟨Z, hmk, hZ1, hZ2⟩ := make_ints w2 N (room : Int) (by omega) (by omega)
    have HZ1 := Lib.hid hZ1; have HZ2 := Lib.hid hZ2; clear hZ1 hZ2
    have hlt := hH2.own.lt
    have hN4 : n < N ∧ N ≤ room ∧ (N = room ∨ 4 ≤ N) := by omega
    have HN := Lib.hid hN; clear hN
    have hH3 : RgV b g n room first n V (w2.alloc (.cells Z.toArray 3)) := hH2.but ((But.refl Nob _).alloc _) id id
    have hrow : Blk (w2.alloc (.cells Z.toArray 3)) w2.heap.size 3 Z.toArray := Blk.new _ _ _
    have hbe : Calls Try.prog 61 #[.pointer (some ⟨b, 0, none⟩), .int .i64 0] (w2.alloc (.cells Z.toArray 3)) (BehP b g n room first n V 0 _) := behind_any b g n room first n V 0 _ hH3 (by omega)
    have HBE := Lib.hid hbe
    have HROW := Lib.hid hrow
    have HH2 := Lib.hid hH2
    clear hbe hH2 hH3 hrow
    have hc : Below w2.heap.size w2 (w2.alloc (.cells Z.toArray 3)) := (Below.refl _ _).alloc (Nat.le_refl _) _
    have HC := Lib.hid hc
    clear hc
    go_wp2_with (first
      | (go_at_call 61; (with_reducible refine HBE.out.mono ?_); rintro e wq ⟨g2, S, rfl, hg2, hrow2, hS1, hS2, -, hbq⟩
         have HROW2 := Lib.hid (HROW.out.but hbq id)
         have HC2 := Lib.hid (HC.out.trans (hbq.below (B := w2.heap.size) (by simp) (fun _ _ x => x.elim)))
         rw [Nat.sub_zero] at hS1 hS2
         have HS1 := Lib.hid hS1; have HS2 := Lib.hid hS2; have HR2 := Lib.hid hrow2; clear hS1 hS2 hrow2 hbq)
      | (refine wpList_copy_splice rfl (.tmp 25) (.tmp 27) _ _ rfl 3 Try.underlying27 (by kernel_rfl) _ _ N N n n rfl rfl w2.heap.size 0 Z 3 HROW2.out S.toList (by rw [Array.length_toList, HS1.out]; show _ = min _ _; omega) (fun h => ⟨rfl, _, rfl, fun j v hj => by rw [add_addr, HR2.out.cell]; simpa using hj⟩) (by rw [HZ1.out, Array.length_toList, HS1.out]; omega) (by
           intro v hv
           obtain ⟨j, hj⟩ := List.getElem?_of_mem hv
           have hjl : j < n := by have := (List.getElem?_eq_some_iff.1 hj).1; rw [Array.length_toList, HS1.out] at this; exact this
           have := HS2.out j hjl; rw [Array.getElem?_toList, this] at hj; cases hj; rfl) w2.heap.size w2 HC2.out (Nat.le_refl _) ?_
         intro w4 hg4 hb4
         have hH4 := HH2.out.own.below hb4 hlt
         have c0 := hH4.cell 0; have c1 := hH4.cell 1
         have f0 := hH4.free 0; have f1 := hH4.free 1
         simp only [List.getElem?_toArray, List.getElem?_cons_zero, List.getElem?_cons_succ] at c0 c1
         have HH4 := Lib.hid hH4; clear hH4))
    go_end0
    obtain ⟨hn1, hn2, hn3⟩ := hN4
    refine ⟨w2.heap.size, N, fun i => if i < n then V i else 0, rfl, hB2.out.size, ⟨l1, ⟨hn2, hn3⟩, Nat.le_of_lt hn1, by omega, by omega, (HH4.out.set_ 0 _).set_ 1 _, (splice Z 0 S.toList).toArray, ?_, ((show Blk w4 w2.heap.size 3 (splice Z 0 S.toList).toArray from hg4.out).far (by show _ ≠ b; omega) _).far (by show _ ≠ b; omega) _, splice_row HZ1.out HZ2.out HS1.out HS2.out⟩, hn1, fun j hj => if_pos hj, ?_⟩
    · rw [List.size_toArray, length_splice _ _ _ (by rw [HZ1.out, Array.length_toList, HS1.out]; omega), HZ1.out]
    · exact ((hB2.out.step (But.of_below hb4) fun _ _ y => y).set ⟨b, 0, none⟩ _ (.inl rfl)).set ⟨b, 1, none⟩ _ (.inl rfl)
  · have hri : ¬ (room : Int) < 2 * (n : Int) := by omega
    go_enter Try.func57, Try.ntmps57
    go_wp2_with fail
    go_quiet (fail)
    have hB : Hid (But (Of b) w (w.drewN nq)) := (But.refl _ _).drewN nq
    have hH : Hid (RgV b g n room first n V (w.drewN nq)) := h.drewN nq
    replace c0 : (w.drewN nq).cell? ⟨b, 0, none⟩ = some (.slice (some ⟨g, 0, none⟩) n n) := c0
    replace c1 : (w.drewN nq).cell? ⟨b, 1, none⟩ = some (.int .i64 first) := c1
    replace c2 : (w.drewN nq).cell? ⟨b, 2, none⟩ = some (.int .i64 n) := c2
    replace c3 : (w.drewN nq).cell? ⟨b, 3, none⟩ = some (.int .i64 room) := c3
    clear h
    generalize w.drewN nq = w1 at *
    go_wp2_with fail
    go_still_tail 11, (by kernel_rfl)
    change wpList _ _ _ _ _ w1.drew
    have hB2 : Hid (But (Of b) w w1.drew) := hB.out.drew
    have hH2 : RgV b g n room first n V w1.drew := hH.out.drewN 1
    clear hB hH c0 c1 c2 c3
    generalize w1.drew = w2 at *
    clear w1
    obtain ⟨N, hN⟩ : ∃ N : Nat, N = 2 * n := ⟨_, rfl⟩
    obtain ⟨Z, hmk, hZ1, hZ2⟩ := make_ints w2 N (2 * (n : Int)) (by omega) (by omega)
    have HZ1 := Lib.hid hZ1; have HZ2 := Lib.hid hZ2; clear hZ1 hZ2
    have hlt := hH2.own.lt
    have hN4 : n < N ∧ N ≤ room ∧ (N = room ∨ 4 ≤ N) := by omega
    have HN := Lib.hid hN; clear hN
    have hH3 : RgV b g n room first n V (w2.alloc (.cells Z.toArray 3)) := hH2.but ((But.refl Nob _).alloc _) id id
    have hrow : Blk (w2.alloc (.cells Z.toArray 3)) w2.heap.size 3 Z.toArray := Blk.new _ _ _
    have hbe : Calls Try.prog 61 #[.pointer (some ⟨b, 0, none⟩), .int .i64 0] (w2.alloc (.cells Z.toArray 3)) (BehP b g n room first n V 0 _) := behind_any b g n room first n V 0 _ hH3 (by omega)
    have HBE := Lib.hid hbe
    have HROW := Lib.hid hrow
    have HH2 := Lib.hid hH2
    clear hbe hH2 hH3 hrow
    have hc : Below w2.heap.size w2 (w2.alloc (.cells Z.toArray 3)) := (Below.refl _ _).alloc (Nat.le_refl _) _
    have HC := Lib.hid hc
    clear hc
    go_wp2_with (first
      | (go_at_call 61; (with_reducible refine HBE.out.mono ?_); rintro e wq ⟨g2, S, rfl, hg2, hrow2, hS1, hS2, -, hbq⟩
         have HROW2 := Lib.hid (HROW.out.but hbq id)
         have HC2 := Lib.hid (HC.out.trans (hbq.below (B := w2.heap.size) (by simp) (fun _ _ x => x.elim)))
         rw [Nat.sub_zero] at hS1 hS2
         have HS1 := Lib.hid hS1; have HS2 := Lib.hid hS2; have HR2 := Lib.hid hrow2; clear hS1 hS2 hrow2 hbq)
      | (refine wpList_copy_splice rfl (.tmp 25) (.tmp 27) _ _ rfl 3 Try.underlying27 (by kernel_rfl) _ _ N N n n rfl rfl w2.heap.size 0 Z 3 HROW2.out S.toList (by rw [Array.length_toList, HS1.out]; show _ = min _ _; omega) (fun h => ⟨rfl, _, rfl, fun j v hj => by rw [add_addr, HR2.out.cell]; simpa using hj⟩) (by rw [HZ1.out, Array.length_toList, HS1.out]; omega) (by
           intro v hv
           obtain ⟨j, hj⟩ := List.getElem?_of_mem hv
           have hjl : j < n := by have := (List.getElem?_eq_some_iff.1 hj).1; rw [Array.length_toList, HS1.out] at this; exact this
           have := HS2.out j hjl; rw [Array.getElem?_toList, this] at hj; cases hj; rfl) w2.heap.size w2 HC2.out (Nat.le_refl _) ?_
         intro w4 hg4 hb4
         have hH4 := HH2.out.own.below hb4 hlt
         have c0 := hH4.cell 0; have c1 := hH4.cell 1
         have f0 := hH4.free 0; have f1 := hH4.free 1
         simp only [List.getElem?_toArray, List.getElem?_cons_zero, List.getElem?_cons_succ] at c0 c1
         have HH4 := Lib.hid hH4; clear hH4))
    go_end0
    obtain ⟨hn1, hn2, hn3⟩ := hN4
    refine ⟨w2.heap.size, N, fun i => if i < n then V i else 0, rfl, hB2.out.size, ⟨l1, ⟨hn2, hn3⟩, Nat.le_of_lt hn1, by omega, by omega, (HH4.out.set_ 0 _).set_ 1 _, (splice Z 0 S.toList).toArray, ?_, ((show Blk w4 w2.heap.size 3 (splice Z 0 S.toList).toArray from hg4.out).far (by show _ ≠ b; omega) _).far (by show _ ≠ b; omega) _, splice_row HZ1.out HZ2.out HS1.out HS2.out⟩, hn1, fun j hj => if_pos hj, ?_⟩
    · rw [List.size_toArray, length_splice _ _ _ (by rw [HZ1.out, Array.length_toList, HS1.out]; omega), HZ1.out]
    · exact ((hB2.out.step (But.of_below hb4) fun _ _ y => y).set ⟨b, 0, none⟩ _ (.inl rfl)).set ⟨b, 1, none⟩ _ (.inl rfl)
end Go.Proofs.Ytlgdeadghmbfmaa
