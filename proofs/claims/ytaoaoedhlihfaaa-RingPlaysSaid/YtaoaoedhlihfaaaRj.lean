/- The law file's do of layer 5: each kind of call. -/
import Derived.Test.YtaoaoedhlihfaaaRa
import Derived.Test.YtaoaoedhlihfaaaRi
namespace Go.Proofs.Ytaoaoedhlihfaaa
open Go.RowKit

theorem refPut_any (A : Option Addr) (len cap : Nat) (z : Nat → Int) (i : Nat) (x : Int) (w : World) (h : SL w A len cap z) (hi : i ≤ len) (hl : len ≤ 4096) :
    Calls Try.prog 54 #[.slice A len cap, .int .i64 i, .int .i64 x] w (NewP (ins (zs z len) i x) w) := by
  have hlc := h.1
  by_cases hc : cap = i
  · obtain rfl : len = i := by omega
    subst hc
    exact refPut_end A _ z x w h hl
  · obtain ⟨h0, ⟨_, hn⟩ | ⟨g, rfl, hg⟩⟩ := h
    · omega
    · exact refPut_mid g len cap z i x w ⟨h0, .inr ⟨g, rfl, hg⟩⟩ hi hl (by omega)
/-- The row and the plain list, alike. -/
structure Pair (b : Nat) (G : Option Nat) (room : Nat) (A : Option Addr) (len cap : Nat) (z : Nat → Int) (w : World) : Prop where
  rg : Rg b G (zs z len) room w
  sl : SL w A len cap z
  sep : ∀ g, A = some ⟨g, 0, none⟩ → ¬ Own2 b G g
theorem Pair.len_le {b : Nat} {G : Option Nat} {room : Nat} {A : Option Addr} {len cap : Nat} {z : Nat → Int} {w : World} (h : Pair b G room A len cap z w) : len ≤ room ∧ room ≤ 4096 := by
  have := h.rg.len_le; rw [zs_length] at this; exact ⟨this, h.rg.room_le⟩
theorem Pair.but {b : Nat} {G : Option Nat} {room : Nat} {A : Option Addr} {len cap : Nat} {z : Nat → Int} {w w' : World} (h : Pair b G room A len cap z w) (hb : But Nob w w') : Pair b G room A len cap z w' :=
  ⟨h.rg.but hb fun _ _ x => x, h.sl.but hb fun _ _ x => x, h.sep⟩
theorem Pair.own_lt {b : Nat} {G : Option Nat} {room : Nat} {A : Option Addr} {len cap : Nat} {z : Nat → Int} {w : World} (h : Pair b G room A len cap z w) {k : Nat} (hk : Own2 b G k) : k < w.heap.size := by
  rcases hk with rfl | hk
  · exact h.rg.lt
  · cases hk; exact h.rg.ltG
/-- What do gives: again alike. -/
def DoP (b : Nat) (G : Option Nat) (room : Nat) (w : World) (e : Ending) (w' : World) : Prop :=
  ∃ (A' : Option Addr) (len' cap' : Nat) (z' : Nat → Int) (G' : Option Nat), e = .returned (.tuple #[.slice A' len' cap', .bool true]) ∧ Pair b G' room A' len' cap' z' w' ∧ But (Own2 b G) w w' ∧ (∀ k, Own2 b G' k → Own2 b G k ∨ w.heap.size ≤ k)
theorem doP_same {b : Nat} {G : Option Nat} {room : Nat} {A : Option Addr} {len cap : Nat} {z : Nat → Int} {w w' : World} (h : Pair b G room A len cap z w') (hb : But (Own2 b G) w w') : DoP b G room w (.returned (.tuple #[.slice A len cap, .bool true])) w' :=
  ⟨A, len, cap, z, G, rfl, h, hb, fun _ hk => .inl hk⟩
theorem doP_new {b : Nat} {G G' : Option Nat} {room : Nat} {l : List Int} {w w1 w2 : World} {v : Value} (hR : Rg b G' l room w1) (hG : But (Own2 b G) w w1) (hg : ∀ k, Own2 b G' k → Own2 b G k ∨ w.heap.size ≤ k) (hM : Mine w1.heap.size v l w2) (hN : But Nob w1 w2) :
    DoP b G room w (.returned (.tuple #[v, .bool true])) w2 := by
  obtain ⟨ad, cap, rfl, hS, hB⟩ := SL.of hM
  refine ⟨ad, l.length, cap, _, G', rfl, ⟨?_, hS, fun g e hk => ?_⟩, hG.trans hN.nob, hg⟩
  · rw [zs_of]; exact hR.but hN fun _ _ x => x
  · have h1 := hB g e
    rcases hk with rfl | hk
    · have := hR.lt; omega
    · cases hk; have := hR.ltG; omega
theorem own2_grow {b g : Nat} {G : Option Nat} {w : World} (hg : Own2 b G g ∨ w.heap.size ≤ g) : ∀ k, Own2 b (some g) k → Own2 b G k ∨ w.heap.size ≤ k := by
  intro k hk
  rcases hk with rfl | hk
  · exact .inl (.inl rfl)
  · cases hk; exact hg
theorem ins_last (z : Nat → Int) (len : Nat) (x : Int) : zs z len ++ [x] = ins (zs z len) len x := by
  unfold ins
  rw [List.take_of_length_le (by rw [zs_length]; omega), List.drop_of_length_le (by rw [zs_length]; omega)]
theorem take_is (z : Nat → Int) {len i : Nat} (h : i < len) : (zs z len)[i]?.getD 0 = z i := zs_get h
theorem wo_first {x : Int} {l : List Int} : wo (x :: l) 0 = l := by simp [wo]
theorem zs_head {z : Nat → Int} {len : Nat} (h : 0 < len) : zs z len = z 0 :: (zs z len).tail := by
  obtain ⟨k, rfl⟩ : ∃ k, len = k + 1 := ⟨len - 1, by omega⟩
  rw [zs_cons]; rfl
theorem zs_front {z : Nat → Int} {len : Nat} (h : 0 < len) : zs z len = zs z (len - 1) ++ [z (len - 1)] := by
  obtain ⟨k, rfl⟩ : ∃ k, len = k + 1 := ⟨len - 1, by omega⟩
  rw [zs_succ]; rfl
set_option maxRecDepth 100000 in
set_option maxHeartbeats 4000000 in
theorem do_back0 (b : Nat) (G : Option Nat) (room : Nat) (A : Option Addr) (len cap : Nat) (z : Nat → Int) (k : Nat) (i : Int) (x : Int) (w : World) (h : Pair b G room A len cap z w) (hk : k % 8 = 0) (hr : len < room) :
    Calls Try.prog 18 #[.pointer (some ⟨b, 0, none⟩), .slice A len cap, .int .i64 room, .agg #[.int .u64 k, .int .i64 i, .int .i64 x]] w (DoP b G room w) := by
  have hm1 : (k : Int).tmod 8 = 0 := by rw [Int.tmod_eq_emod_of_nonneg (by omega)]; omega
  have hm2 : (k : Int) % 8 = 0 := by omega
  obtain ⟨hl1, hl2⟩ := h.len_le
  have hbx := Blk.new w 30 #[.int .u64 k, .int .i64 i, .int .i64 x]
  have hP := h.but ((But.refl Nob w).alloc (.cells #[.int .u64 k, .int .i64 i, .int .i64 x] 30))
  have hown : Hid (∀ q, Own2 b G q → q < w.heap.size) := fun q hq => h.own_lt hq
  have hG0 : Hid (But (Own2 b G) w (w.alloc (.cells #[.int .u64 k, .int .i64 i, .int .i64 x] 30))) := (But.refl _ w).alloc _
  have HBX := Lib.hid hbx; have HP := Lib.hid hP
  have c0 := hbx.cell 0; have c1 := hbx.cell 1; have c2 := hbx.cell 2
  have f0 := hbx.free 0; have f1 := hbx.free 1
  simp only [List.getElem?_toArray, List.getElem?_cons_zero, List.getElem?_cons_succ] at c0 c1 c2
  have t1 : decide (len < room) = true := by simpa using hr
  have t3 : (0 : Int) ≤ (len : Int) := by omega
  have t4 : (len : Int) ≤ (len : Int) := Int.le_refl _
  have hR := back_ok b G (zs z len) room x _ hP.rg (by rw [zs_length]; exact hr)
  rw [ins_last] at hR
  have HR := Lib.hid hR; clear hR
  clear hbx hP h
  go_enter Try.func18, Try.ntmps18
  go_wp2_with (first
    | (go_at_call 21; (with_reducible refine HR.out.mono ?_); rintro e w1 ⟨rfl, g, hR, hg, hG⟩
       have hb1 := HBX.out.but hG (fun q => by have := hown.out _ q; omega)
       have c0 := hb1.cell 0; have c1 := hb1.cell 1; have c2 := hb1.cell 2
       simp only [List.getElem?_toArray, List.getElem?_cons_zero, List.getElem?_cons_succ] at c0 c1 c2
       have hG1 := Lib.hid (hG0.out.trans hG)
       have hsl := HP.out.sl.but hG HP.out.sep
       have HPUT := Lib.hid (refPut_any A len cap z len x w1 hsl (by omega) (by omega))
       have HRg := Lib.hid hR; have HG := Lib.hid hG; have hgg := Lib.hid hg
       clear hb1 hR hG hsl hg)
    | (go_at_call 54; (with_reducible refine HPUT.out.mono ?_); rintro e w2 ⟨v2, rfl, hM, hN⟩; have HM := Lib.hid hM; have HN := Lib.hid hN; clear hM hN))
  go_ret2
  refine doP_new HRg.out hG1.out ?_ (by have := HM.out; exact this) HN.out
  intro q hq
  rcases own2_grow hgg.out q hq with r | r
  · exact .inl r
  · exact .inr (by simp at r; omega)
set_option maxRecDepth 100000 in
set_option maxHeartbeats 4000000 in
theorem do_back0n (b : Nat) (G : Option Nat) (room : Nat) (A : Option Addr) (len cap : Nat) (z : Nat → Int) (k : Nat) (i : Int) (x : Int) (w : World) (h : Pair b G room A len cap z w) (hk : k % 8 = 0) (hr : ¬ len < room) :
    Calls Try.prog 18 #[.pointer (some ⟨b, 0, none⟩), .slice A len cap, .int .i64 room, .agg #[.int .u64 k, .int .i64 i, .int .i64 x]] w (DoP b G room w) := by
  have hm1 : (k : Int).tmod 8 = 0 := by rw [Int.tmod_eq_emod_of_nonneg (by omega)]; omega
  have hm2 : (k : Int) % 8 = 0 := by omega
  obtain ⟨hl1, hl2⟩ := h.len_le
  have hbx := Blk.new w 30 #[.int .u64 k, .int .i64 i, .int .i64 x]
  have hP := h.but ((But.refl Nob w).alloc (.cells #[.int .u64 k, .int .i64 i, .int .i64 x] 30))
  have hown : Hid (∀ q, Own2 b G q → q < w.heap.size) := fun q hq => h.own_lt hq
  have hG0 : Hid (But (Own2 b G) w (w.alloc (.cells #[.int .u64 k, .int .i64 i, .int .i64 x] 30))) := (But.refl _ w).alloc _
  have HBX := Lib.hid hbx; have HP := Lib.hid hP
  have c0 := hbx.cell 0; have c1 := hbx.cell 1; have c2 := hbx.cell 2
  have f0 := hbx.free 0; have f1 := hbx.free 1
  simp only [List.getElem?_toArray, List.getElem?_cons_zero, List.getElem?_cons_succ] at c0 c1 c2
  have hR : Calls Try.prog 21 #[.pointer (some ⟨b, 0, none⟩), .int .i64 x] (w.alloc (.cells #[.int .u64 k, .int .i64 i, .int .i64 x] 30)) _ := back_bad b G (zs z len) x _ (by rw [zs_length, show len = room by omega]; have := hP.rg; rwa [show len = room by omega] at this)
  have HR := Lib.hid hR; clear hR
  have t1 : decide (len < room) = false := by simp; omega
  clear hbx hP h
  go_enter Try.func18, Try.ntmps18
  go_wp2_with (first | (go_at_call 21; (with_reducible refine HR.out.mono ?_); rintro e wq ⟨rfl, rfl⟩))
  go_ret2
  exact doP_same HP.out hG0.out
set_option maxRecDepth 100000 in
set_option maxHeartbeats 4000000 in
theorem do_back1 (b : Nat) (G : Option Nat) (room : Nat) (A : Option Addr) (len cap : Nat) (z : Nat → Int) (k : Nat) (i : Int) (x : Int) (w : World) (h : Pair b G room A len cap z w) (hk : k % 8 = 1) (hr : len < room) :
    Calls Try.prog 18 #[.pointer (some ⟨b, 0, none⟩), .slice A len cap, .int .i64 room, .agg #[.int .u64 k, .int .i64 i, .int .i64 x]] w (DoP b G room w) := by
  have hm1 : (k : Int).tmod 8 = 1 := by rw [Int.tmod_eq_emod_of_nonneg (by omega)]; omega
  have hm2 : (k : Int) % 8 = 1 := by omega
  obtain ⟨hl1, hl2⟩ := h.len_le
  have hbx := Blk.new w 30 #[.int .u64 k, .int .i64 i, .int .i64 x]
  have hP := h.but ((But.refl Nob w).alloc (.cells #[.int .u64 k, .int .i64 i, .int .i64 x] 30))
  have hown : Hid (∀ q, Own2 b G q → q < w.heap.size) := fun q hq => h.own_lt hq
  have hG0 : Hid (But (Own2 b G) w (w.alloc (.cells #[.int .u64 k, .int .i64 i, .int .i64 x] 30))) := (But.refl _ w).alloc _
  have HBX := Lib.hid hbx; have HP := Lib.hid hP
  have c0 := hbx.cell 0; have c1 := hbx.cell 1; have c2 := hbx.cell 2
  have f0 := hbx.free 0; have f1 := hbx.free 1
  simp only [List.getElem?_toArray, List.getElem?_cons_zero, List.getElem?_cons_succ] at c0 c1 c2
  have t1 : decide (len < room) = true := by simpa using hr
  have t3 : (0 : Int) ≤ (len : Int) := by omega
  have t4 : (len : Int) ≤ (len : Int) := Int.le_refl _
  have hR := back_ok b G (zs z len) room x _ hP.rg (by rw [zs_length]; exact hr)
  rw [ins_last] at hR
  have HR := Lib.hid hR; clear hR
  clear hbx hP h
  go_enter Try.func18, Try.ntmps18
  go_wp2_with (first
    | (go_at_call 21; (with_reducible refine HR.out.mono ?_); rintro e w1 ⟨rfl, g, hR, hg, hG⟩
       have hb1 := HBX.out.but hG (fun q => by have := hown.out _ q; omega)
       have c0 := hb1.cell 0; have c1 := hb1.cell 1; have c2 := hb1.cell 2
       simp only [List.getElem?_toArray, List.getElem?_cons_zero, List.getElem?_cons_succ] at c0 c1 c2
       have hG1 := Lib.hid (hG0.out.trans hG)
       have hsl := HP.out.sl.but hG HP.out.sep
       have HPUT := Lib.hid (refPut_any A len cap z len x w1 hsl (by omega) (by omega))
       have HRg := Lib.hid hR; have HG := Lib.hid hG; have hgg := Lib.hid hg
       clear hb1 hR hG hsl hg)
    | (go_at_call 54; (with_reducible refine HPUT.out.mono ?_); rintro e w2 ⟨v2, rfl, hM, hN⟩; have HM := Lib.hid hM; have HN := Lib.hid hN; clear hM hN))
  go_ret2
  refine doP_new HRg.out hG1.out ?_ (by have := HM.out; exact this) HN.out
  intro q hq
  rcases own2_grow hgg.out q hq with r | r
  · exact .inl r
  · exact .inr (by simp at r; omega)
set_option maxRecDepth 100000 in
set_option maxHeartbeats 4000000 in
theorem do_back1n (b : Nat) (G : Option Nat) (room : Nat) (A : Option Addr) (len cap : Nat) (z : Nat → Int) (k : Nat) (i : Int) (x : Int) (w : World) (h : Pair b G room A len cap z w) (hk : k % 8 = 1) (hr : ¬ len < room) :
    Calls Try.prog 18 #[.pointer (some ⟨b, 0, none⟩), .slice A len cap, .int .i64 room, .agg #[.int .u64 k, .int .i64 i, .int .i64 x]] w (DoP b G room w) := by
  have hm1 : (k : Int).tmod 8 = 1 := by rw [Int.tmod_eq_emod_of_nonneg (by omega)]; omega
  have hm2 : (k : Int) % 8 = 1 := by omega
  obtain ⟨hl1, hl2⟩ := h.len_le
  have hbx := Blk.new w 30 #[.int .u64 k, .int .i64 i, .int .i64 x]
  have hP := h.but ((But.refl Nob w).alloc (.cells #[.int .u64 k, .int .i64 i, .int .i64 x] 30))
  have hown : Hid (∀ q, Own2 b G q → q < w.heap.size) := fun q hq => h.own_lt hq
  have hG0 : Hid (But (Own2 b G) w (w.alloc (.cells #[.int .u64 k, .int .i64 i, .int .i64 x] 30))) := (But.refl _ w).alloc _
  have HBX := Lib.hid hbx; have HP := Lib.hid hP
  have c0 := hbx.cell 0; have c1 := hbx.cell 1; have c2 := hbx.cell 2
  have f0 := hbx.free 0; have f1 := hbx.free 1
  simp only [List.getElem?_toArray, List.getElem?_cons_zero, List.getElem?_cons_succ] at c0 c1 c2
  have hR : Calls Try.prog 21 #[.pointer (some ⟨b, 0, none⟩), .int .i64 x] (w.alloc (.cells #[.int .u64 k, .int .i64 i, .int .i64 x] 30)) _ := back_bad b G (zs z len) x _ (by rw [zs_length, show len = room by omega]; have := hP.rg; rwa [show len = room by omega] at this)
  have HR := Lib.hid hR; clear hR
  have t1 : decide (len < room) = false := by simp; omega
  clear hbx hP h
  go_enter Try.func18, Try.ntmps18
  go_wp2_with (first | (go_at_call 21; (with_reducible refine HR.out.mono ?_); rintro e wq ⟨rfl, rfl⟩))
  go_ret2
  exact doP_same HP.out hG0.out
set_option maxRecDepth 100000 in
set_option maxHeartbeats 4000000 in
theorem do_front (b : Nat) (G : Option Nat) (room : Nat) (A : Option Addr) (len cap : Nat) (z : Nat → Int) (k : Nat) (i : Int) (x : Int) (w : World) (h : Pair b G room A len cap z w) (hk : k % 8 = 2) (hr : len < room) :
    Calls Try.prog 18 #[.pointer (some ⟨b, 0, none⟩), .slice A len cap, .int .i64 room, .agg #[.int .u64 k, .int .i64 i, .int .i64 x]] w (DoP b G room w) := by
  have hm1 : (k : Int).tmod 8 = 2 := by rw [Int.tmod_eq_emod_of_nonneg (by omega)]; omega
  have hm2 : (k : Int) % 8 = 2 := by omega
  obtain ⟨hl1, hl2⟩ := h.len_le
  have hbx := Blk.new w 30 #[.int .u64 k, .int .i64 i, .int .i64 x]
  have hP := h.but ((But.refl Nob w).alloc (.cells #[.int .u64 k, .int .i64 i, .int .i64 x] 30))
  have hown : Hid (∀ q, Own2 b G q → q < w.heap.size) := fun q hq => h.own_lt hq
  have hG0 : Hid (But (Own2 b G) w (w.alloc (.cells #[.int .u64 k, .int .i64 i, .int .i64 x] 30))) := (But.refl _ w).alloc _
  have HBX := Lib.hid hbx; have HP := Lib.hid hP
  have c0 := hbx.cell 0; have c1 := hbx.cell 1; have c2 := hbx.cell 2
  have f0 := hbx.free 0; have f1 := hbx.free 1
  simp only [List.getElem?_toArray, List.getElem?_cons_zero, List.getElem?_cons_succ] at c0 c1 c2
  have t1 : decide (len < room) = true := by simpa using hr
  have t3 : (0 : Int) ≤ (len : Int) := by omega
  have t4 : (len : Int) ≤ (len : Int) := Int.le_refl _
  have hR := front_ok b G (zs z len) room x _ hP.rg (by rw [zs_length]; exact hr)
  rw [show x :: zs z len = ins (zs z len) 0 x by simp [ins]] at hR
  have HR := Lib.hid hR; clear hR
  clear hbx hP h
  go_enter Try.func18, Try.ntmps18
  go_wp2_with (first
    | (go_at_call 22; (with_reducible refine HR.out.mono ?_); rintro e w1 ⟨rfl, g, hR, hg, hG⟩
       have hb1 := HBX.out.but hG (fun q => by have := hown.out _ q; omega)
       have c0 := hb1.cell 0; have c1 := hb1.cell 1; have c2 := hb1.cell 2
       simp only [List.getElem?_toArray, List.getElem?_cons_zero, List.getElem?_cons_succ] at c0 c1 c2
       have hG1 := Lib.hid (hG0.out.trans hG)
       have hsl := HP.out.sl.but hG HP.out.sep
       have HPUT := Lib.hid (show Calls Try.prog 54 #[.slice A len cap, .int .i64 0, .int .i64 x] w1 (NewP (ins (zs z len) 0 x) w1) from refPut_any A len cap z 0 x w1 hsl (by omega) (by omega))
       have HRg := Lib.hid hR; have HG := Lib.hid hG; have hgg := Lib.hid hg
       clear hb1 hR hG hsl hg)
    | (go_at_call 54; (with_reducible refine HPUT.out.mono ?_); rintro e w2 ⟨v2, rfl, hM, hN⟩; have HM := Lib.hid hM; have HN := Lib.hid hN; clear hM hN))
  go_ret2
  refine doP_new HRg.out hG1.out ?_ (by have := HM.out; exact this) HN.out
  intro q hq
  rcases own2_grow hgg.out q hq with r | r
  · exact .inl r
  · exact .inr (by simp at r; omega)
set_option maxRecDepth 100000 in
set_option maxHeartbeats 4000000 in
theorem do_frontn (b : Nat) (G : Option Nat) (room : Nat) (A : Option Addr) (len cap : Nat) (z : Nat → Int) (k : Nat) (i : Int) (x : Int) (w : World) (h : Pair b G room A len cap z w) (hk : k % 8 = 2) (hr : ¬ len < room) :
    Calls Try.prog 18 #[.pointer (some ⟨b, 0, none⟩), .slice A len cap, .int .i64 room, .agg #[.int .u64 k, .int .i64 i, .int .i64 x]] w (DoP b G room w) := by
  have hm1 : (k : Int).tmod 8 = 2 := by rw [Int.tmod_eq_emod_of_nonneg (by omega)]; omega
  have hm2 : (k : Int) % 8 = 2 := by omega
  obtain ⟨hl1, hl2⟩ := h.len_le
  have hbx := Blk.new w 30 #[.int .u64 k, .int .i64 i, .int .i64 x]
  have hP := h.but ((But.refl Nob w).alloc (.cells #[.int .u64 k, .int .i64 i, .int .i64 x] 30))
  have hown : Hid (∀ q, Own2 b G q → q < w.heap.size) := fun q hq => h.own_lt hq
  have hG0 : Hid (But (Own2 b G) w (w.alloc (.cells #[.int .u64 k, .int .i64 i, .int .i64 x] 30))) := (But.refl _ w).alloc _
  have HBX := Lib.hid hbx; have HP := Lib.hid hP
  have c0 := hbx.cell 0; have c1 := hbx.cell 1; have c2 := hbx.cell 2
  have f0 := hbx.free 0; have f1 := hbx.free 1
  simp only [List.getElem?_toArray, List.getElem?_cons_zero, List.getElem?_cons_succ] at c0 c1 c2
  have hR : Calls Try.prog 22 #[.pointer (some ⟨b, 0, none⟩), .int .i64 x] (w.alloc (.cells #[.int .u64 k, .int .i64 i, .int .i64 x] 30)) _ := front_bad b G (zs z len) x _ (by rw [zs_length, show len = room by omega]; have := hP.rg; rwa [show len = room by omega] at this)
  have HR := Lib.hid hR; clear hR
  have t1 : decide (len < room) = false := by simp; omega
  clear hbx hP h
  go_enter Try.func18, Try.ntmps18
  go_wp2_with (first | (go_at_call 22; (with_reducible refine HR.out.mono ?_); rintro e wq ⟨rfl, rfl⟩))
  go_ret2
  exact doP_same HP.out hG0.out
set_option maxRecDepth 100000 in
set_option maxHeartbeats 4000000 in
theorem do_put (b : Nat) (G : Option Nat) (room : Nat) (A : Option Addr) (len cap : Nat) (z : Nat → Int) (k : Nat) (i : Nat) (x : Int) (w : World) (h : Pair b G room A len cap z w) (hk : k % 8 = 3) (hr : len < room) (hi : i ≤ len) :
    Calls Try.prog 18 #[.pointer (some ⟨b, 0, none⟩), .slice A len cap, .int .i64 room, .agg #[.int .u64 k, .int .i64 i, .int .i64 x]] w (DoP b G room w) := by
  have hm1 : (k : Int).tmod 8 = 3 := by rw [Int.tmod_eq_emod_of_nonneg (by omega)]; omega
  have hm2 : (k : Int) % 8 = 3 := by omega
  obtain ⟨hl1, hl2⟩ := h.len_le
  have hbx := Blk.new w 30 #[.int .u64 k, .int .i64 i, .int .i64 x]
  have hP := h.but ((But.refl Nob w).alloc (.cells #[.int .u64 k, .int .i64 i, .int .i64 x] 30))
  have hown : Hid (∀ q, Own2 b G q → q < w.heap.size) := fun q hq => h.own_lt hq
  have hG0 : Hid (But (Own2 b G) w (w.alloc (.cells #[.int .u64 k, .int .i64 i, .int .i64 x] 30))) := (But.refl _ w).alloc _
  have HBX := Lib.hid hbx; have HP := Lib.hid hP
  have c0 := hbx.cell 0; have c1 := hbx.cell 1; have c2 := hbx.cell 2
  have f0 := hbx.free 0; have f1 := hbx.free 1
  simp only [List.getElem?_toArray, List.getElem?_cons_zero, List.getElem?_cons_succ] at c0 c1 c2
  have t1 : decide (len < room) = true := by simpa using hr
  have t3 : (0 : Int) ≤ (len : Int) := by omega
  have t4 : (len : Int) ≤ (len : Int) := Int.le_refl _
  have t5 : (0 : Int) ≤ (i : Int) := by omega
  have t6 : (i : Int) ≤ (len : Int) := by omega
  have t7 : decide (i ≤ len) = true := by simpa using hi
  have hR := put_ok b G (zs z len) room i x _ hP.rg (by rw [zs_length]; exact hr) (by rw [zs_length]; exact hi)
  have HR := Lib.hid hR; clear hR
  clear hbx hP h
  go_enter Try.func18, Try.ntmps18
  go_wp2_with (first
    | (go_at_call 23; (with_reducible refine HR.out.mono ?_); rintro e w1 ⟨rfl, g, hR, hg, hG⟩
       have hb1 := HBX.out.but hG (fun q => by have := hown.out _ q; omega)
       have c0 := hb1.cell 0; have c1 := hb1.cell 1; have c2 := hb1.cell 2
       simp only [List.getElem?_toArray, List.getElem?_cons_zero, List.getElem?_cons_succ] at c0 c1 c2
       have hG1 := Lib.hid (hG0.out.trans hG)
       have hsl := HP.out.sl.but hG HP.out.sep
       have HPUT := Lib.hid (refPut_any A len cap z i x w1 hsl (by omega) (by omega))
       have HRg := Lib.hid hR; have HG := Lib.hid hG; have hgg := Lib.hid hg
       clear hb1 hR hG hsl hg)
    | (go_at_call 54; (with_reducible refine HPUT.out.mono ?_); rintro e w2 ⟨v2, rfl, hM, hN⟩; have HM := Lib.hid hM; have HN := Lib.hid hN; clear hM hN))
  go_ret2
  refine doP_new HRg.out hG1.out ?_ (by have := HM.out; exact this) HN.out
  intro q hq
  rcases own2_grow hgg.out q hq with r | r
  · exact .inl r
  · exact .inr (by simp at r; omega)
set_option maxRecDepth 100000 in
set_option maxHeartbeats 4000000 in
theorem do_putn0 (b : Nat) (G : Option Nat) (room : Nat) (A : Option Addr) (len cap : Nat) (z : Nat → Int) (k : Nat) (i : Int) (x : Int) (w : World) (h : Pair b G room A len cap z w) (hk : k % 8 = 3) (hr : ¬ len < room) :
    Calls Try.prog 18 #[.pointer (some ⟨b, 0, none⟩), .slice A len cap, .int .i64 room, .agg #[.int .u64 k, .int .i64 i, .int .i64 x]] w (DoP b G room w) := by
  have hm1 : (k : Int).tmod 8 = 3 := by rw [Int.tmod_eq_emod_of_nonneg (by omega)]; omega
  have hm2 : (k : Int) % 8 = 3 := by omega
  obtain ⟨hl1, hl2⟩ := h.len_le
  have hbx := Blk.new w 30 #[.int .u64 k, .int .i64 i, .int .i64 x]
  have hP := h.but ((But.refl Nob w).alloc (.cells #[.int .u64 k, .int .i64 i, .int .i64 x] 30))
  have hown : Hid (∀ q, Own2 b G q → q < w.heap.size) := fun q hq => h.own_lt hq
  have hG0 : Hid (But (Own2 b G) w (w.alloc (.cells #[.int .u64 k, .int .i64 i, .int .i64 x] 30))) := (But.refl _ w).alloc _
  have HBX := Lib.hid hbx; have HP := Lib.hid hP
  have c0 := hbx.cell 0; have c1 := hbx.cell 1; have c2 := hbx.cell 2
  have f0 := hbx.free 0; have f1 := hbx.free 1
  simp only [List.getElem?_toArray, List.getElem?_cons_zero, List.getElem?_cons_succ] at c0 c1 c2
  have hR := put_bad b G (zs z len) room i x _ hP.rg (by rw [zs_length]; exact .inr (.inr (by omega)))
  have HR := Lib.hid hR; clear hR
  have t1 : decide (len < room) = false := by simp; omega
  clear hbx hP h
  go_enter Try.func18, Try.ntmps18
  go_wp2_with (first | (go_at_call 23; (with_reducible refine HR.out.mono ?_); rintro e wq ⟨rfl, rfl⟩))
  go_ret2
  exact doP_same HP.out hG0.out
set_option maxRecDepth 100000 in
set_option maxHeartbeats 4000000 in
theorem do_putn1 (b : Nat) (G : Option Nat) (room : Nat) (A : Option Addr) (len cap : Nat) (z : Nat → Int) (k : Nat) (i : Int) (x : Int) (w : World) (h : Pair b G room A len cap z w) (hk : k % 8 = 3) (hr : len < room) (hi : i < 0) :
    Calls Try.prog 18 #[.pointer (some ⟨b, 0, none⟩), .slice A len cap, .int .i64 room, .agg #[.int .u64 k, .int .i64 i, .int .i64 x]] w (DoP b G room w) := by
  have hm1 : (k : Int).tmod 8 = 3 := by rw [Int.tmod_eq_emod_of_nonneg (by omega)]; omega
  have hm2 : (k : Int) % 8 = 3 := by omega
  obtain ⟨hl1, hl2⟩ := h.len_le
  have hbx := Blk.new w 30 #[.int .u64 k, .int .i64 i, .int .i64 x]
  have hP := h.but ((But.refl Nob w).alloc (.cells #[.int .u64 k, .int .i64 i, .int .i64 x] 30))
  have hown : Hid (∀ q, Own2 b G q → q < w.heap.size) := fun q hq => h.own_lt hq
  have hG0 : Hid (But (Own2 b G) w (w.alloc (.cells #[.int .u64 k, .int .i64 i, .int .i64 x] 30))) := (But.refl _ w).alloc _
  have HBX := Lib.hid hbx; have HP := Lib.hid hP
  have c0 := hbx.cell 0; have c1 := hbx.cell 1; have c2 := hbx.cell 2
  have f0 := hbx.free 0; have f1 := hbx.free 1
  simp only [List.getElem?_toArray, List.getElem?_cons_zero, List.getElem?_cons_succ] at c0 c1 c2
  have hR := put_bad b G (zs z len) room i x _ hP.rg (by rw [zs_length]; exact .inl hi)
  have HR := Lib.hid hR; clear hR
  have t1 : decide (len < room) = true := by simpa using hr
  have t2 : ¬ 0 ≤ i := by omega
  clear hbx hP h
  go_enter Try.func18, Try.ntmps18
  go_wp2_with (first | (go_at_call 23; (with_reducible refine HR.out.mono ?_); rintro e wq ⟨rfl, rfl⟩))
  go_ret2
  exact doP_same HP.out hG0.out
set_option maxRecDepth 100000 in
set_option maxHeartbeats 4000000 in
theorem do_putn2 (b : Nat) (G : Option Nat) (room : Nat) (A : Option Addr) (len cap : Nat) (z : Nat → Int) (k : Nat) (i : Int) (x : Int) (w : World) (h : Pair b G room A len cap z w) (hk : k % 8 = 3) (hr : len < room) (hi : (len : Int) < i) :
    Calls Try.prog 18 #[.pointer (some ⟨b, 0, none⟩), .slice A len cap, .int .i64 room, .agg #[.int .u64 k, .int .i64 i, .int .i64 x]] w (DoP b G room w) := by
  have hm1 : (k : Int).tmod 8 = 3 := by rw [Int.tmod_eq_emod_of_nonneg (by omega)]; omega
  have hm2 : (k : Int) % 8 = 3 := by omega
  obtain ⟨hl1, hl2⟩ := h.len_le
  have hbx := Blk.new w 30 #[.int .u64 k, .int .i64 i, .int .i64 x]
  have hP := h.but ((But.refl Nob w).alloc (.cells #[.int .u64 k, .int .i64 i, .int .i64 x] 30))
  have hown : Hid (∀ q, Own2 b G q → q < w.heap.size) := fun q hq => h.own_lt hq
  have hG0 : Hid (But (Own2 b G) w (w.alloc (.cells #[.int .u64 k, .int .i64 i, .int .i64 x] 30))) := (But.refl _ w).alloc _
  have HBX := Lib.hid hbx; have HP := Lib.hid hP
  have c0 := hbx.cell 0; have c1 := hbx.cell 1; have c2 := hbx.cell 2
  have f0 := hbx.free 0; have f1 := hbx.free 1
  simp only [List.getElem?_toArray, List.getElem?_cons_zero, List.getElem?_cons_succ] at c0 c1 c2
  have hR := put_bad b G (zs z len) room i x _ hP.rg (by rw [zs_length]; exact .inr (.inl hi))
  have HR := Lib.hid hR; clear hR
  have t1 : decide (len < room) = true := by simpa using hr
  have t2 : 0 ≤ i := by omega
  have t3 : ¬ i ≤ (len : Int) := by omega
  have t4 : decide (i ≤ (len : Int)) = false := by simp; omega
  clear hbx hP h
  go_enter Try.func18, Try.ntmps18
  go_wp2_with (first | (go_at_call 23; (with_reducible refine HR.out.mono ?_); rintro e wq ⟨rfl, rfl⟩))
  go_ret2
  exact doP_same HP.out hG0.out
set_option maxRecDepth 100000 in
set_option maxHeartbeats 4000000 in
theorem do_first (b : Nat) (G : Option Nat) (room : Nat) (A : Option Addr) (len cap : Nat) (z : Nat → Int) (k : Nat) (i : Int) (x : Int) (w : World) (h : Pair b G room A len cap z w) (hk : k % 8 = 4) (hn : 0 < len) :
    Calls Try.prog 18 #[.pointer (some ⟨b, 0, none⟩), .slice A len cap, .int .i64 room, .agg #[.int .u64 k, .int .i64 i, .int .i64 x]] w (DoP b G room w) := by
  have hm1 : (k : Int).tmod 8 = 4 := by rw [Int.tmod_eq_emod_of_nonneg (by omega)]; omega
  have hm2 : (k : Int) % 8 = 4 := by omega
  obtain ⟨hl1, hl2⟩ := h.len_le
  have hbx := Blk.new w 30 #[.int .u64 k, .int .i64 i, .int .i64 x]
  have hP := h.but ((But.refl Nob w).alloc (.cells #[.int .u64 k, .int .i64 i, .int .i64 x] 30))
  have hown : Hid (∀ q, Own2 b G q → q < w.heap.size) := fun q hq => h.own_lt hq
  have hG0 : Hid (But (Own2 b G) w (w.alloc (.cells #[.int .u64 k, .int .i64 i, .int .i64 x] 30))) := (But.refl _ w).alloc _
  have HBX := Lib.hid hbx; have HP := Lib.hid hP
  have c0 := hbx.cell 0; have c1 := hbx.cell 1; have c2 := hbx.cell 2
  have f0 := hbx.free 0; have f1 := hbx.free 1
  simp only [List.getElem?_toArray, List.getElem?_cons_zero, List.getElem?_cons_succ] at c0 c1 c2
  have HTH : Hid (there (zs z len) 0 = true) := by show there (zs z len) ((0 : Nat) : Int) = true; exact there_yes (by rw [zs_length]; exact hn)
  have HVAL : Hid ((zs z len)[(0 : Int).toNat]?.getD 0 = z 0) := take_is z hn
  have hR := first_ok b G (z 0) (zs z len).tail room _ (by have := hP.rg; rwa [zs_head hn] at this)
  rw [show (zs z len).tail = wo (zs z len) 0 by rw [zs_head hn, wo_first]; rfl] at hR
  have HR := Lib.hid hR; clear hR
  clear hbx hP h
  go_enter Try.func18, Try.ntmps18
  go_wp2_with (first
    | (go_at_call 24; (with_reducible refine HR.out.mono ?_); rintro e w1 ⟨rfl, hR, hG⟩
       have hb1 := HBX.out.but hG (fun q => by have := hown.out _ q; omega)
       have c0 := hb1.cell 0; have c1 := hb1.cell 1; have c2 := hb1.cell 2
       simp only [List.getElem?_toArray, List.getElem?_cons_zero, List.getElem?_cons_succ] at c0 c1 c2
       have hG1 := Lib.hid (hG0.out.trans hG)
       have hsl := HP.out.sl.but hG HP.out.sep
       have HT0 := (taken_any A len cap z (0 : Int) w1 hsl.ints)
       rw [show there (zs z len) (0 : Int) = true from HTH.out, if_pos rfl, show (zs z len)[(0 : Int).toNat]?.getD 0 = z 0 from HVAL.out] at HT0
       have HT := Lib.hid HT0; clear HT0
       have HWO := Lib.hid (show Calls Try.prog 56 #[.slice A len cap, .int .i64 0] w1 (NewP (wo (zs z len) 0) w1) from refWithout_any A len cap z 0 w1 hsl (by omega) (by omega))
       have HRg := Lib.hid hR
       clear hb1 hR hG hsl)
    | (go_at_call 55; (with_reducible refine HT.out.mono ?_); rintro e wq ⟨rfl, rfl⟩)
    | (go_at_call 56; (with_reducible refine HWO.out.mono ?_); rintro e w2 ⟨v2, rfl, hM, hN⟩; have HM := Lib.hid hM; have HN := Lib.hid hN; clear hM hN))
  go_ret2
  exact doP_new HRg.out hG1.out (fun q hq => .inl hq) (by have := HM.out; exact this) HN.out
set_option maxRecDepth 100000 in
set_option maxHeartbeats 4000000 in
theorem do_firstn (b : Nat) (G : Option Nat) (room : Nat) (A : Option Addr) (len cap : Nat) (z : Nat → Int) (k : Nat) (i : Int) (x : Int) (w : World) (h : Pair b G room A len cap z w) (hk : k % 8 = 4) (hn : len = 0) :
    Calls Try.prog 18 #[.pointer (some ⟨b, 0, none⟩), .slice A len cap, .int .i64 room, .agg #[.int .u64 k, .int .i64 i, .int .i64 x]] w (DoP b G room w) := by
  have hm1 : (k : Int).tmod 8 = 4 := by rw [Int.tmod_eq_emod_of_nonneg (by omega)]; omega
  have hm2 : (k : Int) % 8 = 4 := by omega
  obtain ⟨hl1, hl2⟩ := h.len_le
  have hbx := Blk.new w 30 #[.int .u64 k, .int .i64 i, .int .i64 x]
  have hP := h.but ((But.refl Nob w).alloc (.cells #[.int .u64 k, .int .i64 i, .int .i64 x] 30))
  have hown : Hid (∀ q, Own2 b G q → q < w.heap.size) := fun q hq => h.own_lt hq
  have hG0 : Hid (But (Own2 b G) w (w.alloc (.cells #[.int .u64 k, .int .i64 i, .int .i64 x] 30))) := (But.refl _ w).alloc _
  have HBX := Lib.hid hbx; have HP := Lib.hid hP
  have c0 := hbx.cell 0; have c1 := hbx.cell 1; have c2 := hbx.cell 2
  have f0 := hbx.free 0; have f1 := hbx.free 1
  simp only [List.getElem?_toArray, List.getElem?_cons_zero, List.getElem?_cons_succ] at c0 c1 c2
  have HTH : Hid (there (zs z len) 0 = false) := by apply there_no; right; rw [zs_length, hn]; exact Int.le_refl _
  have hR := first_none b _ (by have := hP.rg.head.1; rw [zs_length, hn] at this; exact this)
  have HR := Lib.hid hR; clear hR
  have HT0 := taken_any A len cap z 0 _ hP.sl.ints
  rw [show there (zs z len) 0 = false from HTH.out] at HT0
  have HT := Lib.hid HT0; clear HT0
  subst hn
  clear hbx hP h
  go_enter Try.func18, Try.ntmps18
  go_wp2_with (first
    | (go_at_call 24; (with_reducible refine HR.out.mono ?_); rintro e wq ⟨rfl, rfl⟩)
    | (go_at_call 55; (with_reducible refine HT.out.mono ?_); rintro e wq ⟨rfl, rfl⟩))
  go_ret2
  exact doP_same HP.out hG0.out
set_option maxRecDepth 100000 in
set_option maxHeartbeats 4000000 in
theorem do_last (b : Nat) (G : Option Nat) (room : Nat) (A : Option Addr) (len cap : Nat) (z : Nat → Int) (k : Nat) (i : Int) (x : Int) (w : World) (h : Pair b G room A len cap z w) (hk : k % 8 = 5) (hn : 0 < len) :
    Calls Try.prog 18 #[.pointer (some ⟨b, 0, none⟩), .slice A len cap, .int .i64 room, .agg #[.int .u64 k, .int .i64 i, .int .i64 x]] w (DoP b G room w) := by
  have hm1 : (k : Int).tmod 8 = 5 := by rw [Int.tmod_eq_emod_of_nonneg (by omega)]; omega
  have hm2 : (k : Int) % 8 = 5 := by omega
  obtain ⟨hl1, hl2⟩ := h.len_le
  have hbx := Blk.new w 30 #[.int .u64 k, .int .i64 i, .int .i64 x]
  have hP := h.but ((But.refl Nob w).alloc (.cells #[.int .u64 k, .int .i64 i, .int .i64 x] 30))
  have hown : Hid (∀ q, Own2 b G q → q < w.heap.size) := fun q hq => h.own_lt hq
  have hG0 : Hid (But (Own2 b G) w (w.alloc (.cells #[.int .u64 k, .int .i64 i, .int .i64 x] 30))) := (But.refl _ w).alloc _
  have HBX := Lib.hid hbx; have HP := Lib.hid hP
  have c0 := hbx.cell 0; have c1 := hbx.cell 1; have c2 := hbx.cell 2
  have f0 := hbx.free 0; have f1 := hbx.free 1
  simp only [List.getElem?_toArray, List.getElem?_cons_zero, List.getElem?_cons_succ] at c0 c1 c2
  have hR := last_ok b G (z (len - 1)) (zs z (len - 1)) room _ (by have := hP.rg; rwa [zs_front hn] at this)
  rw [show zs z (len - 1) = wo (zs z len) (len - 1) by unfold wo; rw [zs_take z (by omega), List.drop_of_length_le (by rw [zs_length]; omega), List.append_nil]] at hR
  have q1 : IntKind.i64.wrap ((len : Int) - 1) = (len : Int) - 1 := IntWalk.i64_in _ (by omega)
  obtain ⟨m, hm⟩ : ∃ m : Nat, m = len - 1 := ⟨_, rfl⟩
  rw [← hm] at hR
  have q2 : (len : Int) - 1 = (m : Int) := by omega
  have HTH : Hid (there (zs z len) (m : Int) = true) := there_yes (by rw [zs_length]; omega)
  have HVAL : Hid ((zs z len)[(m : Int).toNat]?.getD 0 = z m) := take_is z (by omega)
  have q3 : IntKind.i64.wrap (m : Int) = (m : Int) := IntWalk.i64_in _ (by omega)
  have hmn : m < len := by omega
  clear hm q1
  have HR := Lib.hid hR; clear hR
  clear hbx hP h
  go_enter Try.func18, Try.ntmps18
  go_wp2_with (first
    | (go_at_call 25; (with_reducible refine HR.out.mono ?_); rintro e w1 ⟨rfl, hR, hG⟩
       have hb1 := HBX.out.but hG (fun q => by have := hown.out _ q; omega)
       have c0 := hb1.cell 0; have c1 := hb1.cell 1; have c2 := hb1.cell 2
       simp only [List.getElem?_toArray, List.getElem?_cons_zero, List.getElem?_cons_succ] at c0 c1 c2
       have hG1 := Lib.hid (hG0.out.trans hG)
       have hsl := HP.out.sl.but hG HP.out.sep
       have HT0 := (taken_any A len cap z (m : Int) w1 hsl.ints)
       rw [show there (zs z len) (m : Int) = true from HTH.out, if_pos rfl, show (zs z len)[(m : Int).toNat]?.getD 0 = z m from HVAL.out] at HT0
       have HT := Lib.hid HT0; clear HT0
       have HWO := Lib.hid (refWithout_any A len cap z m w1 hsl (by omega) (by omega))
       have HRg := Lib.hid hR
       clear hb1 hR hG hsl)
    | (go_at_call 55; (with_reducible refine HT.out.mono ?_); rintro e wq ⟨rfl, rfl⟩)
    | (go_at_call 56; (with_reducible refine HWO.out.mono ?_); rintro e w2 ⟨v2, rfl, hM, hN⟩; have HM := Lib.hid hM; have HN := Lib.hid hN; clear hM hN))
  go_ret2
  exact doP_new HRg.out hG1.out (fun q hq => .inl hq) (by have := HM.out; exact this) HN.out
set_option maxRecDepth 100000 in
set_option maxHeartbeats 4000000 in
theorem do_lastn (b : Nat) (G : Option Nat) (room : Nat) (A : Option Addr) (len cap : Nat) (z : Nat → Int) (k : Nat) (i : Int) (x : Int) (w : World) (h : Pair b G room A len cap z w) (hk : k % 8 = 5) (hn : len = 0) :
    Calls Try.prog 18 #[.pointer (some ⟨b, 0, none⟩), .slice A len cap, .int .i64 room, .agg #[.int .u64 k, .int .i64 i, .int .i64 x]] w (DoP b G room w) := by
  have hm1 : (k : Int).tmod 8 = 5 := by rw [Int.tmod_eq_emod_of_nonneg (by omega)]; omega
  have hm2 : (k : Int) % 8 = 5 := by omega
  obtain ⟨hl1, hl2⟩ := h.len_le
  have hbx := Blk.new w 30 #[.int .u64 k, .int .i64 i, .int .i64 x]
  have hP := h.but ((But.refl Nob w).alloc (.cells #[.int .u64 k, .int .i64 i, .int .i64 x] 30))
  have hown : Hid (∀ q, Own2 b G q → q < w.heap.size) := fun q hq => h.own_lt hq
  have hG0 : Hid (But (Own2 b G) w (w.alloc (.cells #[.int .u64 k, .int .i64 i, .int .i64 x] 30))) := (But.refl _ w).alloc _
  have HBX := Lib.hid hbx; have HP := Lib.hid hP
  have c0 := hbx.cell 0; have c1 := hbx.cell 1; have c2 := hbx.cell 2
  have f0 := hbx.free 0; have f1 := hbx.free 1
  simp only [List.getElem?_toArray, List.getElem?_cons_zero, List.getElem?_cons_succ] at c0 c1 c2
  have HTH : Hid (there (zs z len) (-1) = false) := there_no (.inl (by omega))
  have hR := last_none b _ (by have := hP.rg.head.1; rw [zs_length, hn] at this; exact this)
  have HR := Lib.hid hR; clear hR
  have HT0 := taken_any A len cap z (-1) _ hP.sl.ints
  rw [show there (zs z len) (-1) = false from HTH.out] at HT0
  have HT := Lib.hid HT0; clear HT0
  subst hn
  clear hbx hP h
  go_enter Try.func18, Try.ntmps18
  go_wp2_with (first
    | (go_at_call 25; (with_reducible refine HR.out.mono ?_); rintro e wq ⟨rfl, rfl⟩)
    | (go_at_call 55; (with_reducible refine HT.out.mono ?_); rintro e wq ⟨rfl, rfl⟩))
  go_ret2
  exact doP_same HP.out hG0.out
set_option maxRecDepth 100000 in
set_option maxHeartbeats 4000000 in
theorem do_take (b : Nat) (G : Option Nat) (room : Nat) (A : Option Addr) (len cap : Nat) (z : Nat → Int) (k : Nat) (i : Nat) (x : Int) (w : World) (h : Pair b G room A len cap z w) (hk : k % 8 = 6) (hi : i < len) :
    Calls Try.prog 18 #[.pointer (some ⟨b, 0, none⟩), .slice A len cap, .int .i64 room, .agg #[.int .u64 k, .int .i64 i, .int .i64 x]] w (DoP b G room w) := by
  have hm1 : (k : Int).tmod 8 = 6 := by rw [Int.tmod_eq_emod_of_nonneg (by omega)]; omega
  have hm2 : (k : Int) % 8 = 6 := by omega
  obtain ⟨hl1, hl2⟩ := h.len_le
  have hbx := Blk.new w 30 #[.int .u64 k, .int .i64 i, .int .i64 x]
  have hP := h.but ((But.refl Nob w).alloc (.cells #[.int .u64 k, .int .i64 i, .int .i64 x] 30))
  have hown : Hid (∀ q, Own2 b G q → q < w.heap.size) := fun q hq => h.own_lt hq
  have hG0 : Hid (But (Own2 b G) w (w.alloc (.cells #[.int .u64 k, .int .i64 i, .int .i64 x] 30))) := (But.refl _ w).alloc _
  have HBX := Lib.hid hbx; have HP := Lib.hid hP
  have c0 := hbx.cell 0; have c1 := hbx.cell 1; have c2 := hbx.cell 2
  have f0 := hbx.free 0; have f1 := hbx.free 1
  simp only [List.getElem?_toArray, List.getElem?_cons_zero, List.getElem?_cons_succ] at c0 c1 c2
  have HTH : Hid (there (zs z len) (i : Int) = true) := there_yes (by rw [zs_length]; exact hi)
  have HVAL : Hid ((zs z len)[(i : Int).toNat]?.getD 0 = z i) := take_is z hi
  have hR := take_ok b G (zs z len) room i _ hP.rg (by rw [zs_length]; exact hi)
  unfold TakeP at hR
  rw [take_is z hi] at hR
  have HR := Lib.hid hR; clear hR
  clear hbx hP h
  go_enter Try.func18, Try.ntmps18
  go_wp2_with (first
    | (go_at_call 29; (with_reducible refine HR.out.mono ?_); rintro e w1 ⟨rfl, hR, hG⟩
       have hb1 := HBX.out.but hG (fun q => by have := hown.out _ q; omega)
       have c0 := hb1.cell 0; have c1 := hb1.cell 1; have c2 := hb1.cell 2
       simp only [List.getElem?_toArray, List.getElem?_cons_zero, List.getElem?_cons_succ] at c0 c1 c2
       have hG1 := Lib.hid (hG0.out.trans hG)
       have hsl := HP.out.sl.but hG HP.out.sep
       have HT0 := (taken_any A len cap z (i : Int) w1 hsl.ints)
       rw [show there (zs z len) (i : Int) = true from HTH.out, if_pos rfl, show (zs z len)[(i : Int).toNat]?.getD 0 = z i from HVAL.out] at HT0
       have HT := Lib.hid HT0; clear HT0
       have HWO := Lib.hid (refWithout_any A len cap z i w1 hsl (by omega) (by omega))
       have HRg := Lib.hid hR
       clear hb1 hR hG hsl)
    | (go_at_call 55; (with_reducible refine HT.out.mono ?_); rintro e wq ⟨rfl, rfl⟩)
    | (go_at_call 56; (with_reducible refine HWO.out.mono ?_); rintro e w2 ⟨v2, rfl, hM, hN⟩; have HM := Lib.hid hM; have HN := Lib.hid hN; clear hM hN))
  go_ret2
  exact doP_new HRg.out hG1.out (fun q hq => .inl hq) (by have := HM.out; exact this) HN.out
set_option maxRecDepth 100000 in
set_option maxHeartbeats 4000000 in
theorem do_taken (b : Nat) (G : Option Nat) (room : Nat) (A : Option Addr) (len cap : Nat) (z : Nat → Int) (k : Nat) (i : Int) (x : Int) (w : World) (h : Pair b G room A len cap z w) (hk : k % 8 = 6) (hi : i < 0 ∨ (len : Int) ≤ i) :
    Calls Try.prog 18 #[.pointer (some ⟨b, 0, none⟩), .slice A len cap, .int .i64 room, .agg #[.int .u64 k, .int .i64 i, .int .i64 x]] w (DoP b G room w) := by
  have hm1 : (k : Int).tmod 8 = 6 := by rw [Int.tmod_eq_emod_of_nonneg (by omega)]; omega
  have hm2 : (k : Int) % 8 = 6 := by omega
  obtain ⟨hl1, hl2⟩ := h.len_le
  have hbx := Blk.new w 30 #[.int .u64 k, .int .i64 i, .int .i64 x]
  have hP := h.but ((But.refl Nob w).alloc (.cells #[.int .u64 k, .int .i64 i, .int .i64 x] 30))
  have hown : Hid (∀ q, Own2 b G q → q < w.heap.size) := fun q hq => h.own_lt hq
  have hG0 : Hid (But (Own2 b G) w (w.alloc (.cells #[.int .u64 k, .int .i64 i, .int .i64 x] 30))) := (But.refl _ w).alloc _
  have HBX := Lib.hid hbx; have HP := Lib.hid hP
  have c0 := hbx.cell 0; have c1 := hbx.cell 1; have c2 := hbx.cell 2
  have f0 := hbx.free 0; have f1 := hbx.free 1
  simp only [List.getElem?_toArray, List.getElem?_cons_zero, List.getElem?_cons_succ] at c0 c1 c2
  have HTH : Hid (there (zs z len) i = false) := there_no (by rw [zs_length]; exact hi)
  have hR := take_bad b len i _ (by have := hP.rg.head.1; rwa [zs_length] at this) hi
  have HR := Lib.hid hR; clear hR
  have HT0 := taken_any A len cap z i _ hP.sl.ints
  rw [show there (zs z len) i = false from HTH.out] at HT0
  have HT := Lib.hid HT0; clear HT0
  clear hbx hP h hi
  go_enter Try.func18, Try.ntmps18
  go_wp2_with (first
    | (go_at_call 29; (with_reducible refine HR.out.mono ?_); rintro e wq ⟨rfl, rfl⟩)
    | (go_at_call 55; (with_reducible refine HT.out.mono ?_); rintro e wq ⟨rfl, rfl⟩))
  go_ret2
  exact doP_same HP.out hG0.out
set_option maxRecDepth 100000 in
set_option maxHeartbeats 4000000 in
theorem do_at (b : Nat) (G : Option Nat) (room : Nat) (A : Option Addr) (len cap : Nat) (z : Nat → Int) (k : Nat) (i : Int) (x : Int) (w : World) (h : Pair b G room A len cap z w) (hk : k % 8 = 7) :
    Calls Try.prog 18 #[.pointer (some ⟨b, 0, none⟩), .slice A len cap, .int .i64 room, .agg #[.int .u64 k, .int .i64 i, .int .i64 x]] w (DoP b G room w) := by
  have hm1 : (k : Int).tmod 8 = 7 := by rw [Int.tmod_eq_emod_of_nonneg (by omega)]; omega
  have hm2 : (k : Int) % 8 = 7 := by omega
  obtain ⟨hl1, hl2⟩ := h.len_le
  have hbx := Blk.new w 30 #[.int .u64 k, .int .i64 i, .int .i64 x]
  have hP := h.but ((But.refl Nob w).alloc (.cells #[.int .u64 k, .int .i64 i, .int .i64 x] 30))
  have hown : Hid (∀ q, Own2 b G q → q < w.heap.size) := fun q hq => h.own_lt hq
  have hG0 : Hid (But (Own2 b G) w (w.alloc (.cells #[.int .u64 k, .int .i64 i, .int .i64 x] 30))) := (But.refl _ w).alloc _
  have HBX := Lib.hid hbx; have HP := Lib.hid hP
  have c0 := hbx.cell 0; have c1 := hbx.cell 1; have c2 := hbx.cell 2
  have f0 := hbx.free 0; have f1 := hbx.free 1
  simp only [List.getElem?_toArray, List.getElem?_cons_zero, List.getElem?_cons_succ] at c0 c1 c2
  have hR := at_any b G (zs z len) room i _ hP.rg
  unfold AtP at hR
  have HS := Lib.hid hP.sl
  obtain ⟨u, hu⟩ : ∃ u, u = (if there (zs z len) i then (zs z len)[i.toNat]?.getD 0 else 0) := ⟨_, rfl⟩
  obtain ⟨o, ho⟩ : ∃ o, o = there (zs z len) i := ⟨_, rfl⟩
  have HT0 : Hid (∀ w1, IntsIn w1 A len z → Calls Try.prog 55 #[.slice A len cap, .int .i64 i] w1 fun e w' => e = .returned (.tuple #[.int .i64 u, .bool o]) ∧ w1 = w') := fun w1 q => by
    have := taken_any A len cap z i w1 q; rw [← hu, ← ho] at this; exact this
  rw [← hu, ← ho] at hR
  clear hu ho
  have HR := Lib.hid hR; clear hR
  have e1 : (u == u) = true := by simp
  have e2 : (o == o) = true := by simp
  clear hbx hP h
  go_enter Try.func18, Try.ntmps18
  go_wp2_with (first
    | (go_at_call 28; (with_reducible refine HR.out.mono ?_); rintro e w1 ⟨rfl, hR, hG⟩
       have hb1 := HBX.out.but hG id
       have c0 := hb1.cell 0; have c1 := hb1.cell 1; have c2 := hb1.cell 2
       simp only [List.getElem?_toArray, List.getElem?_cons_zero, List.getElem?_cons_succ] at c0 c1 c2
       have hP1 := Lib.hid (HP.out.but hG)
       have hG1 := Lib.hid (hG0.out.trans hG.nob)
       have HT := Lib.hid (HT0.out w1 (HP.out.but hG).sl.ints)
       clear hb1 hR hG)
    | (go_at_call 55; (with_reducible refine HT.out.mono ?_); rintro e wq ⟨rfl, rfl⟩))
  go_ret2
  exact doP_same hP1.out hG1.out
theorem do_any (b : Nat) (G : Option Nat) (room : Nat) (A : Option Addr) (len cap : Nat) (z : Nat → Int) (k : Nat) (i x : Int) (w : World) (h : Pair b G room A len cap z w) :
    Calls Try.prog 18 #[.pointer (some ⟨b, 0, none⟩), .slice A len cap, .int .i64 room, .agg #[.int .u64 k, .int .i64 i, .int .i64 x]] w (DoP b G room w) := by
  have hl := h.len_le
  have hk : k % 8 = 0 ∨ k % 8 = 1 ∨ k % 8 = 2 ∨ k % 8 = 3 ∨ k % 8 = 4 ∨ k % 8 = 5 ∨ k % 8 = 6 ∨ k % 8 = 7 := by omega
  rcases hk with hk | hk | hk | hk | hk | hk | hk | hk
  · by_cases hr : len < room
    · exact do_back0 b G room A len cap z k i x w h hk hr
    · exact do_back0n b G room A len cap z k i x w h hk hr
  · by_cases hr : len < room
    · exact do_back1 b G room A len cap z k i x w h hk hr
    · exact do_back1n b G room A len cap z k i x w h hk hr
  · by_cases hr : len < room
    · exact do_front b G room A len cap z k i x w h hk hr
    · exact do_frontn b G room A len cap z k i x w h hk hr
  · by_cases hr : len < room
    · by_cases h0 : i < 0
      · exact do_putn1 b G room A len cap z k i x w h hk hr h0
      · by_cases h1 : (len : Int) < i
        · exact do_putn2 b G room A len cap z k i x w h hk hr h1
        · obtain ⟨j, rfl⟩ : ∃ j : Nat, i = j := ⟨i.toNat, by omega⟩
          exact do_put b G room A len cap z k j x w h hk hr (by omega)
    · exact do_putn0 b G room A len cap z k i x w h hk hr
  · by_cases hn : len = 0
    · exact do_firstn b G room A len cap z k i x w h hk hn
    · exact do_first b G room A len cap z k i x w h hk (by omega)
  · by_cases hn : len = 0
    · exact do_lastn b G room A len cap z k i x w h hk hn
    · exact do_last b G room A len cap z k i x w h hk (by omega)
  · by_cases hi : i < 0 ∨ (len : Int) ≤ i
    · exact do_taken b G room A len cap z k i x w h hk hi
    · obtain ⟨j, rfl⟩ : ∃ j : Nat, i = j := ⟨i.toNat, by omega⟩
      exact do_take b G room A len cap z k j x w h hk (by omega)
  · exact do_at b G room A len cap z k i x w h hk
end Go.Proofs.Ytaoaoedhlihfaaa
