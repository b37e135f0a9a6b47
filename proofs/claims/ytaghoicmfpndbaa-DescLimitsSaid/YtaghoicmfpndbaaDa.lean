/- The contracts of begin and At, the code's and the document's. -/
import Derived.Test.YtaghoicmfpndbaaDn
import Derived.Laws.NewBlocks
namespace Go.Proofs.Ytaghoicmfpndbaa
open Go.RowKit

/-- A place as it lies in memory. -/
def plC (c : Nat → Nat) (k : Nat) : Array Value := #[.int .i64 k, .int .i64 (lineA c k), .int .i64 (colA c k)]
theorem plC_congr {c d : Nat → Nat} {k : Nat} (h : ∀ j, j < k → c j = d j) : plC c k = plC d k := by
  unfold plC; rw [lineA_congr h, colA_congr h]
theorem byteAt_extract (s : ByteArray) (k j : Nat) (hj : j < k) (hk : k ≤ s.size) : byteAt (s.extract 0 k) j = byteAt s j := by
  have h1 : j < (s.extract 0 k).size := by simp; omega
  have h2 := byteAt_eq _ j h1
  rw [← h2, ← byteAt_eq s j (by omega)]
  congr 1
  rw [ByteArray.getElem_extract]
  simp only [Nat.zero_add]
/-- How many bytes are ahead of a place that is asked for. -/
def clampN (off : Int) (n : Nat) : Nat := (min (max off 0) (n : Int)).toNat
theorem clampN_le (off : Int) (n : Nat) : clampN off n ≤ n := by unfold clampN; omega
theorem clampN_eq (off : Int) (n : Nat) : min (max off 0) (n : Int) = (clampN off n : Int) := by unfold clampN; omega
theorem infoRd : (Try.prog.info? 42).map (·.size) = some 4 := by kernel_rfl
set_option maxHeartbeats 400000 in
theorem begin_any (s : ByteArray) (w : World) :
    Calls Try.prog 20 #[.string s] w fun e w' => e = .returned (.agg #[.int .i64 0, .int .i64 1, .int .i64 1, .string s]) ∧ Below w.heap.size w w' := by
  go_enter Try.func20, Try.ntmps20
  go_wp2_with fail
  exact bodyPost_ret (v := .agg #[.int .i64 0, .int .i64 1, .int .i64 1, .string s]) (by simp [results, Try.results20, go_sem]) rfl ⟨rfl, (Below.refl _ _).alloc (Nat.le_refl _) _⟩
theorem rd_new (w : World) (s : ByteArray) : Rd w.heap.size s 0 (w.alloc (.cells #[.int .i64 0, .int .i64 1, .int .i64 1, .string s] 42)) := heap_alloc_new _ _
/-- A place's block. -/
def Pl (g : Nat) (x0 x1 x2 : Value) (w : World) : Prop := w.heap[g]? = some (.cells #[x0, x1, x2] 26 (0, 0))
theorem Pl.cells {g : Nat} {x0 x1 x2 : Value} {w : World} (h : Pl g x0 x1 x2 w) :
    w.cell? ⟨g, 0, none⟩ = some x0 ∧ w.cell? ⟨g, 1, none⟩ = some x1 ∧ w.cell? ⟨g, 2, none⟩ = some x2 ∧ ∀ o, w.frozen? ⟨g, o, none⟩ = false := by
  unfold Pl at h
  refine ⟨?_, ?_, ?_, fun o => ?_⟩
  all_goals first | (unfold World.cell?; rw [h]; rfl) | (unfold World.frozen?; rw [h]; simp)
theorem Pl.set0 {g : Nat} {x0 x1 x2 : Value} {w : World} (h : Pl g x0 x1 x2 w) (v : Value) : Pl g v x1 x2 (w.setCell ⟨g, 0, none⟩ v) := heap_setCell_same w g 0 _ _ v h
theorem Pl.set1 {g : Nat} {x0 x1 x2 : Value} {w : World} (h : Pl g x0 x1 x2 w) (v : Value) : Pl g x0 v x2 (w.setCell ⟨g, 1, none⟩ v) := heap_setCell_same w g 1 _ _ v h
theorem Pl.set2 {g : Nat} {x0 x1 x2 : Value} {w : World} (h : Pl g x0 x1 x2 w) (v : Value) : Pl g x0 x1 v (w.setCell ⟨g, 2, none⟩ v) := heap_setCell_same w g 2 _ _ v h
theorem pl_new (w : World) (x0 x1 x2 : Value) : Pl w.heap.size x0 x1 x2 (w.alloc (.cells #[x0, x1, x2] 26)) := heap_alloc_new _ _
theorem Pl.keep {g : Nat} {x0 x1 x2 : Value} {w w' : World} (h : Pl g x0 x1 x2 w) (hb : w'.heap[g]? = w.heap[g]?) : Pl g x0 x1 x2 w' := hb.trans h
theorem Pl.lt {g : Nat} {x0 x1 x2 : Value} {w : World} (h : Pl g x0 x1 x2 w) : g < w.heap.size := by
  unfold Pl at h
  rcases Nat.lt_or_ge g w.heap.size with h' | h'
  · exact h'
  · rw [Array.getElem?_eq_none h'] at h; cases h
theorem res_pl {fn : Func} {R : Ending → World → Prop} {a : Act} {w : World} {t : Tmp} (h : fn.results = #[.cell t 26]) (g : Nat) (x0 x1 x2 : Value)
    (hp : a.tmps.getD t undef = .pointer (some ⟨g, 0, none⟩)) (hg : Pl g x0 x1 x2 w) (hd : a.defers = [])
    (hR : R (.returned (.agg #[x0, x1, x2])) w) : bodyPost Try.prog fn R .ret a w := by
  have hp' : a.tmps[t]?.getD undef = .pointer (some ⟨g, 0, none⟩) := by simpa using hp
  refine bodyPost_ret (v := .agg #[x0, x1, x2]) ?_ hd hR
  obtain ⟨c0, c1, c2, cf⟩ := hg.cells
  simp [results, h, hp', asAddr, go_sem, c0, c1, c2]
set_option maxHeartbeats 1000000 in
theorem at_neg (s : ByteArray) (off : Int) (hn : off < 0) (w : World) (hs : s.size ≤ 100000) :
    Calls Try.prog 18 #[.string s, .int .i64 off] w fun e w' => e = .returned (.agg (plC (byteAt s) 0)) ∧ Below w.heap.size w w' := by
  have hc : ∀ j, j < 0 → byteAt ByteArray.empty j = byteAt s j := fun j hj => by omega
  have hsz : ByteArray.empty.size = 0 := rfl
  have HC := Lib.hid hc; have HSS := Lib.hid hsz; clear hc hsz
  have P0 := Lib.hid (pl_new w (.int .i64 0) (.int .i64 0) (.int .i64 0))
  have B0 := Lib.hid ((Below.refl w.heap.size w).alloc (Nat.le_refl _) (.cells #[.int .i64 0, .int .i64 0, .int .i64 0] 26))
  go_enter Try.func18, Try.ntmps18
  go_wp2_with (go_at_call 20; (with_reducible refine (begin_any _ _).mono ?_); rintro e w1 ⟨rfl, h1⟩)
  have D1 := Lib.hid (rd_new w1 ByteArray.empty)
  have P1 := Lib.hid (P0.out.keep (h1.block _ (by simp)))
  have B1 := Lib.hid ((B0.out.trans (h1.mono (by simp))).alloc (by have := h1.size; simp at this; omega) (.cells #[.int .i64 0, .int .i64 1, .int .i64 1, .string ByteArray.empty] 42))
  have k1 : w.heap.size < w1.heap.size := Nat.lt_of_lt_of_le (by simp) h1.size
  have P2 := Lib.hid (P1.out.keep (Below.heap_alloc w1 (.cells #[.int .i64 0, .int .i64 1, .int .i64 1, .string ByteArray.empty] 42) _ k1))
  clear h1 P0 P1 B0
  generalize ByteArray.empty = s' at *
  generalize w1.alloc (.cells #[.int .i64 0, .int .i64 1, .int .i64 1, .string s'] 42) = w2 at *
  generalize w1.heap.size = b at *
  go_loopg [] s'.size (fun g wx => ∃ j, j ≤ s'.size ∧ g = s'.size - j ∧ Adv b s' j w2 wx)
  case atStart => exact ⟨0, by omega, by omega, adv_refl D1.out⟩
  case round =>
    obtain ⟨j, hj, hg, hA⟩ := hrel
    have HG := Lib.hid hg; clear hg
    by_cases hlt : j < s'.size
    · have hs' : s'.size ≤ 100000 := by rw [HSS.out]; omega
      go_wp2_with (first | (go_at_call 23; (with_reducible refine (more_yes b s' j _ hA.at hlt).mono ?_); rintro e w3 ⟨rfl, h3⟩) | (go_at_call 28; (with_reducible refine (step_any b s' j _ h3.at hlt hs').mono ?_); rintro e w4 ⟨rfl, h4⟩))
      go_roundg (s'.size - (j + 1))
      case measure => have := HG.out; omega
      case rel => exact ⟨j + 1, by omega, rfl, (hA.trans h3).trans h4⟩
    · have hle : s'.size ≤ j := by omega
      have hjk : j = 0 := by rw [← HSS.out]; omega
      have HJK := Lib.hid hjk; clear hjk
      have hpl := (P2.out.keep (hA.1.block _ P2.out.lt (by simp; omega)))
      go_wp2_with fail
      refine (more_no b s' j _ hA.at hle).mono ?_
      rintro e w3 ⟨rfl, h3⟩
      have P3 := Lib.hid (hpl.keep (h3.1.block _ hpl.lt (by simp; omega)))
      obtain ⟨c0, c1, c2, c3⟩ := h3.at.cells
      obtain ⟨y0, y1, y2, yf⟩ := P3.out.cells
      have f0 := yf 0; have f1 := yf 1; have f2 := yf 2
      have BB := Lib.hid (Below.grown B1.out (hA.1.trans h3.1) (by have := k1; have := P2.out.lt; omega) (fun k hk => by cases hk; omega))
      clear yf h3
      go_wp2_with fail
      refine res_pl rfl w.heap.size _ _ _ rfl (((P3.out.set0 _).set1 _).set2 _) rfl ⟨?_, ?_⟩
      · rw [← plC_congr HC.out, ← HJK.out]; rfl
      · exact ((BB.out.setCell (Nat.le_refl _) _).setCell (Nat.le_refl _) _).setCell (Nat.le_refl _) _
set_option maxHeartbeats 1000000 in
theorem at_in (s : ByteArray) (k : Nat) (hk : k ≤ s.size) (w : World) (hs : s.size ≤ 100000) :
    Calls Try.prog 18 #[.string s, .int .i64 k] w fun e w' => e = .returned (.agg (plC (byteAt s) k)) ∧ Below w.heap.size w w' := by
  have hc : ∀ j, j < k → byteAt (s.extract 0 k) j = byteAt s j := fun j hj => byteAt_extract s k j hj hk
  have hsz : (s.extract 0 k).size = k := by simp; omega
  have HC := Lib.hid hc; have HSS := Lib.hid hsz; clear hc hsz
  have P0 := Lib.hid (pl_new w (.int .i64 0) (.int .i64 0) (.int .i64 0))
  have B0 := Lib.hid ((Below.refl w.heap.size w).alloc (Nat.le_refl _) (.cells #[.int .i64 0, .int .i64 0, .int .i64 0] 26))
  go_enter Try.func18, Try.ntmps18
  go_wp2_with (go_at_call 20; (with_reducible refine (begin_any _ _).mono ?_); rintro e w1 ⟨rfl, h1⟩)
  have D1 := Lib.hid (rd_new w1 (s.extract 0 k))
  have P1 := Lib.hid (P0.out.keep (h1.block _ (by simp)))
  have B1 := Lib.hid ((B0.out.trans (h1.mono (by simp))).alloc (by have := h1.size; simp at this; omega) (.cells #[.int .i64 0, .int .i64 1, .int .i64 1, .string (s.extract 0 k)] 42))
  have k1 : w.heap.size < w1.heap.size := Nat.lt_of_lt_of_le (by simp) h1.size
  have P2 := Lib.hid (P1.out.keep (Below.heap_alloc w1 (.cells #[.int .i64 0, .int .i64 1, .int .i64 1, .string (s.extract 0 k)] 42) _ k1))
  clear h1 P0 P1 B0
  generalize (s.extract 0 k) = s' at *
  generalize w1.alloc (.cells #[.int .i64 0, .int .i64 1, .int .i64 1, .string s'] 42) = w2 at *
  generalize w1.heap.size = b at *
  go_loopg [] s'.size (fun g wx => ∃ j, j ≤ s'.size ∧ g = s'.size - j ∧ Adv b s' j w2 wx)
  case atStart => exact ⟨0, by omega, by omega, adv_refl D1.out⟩
  case round =>
    obtain ⟨j, hj, hg, hA⟩ := hrel
    have HG := Lib.hid hg; clear hg
    by_cases hlt : j < s'.size
    · have hs' : s'.size ≤ 100000 := by rw [HSS.out]; omega
      go_wp2_with (first | (go_at_call 23; (with_reducible refine (more_yes b s' j _ hA.at hlt).mono ?_); rintro e w3 ⟨rfl, h3⟩) | (go_at_call 28; (with_reducible refine (step_any b s' j _ h3.at hlt hs').mono ?_); rintro e w4 ⟨rfl, h4⟩))
      go_roundg (s'.size - (j + 1))
      case measure => have := HG.out; omega
      case rel => exact ⟨j + 1, by omega, rfl, (hA.trans h3).trans h4⟩
    · have hle : s'.size ≤ j := by omega
      have hjk : j = k := by rw [← HSS.out]; omega
      have HJK := Lib.hid hjk; clear hjk
      have hpl := (P2.out.keep (hA.1.block _ P2.out.lt (by simp; omega)))
      go_wp2_with fail
      refine (more_no b s' j _ hA.at hle).mono ?_
      rintro e w3 ⟨rfl, h3⟩
      have P3 := Lib.hid (hpl.keep (h3.1.block _ hpl.lt (by simp; omega)))
      obtain ⟨c0, c1, c2, c3⟩ := h3.at.cells
      obtain ⟨y0, y1, y2, yf⟩ := P3.out.cells
      have f0 := yf 0; have f1 := yf 1; have f2 := yf 2
      have BB := Lib.hid (Below.grown B1.out (hA.1.trans h3.1) (by have := k1; have := P2.out.lt; omega) (fun k hk => by cases hk; omega))
      clear yf h3
      go_wp2_with fail
      refine res_pl rfl w.heap.size _ _ _ rfl (((P3.out.set0 _).set1 _).set2 _) rfl ⟨?_, ?_⟩
      · rw [← plC_congr HC.out, ← HJK.out]; rfl
      · exact ((BB.out.setCell (Nat.le_refl _) _).setCell (Nat.le_refl _) _).setCell (Nat.le_refl _) _
set_option maxHeartbeats 1000000 in
theorem at_over (s : ByteArray) (off : Int) (hn : (s.size : Int) < off) (w : World) (hs : s.size ≤ 100000) :
    Calls Try.prog 18 #[.string s, .int .i64 off] w fun e w' => e = .returned (.agg (plC (byteAt s) s.size)) ∧ Below w.heap.size w w' := by
  have P0 := Lib.hid (pl_new w (.int .i64 0) (.int .i64 0) (.int .i64 0))
  have B0 := Lib.hid ((Below.refl w.heap.size w).alloc (Nat.le_refl _) (.cells #[.int .i64 0, .int .i64 0, .int .i64 0] 26))
  go_enter Try.func18, Try.ntmps18
  go_wp2_with (go_at_call 20; (with_reducible refine (begin_any _ _).mono ?_); rintro e w1 ⟨rfl, h1⟩)
  have D1 := Lib.hid (rd_new w1 s)
  have P1 := Lib.hid (P0.out.keep (h1.block _ (by simp)))
  have B1 := Lib.hid ((B0.out.trans (h1.mono (by simp))).alloc (by have := h1.size; simp at this; omega) (.cells #[.int .i64 0, .int .i64 1, .int .i64 1, .string s] 42))
  have k1 : w.heap.size < w1.heap.size := Nat.lt_of_lt_of_le (by simp) h1.size
  have P2 := Lib.hid (P1.out.keep (Below.heap_alloc w1 (.cells #[.int .i64 0, .int .i64 1, .int .i64 1, .string s] 42) _ k1))
  clear h1 P0 P1 B0
  generalize w1.alloc (.cells #[.int .i64 0, .int .i64 1, .int .i64 1, .string s] 42) = w2 at *
  generalize w1.heap.size = b at *
  go_loopg [] s.size (fun g wx => ∃ j, j ≤ s.size ∧ g = s.size - j ∧ Adv b s j w2 wx)
  case atStart => exact ⟨0, by omega, by omega, adv_refl D1.out⟩
  case round =>
    obtain ⟨j, hj, hg, hA⟩ := hrel
    have HG := Lib.hid hg; clear hg
    by_cases hlt : j < s.size
    · go_wp2_with (first | (go_at_call 23; (with_reducible refine (more_yes b s j _ hA.at hlt).mono ?_); rintro e w3 ⟨rfl, h3⟩) | (go_at_call 28; (with_reducible refine (step_any b s j _ h3.at hlt hs).mono ?_); rintro e w4 ⟨rfl, h4⟩))
      go_roundg (s.size - (j + 1))
      case measure => have := HG.out; omega
      case rel => exact ⟨j + 1, by omega, rfl, (hA.trans h3).trans h4⟩
    · have hle : s.size ≤ j := by omega
      have hjk : j = s.size := by omega
      have HJK := Lib.hid hjk; clear hjk
      have hpl := (P2.out.keep (hA.1.block _ P2.out.lt (by simp; omega)))
      go_wp2_with fail
      refine (more_no b s j _ hA.at hle).mono ?_
      rintro e w3 ⟨rfl, h3⟩
      have P3 := Lib.hid (hpl.keep (h3.1.block _ hpl.lt (by simp; omega)))
      obtain ⟨c0, c1, c2, c3⟩ := h3.at.cells
      obtain ⟨y0, y1, y2, yf⟩ := P3.out.cells
      have f0 := yf 0; have f1 := yf 1; have f2 := yf 2
      have BB := Lib.hid (Below.grown B1.out (hA.1.trans h3.1) (by have := k1; have := P2.out.lt; omega) (fun k hk => by cases hk; omega))
      clear yf h3
      go_wp2_with fail
      refine res_pl rfl w.heap.size _ _ _ rfl (((P3.out.set0 _).set1 _).set2 _) rfl ⟨?_, ?_⟩
      · rw [← HJK.out] <;> rfl
      · exact ((BB.out.setCell (Nat.le_refl _) _).setCell (Nat.le_refl _) _).setCell (Nat.le_refl _) _
theorem at_any (s : ByteArray) (off : Int) (w : World) (hs : s.size ≤ 100000) :
    Calls Try.prog 18 #[.string s, .int .i64 off] w fun e w' => e = .returned (.agg (plC (byteAt s) (clampN off s.size))) ∧ Below w.heap.size w w' := by
  by_cases h1 : off < 0
  · rw [show clampN off s.size = 0 by unfold clampN; omega]; exact at_neg s off h1 w hs
  · by_cases h2 : (s.size : Int) < off
    · rw [show clampN off s.size = s.size by unfold clampN; omega]; exact at_over s off h2 w hs
    · obtain ⟨k, rfl⟩ := Int.eq_ofNat_of_zero_le (show 0 ≤ off by omega)
      rw [show clampN (k : Int) s.size = k by unfold clampN; omega]; exact at_in s k (by omega) w hs
end Go.Proofs.Ytaghoicmfpndbaa
