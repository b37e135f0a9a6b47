/- The contract of the reader's next. -/
import Derived.Test.YtaghoicmfpndbaaDt
import Derived.StillTailTactics
namespace Go.Proofs.Ytaghoicmfpndbaa
open Go.RowKit

theorem Rd.lt {b : Nat} {s : ByteArray} {i : Nat} {w : World} (h : Rd b s i w) : b < w.heap.size := by
  unfold Rd at h
  rcases Nat.lt_or_ge b w.heap.size with h' | h'
  · exact h'
  · rw [Array.getElem?_eq_none h'] at h; cases h
theorem Rd.alloc {b : Nat} {s : ByteArray} {i : Nat} {w : World} (h : Rd b s i w) (o : Obj) : Rd b s i (w.alloc o) := (Below.heap_alloc w o b h.lt).trans h
theorem Rd.set {b : Nat} {s : ByteArray} {i : Nat} {w : World} (h : Rd b s i w) (a : Addr) (v : Value) (hne : b ≠ a.block) : Rd b s i (w.setCell a v) := (heap_setCell_other w a b v hne).trans h
/-- A token as it lies in memory. -/
def tokC (s : ByteArray) (k a e : Nat) : Array Value := #[.int .i64 k, .string (s.extract a e), .int .i64 a, .int .i64 (lineA (byteAt s) a), .int .i64 (colA (byteAt s) a)]
/-- A token's block. -/
def Tk (g : Nat) (x0 x1 x2 x3 x4 : Value) (w : World) : Prop := w.heap[g]? = some (.cells #[x0, x1, x2, x3, x4] 33 (0, 0))
theorem Tk.cells {g : Nat} {x0 x1 x2 x3 x4 : Value} {w : World} (h : Tk g x0 x1 x2 x3 x4 w) :
    w.cell? ⟨g, 0, none⟩ = some x0 ∧ w.cell? ⟨g, 1, none⟩ = some x1 ∧ w.cell? ⟨g, 2, none⟩ = some x2 ∧ w.cell? ⟨g, 3, none⟩ = some x3 ∧ w.cell? ⟨g, 4, none⟩ = some x4 ∧ ∀ o, w.frozen? ⟨g, o, none⟩ = false := by
  unfold Tk at h
  refine ⟨?_, ?_, ?_, ?_, ?_, fun o => ?_⟩
  all_goals first | (unfold World.cell?; rw [h]; rfl) | (unfold World.frozen?; rw [h]; simp)
theorem Tk.adv {g b : Nat} {x0 x1 x2 x3 x4 : Value} {s : ByteArray} {i : Nat} {w w' : World} (h : Tk g x0 x1 x2 x3 x4 w) (ha : Adv b s i w w') (hne : g ≠ b) : Tk g x0 x1 x2 x3 x4 w' := by
  have hlt : g < w.heap.size := by
    unfold Tk at h
    rcases Nat.lt_or_ge g w.heap.size with h' | h'
    · exact h'
    · rw [Array.getElem?_eq_none h'] at h; cases h
  exact (ha.1.block g hlt (by simpa using hne)).trans h
theorem Tk.set0 {g : Nat} {x0 x1 x2 x3 x4 : Value} {w : World} (h : Tk g x0 x1 x2 x3 x4 w) (v : Value) : Tk g v x1 x2 x3 x4 (w.setCell ⟨g, 0, none⟩ v) := heap_setCell_same w g 0 _ _ v h
theorem Tk.set1 {g : Nat} {x0 x1 x2 x3 x4 : Value} {w : World} (h : Tk g x0 x1 x2 x3 x4 w) (v : Value) : Tk g x0 v x2 x3 x4 (w.setCell ⟨g, 1, none⟩ v) := heap_setCell_same w g 1 _ _ v h
theorem Tk.other {g : Nat} {x0 x1 x2 x3 x4 : Value} {w : World} (h : Tk g x0 x1 x2 x3 x4 w) (a : Addr) (v : Value) (hne : g ≠ a.block) : Tk g x0 x1 x2 x3 x4 (w.setCell a v) := (heap_setCell_other w a g v hne).trans h
theorem tk_new (w : World) (x0 x1 x2 x3 x4 : Value) : Tk w.heap.size x0 x1 x2 x3 x4 (w.alloc (.cells #[x0, x1, x2, x3, x4] 33)) := heap_alloc_new _ _
theorem tk_old {g : Nat} {x0 x1 x2 x3 x4 : Value} {w : World} (h : Tk g x0 x1 x2 x3 x4 w) (hlt : g < w.heap.size) (o : Obj) : Tk g x0 x1 x2 x3 x4 (w.alloc o) := (Below.heap_alloc w o g hlt).trans h
theorem Tk.set2 {g : Nat} {x0 x1 x2 x3 x4 : Value} {w : World} (h : Tk g x0 x1 x2 x3 x4 w) (v : Value) : Tk g x0 x1 v x3 x4 (w.setCell ⟨g, 2, none⟩ v) := heap_setCell_same w g 2 _ _ v h
theorem Tk.set3 {g : Nat} {x0 x1 x2 x3 x4 : Value} {w : World} (h : Tk g x0 x1 x2 x3 x4 w) (v : Value) : Tk g x0 x1 x2 v x4 (w.setCell ⟨g, 3, none⟩ v) := heap_setCell_same w g 3 _ _ v h
theorem Tk.set4 {g : Nat} {x0 x1 x2 x3 x4 : Value} {w : World} (h : Tk g x0 x1 x2 x3 x4 w) (v : Value) : Tk g x0 x1 x2 x3 v (w.setCell ⟨g, 4, none⟩ v) := heap_setCell_same w g 4 _ _ v h
theorem infoTok : (Try.prog.info? 33).map (·.size) = some 5 := by kernel_rfl
theorem res_tok {fn : Func} {R : Ending → World → Prop} {a : Act} {w : World} {t u : Tmp} (h : fn.results = #[.cell t 33, .tmp u]) (g : Nat) (x0 x1 x2 x3 x4 : Value)
    (hp : a.tmps.getD t undef = .pointer (some ⟨g, 0, none⟩)) (hg : Tk g x0 x1 x2 x3 x4 w) (hd : a.defers = [])
    (hR : R (.returned (.tuple #[.agg #[x0, x1, x2, x3, x4], a.tmps.getD u undef])) w) : bodyPost Try.prog fn R .ret a w := by
  have hp' : a.tmps[t]?.getD undef = .pointer (some ⟨g, 0, none⟩) := by simpa using hp
  refine bodyPost_ret (v := .tuple #[.agg #[x0, x1, x2, x3, x4], a.tmps.getD u undef]) ?_ hd hR
  obtain ⟨c0, c1, c2, c3, c4, cf⟩ := hg.cells
  simp [results, h, hp', asAddr, go_sem, c0, c1, c2, c3, c4]
theorem but_alloc {b : Nat} {w w' : World} (h : w.grownBy w' (some b)) (o : Obj) : w.grownBy (w'.alloc o) (some b) :=
  ⟨h.os, h.tape, h.output, Nat.le_trans h.size (by simp), fun k hk hn => (Below.heap_alloc w' o k (Nat.lt_of_lt_of_le hk h.size)).trans (h.block k hk hn)⟩
theorem but_set {b : Nat} {w w' : World} (h : w.grownBy w' (some b)) (a : Addr) (v : Value) (hb : w.heap.size ≤ a.block) : w.grownBy (w'.setCell a v) (some b) :=
  ⟨h.os, h.tape, h.output, by simpa using h.size, fun k hk hn => (heap_setCell_other w' a k v (by omega)).trans (h.block k hk hn)⟩
theorem but_drew {b : Nat} {w w' : World} (h : w.grownBy w' (some b)) : w.grownBy w'.drew (some b) := ⟨h.os, h.tape, h.output, h.size, h.block⟩
theorem but_refl (b : Nat) (w : World) : w.grownBy w (some b) := ⟨rfl, rfl, rfl, Nat.le_refl _, fun _ _ _ => rfl⟩
/-- The world when the token's own box and the result's are made. -/
def boxes (s : ByteArray) (i : Nat) (w : World) : World := (w.alloc (.cells #[.int .i64 0, .string { data := #[] }, .int .i64 0, .int .i64 0, .int .i64 0] 33)).alloc (.cells #[.int .i64 0, .string { data := #[] }, .int .i64 i, .int .i64 (lineA (byteAt s) i), .int .i64 (colA (byteAt s) i)] 33)
theorem boxes_0 (s : ByteArray) (i : Nat) (w : World) : Tk w.heap.size (.int .i64 0) (.string { data := #[] }) (.int .i64 0) (.int .i64 0) (.int .i64 0) (boxes s i w) := tk_old (tk_new _ _ _ _ _ _) (by simp) _
theorem boxes_1 (s : ByteArray) (i : Nat) (w : World) : Tk (w.heap.size + 1) (.int .i64 0) (.string { data := #[] }) (.int .i64 i) (.int .i64 (lineA (byteAt s) i)) (.int .i64 (colA (byteAt s) i)) (boxes s i w) := by
  have := tk_new (w.alloc (.cells #[.int .i64 0, .string { data := #[] }, .int .i64 0, .int .i64 0, .int .i64 0] 33)) (.int .i64 0) (.string { data := #[] }) (.int .i64 i) (.int .i64 (lineA (byteAt s) i)) (.int .i64 (colA (byteAt s) i))
  unfold boxes; simpa using this
theorem boxes_rd {b : Nat} {s : ByteArray} {i : Nat} {w : World} (h : Rd b s i w) : Rd b s i (boxes s i w) := (h.alloc _).alloc _
theorem boxes_but (b : Nat) (s : ByteArray) (i : Nat) (w : World) : w.grownBy (boxes s i w) (some b) := but_alloc (but_alloc (but_refl b w) _) _
theorem boxes_size (s : ByteArray) (i : Nat) (w : World) : (boxes s i w).heap.size = w.heap.size + 2 := by simp [boxes]
set_option maxHeartbeats 2000000 in
theorem next_word (b : Nat) (s : ByteArray) (i : Nat) (w : World) (E : Nat) (hE : runEnd nameB (byteAt s) s.size i = E) (he : E - i ≤ 32) (h : Rd b s i w) (hi : i < s.size) (hs : s.size ≤ 100000) (b0 : lowB (byteAt s i) = true) :
    Calls Try.prog 24 #[.pointer (some ⟨b, 0, none⟩)] w fun e w' => e = .returned (.tuple #[.agg (tokC s 1 i E), .int .i64 0]) ∧ Adv b s E w w' := by
  obtain ⟨c0, c1, c2, c3⟩ := h.cells
  have hl := lineA_le (byteAt s) i
  have hc := colA_le (byteAt s) i
  have hEs := runEnd_spec nameB (byteAt s) s.size i (by omega)
  rw [hE] at hEs
  obtain ⟨hE1, hE2, -, -⟩ := hEs
  have HE := Lib.hid hE; clear hE
  have q0 := isLetter_any (byteAt s i)
  rw [b0] at q0
  have Q0 := Lib.hid q0; clear q0 b0
  have hlt := h.lt
  have R0 := Lib.hid (boxes_0 s i w); have T0 := Lib.hid (boxes_1 s i w); have D0 := Lib.hid (boxes_rd h); have G0 := Lib.hid (boxes_but b s i w)
  have hz0 := boxes_size s i w
  have HZ0 := Lib.hid hz0; clear hz0
  have HH := Lib.hid h; clear h
  go_enter Try.func24, Try.ntmps24
  go_wp2_with fail
  clear c0 c1 c2 c3
  refine (here_any b s i (boxes s i w) D0.out hi).mono ?_
  rintro e w1 ⟨rfl, h1⟩
  have R1 := Lib.hid (R0.out.adv h1 (by omega))
  have t1 := T0.out.adv h1 (by omega)
  have D1 := Lib.hid h1.at
  have hz1 : w.heap.size + 1 < w1.heap.size := Nat.lt_of_lt_of_le (by rw [HZ0.out]; omega) h1.1.size
  have G1 := Lib.hid (G0.out.trans h1.1)
  clear h1 R0 T0 D0 G0
  obtain ⟨x0, x1, x2, x3, x4, xf⟩ := t1.cells
  have T1 := Lib.hid t1; clear t1
  have f0 := xf 0; clear xf
  go_wp2_with (first | (go_at_call 26; (with_reducible refine (Q0.out _).mono ?_); rintro e wq ⟨rfl, rfl⟩))
  clear x0 x1 x2 x3 x4 f0
  refine (pass_name b s i _ (D1.out.set _ _ (by simp; omega)) (by omega) hs).mono ?_
  rintro e w2 ⟨rfl, h2⟩
  rw [HE.out] at h2
  have R2 := Lib.hid ((R1.out.other _ _ (by simp)).adv h2 (by omega))
  have t2 := (T1.out.set0 (.int .i64 1)).adv h2 (by omega)
  have d2 := h2.at
  have G2 := Lib.hid ((but_set G1.out ⟨w.heap.size + 1, 0, none⟩ (.int .i64 1) (by simp)).trans h2.1)
  clear h2 R1 T1 D1 G1
  obtain ⟨x0, x1, x2, x3, x4, xf⟩ := t2.cells
  obtain ⟨c0, c1, c2, c3⟩ := d2.cells
  have T2 := Lib.hid t2; have D2 := Lib.hid d2; clear t2 d2 c1 c2
  have f1 := xf 1; clear xf
  have hi1 : (0 : Int) ≤ (i : Int) := by omega
  have hi2 : (i : Int) ≤ (E : Int) := by omega
  have hi3 : (E : Int) ≤ (s.size : Int) := by omega
  go_wp2_with fail
  go_still_tail 14, (by kernel_rfl)
  change wpList _ _ _ _ _ w2.drew
  have T3 : Hid (Tk (w.heap.size + 1) (.int .i64 1) (.string { data := #[] }) (.int .i64 i) (.int .i64 (lineA (byteAt s) i)) (.int .i64 (colA (byteAt s) i)) w2.drew) := T2.out
  have R3 : Hid (Tk w.heap.size (.int .i64 0) (.string { data := #[] }) (.int .i64 0) (.int .i64 0) (.int .i64 0) w2.drew) := R2.out
  have D3 : Hid (Rd b s E w2.drew) := D2.out
  have G3 := Lib.hid (but_drew G2.out)
  clear x0 x1 x2 x3 x4 c0 c3 f1 T2 R2 D2 G2
  generalize w2.drew = w3 at *
  obtain ⟨x0, x1, x2, x3, x4, xf⟩ := T3.out.cells
  obtain ⟨y0, y1, y2, y3, y4, yf⟩ := R3.out.cells
  have f0 := xf 0; have f1 := xf 1; have f2 := xf 2; have f3 := xf 3; have f4 := xf 4
  have g0 := yf 0; have g1 := yf 1; have g2 := yf 2; have g3 := yf 3; have g4 := yf 4
  clear xf yf
  have hsz : (s.extract i E).size = E - i := by simp; omega
  have hd : decide (32 < E - i) = false := by simpa using he
  go_wp2_with fail
  refine res_tok rfl w.heap.size (.int .i64 1) (.string (s.extract i E)) (.int .i64 i) (.int .i64 (lineA (byteAt s) i)) (.int .i64 (colA (byteAt s) i)) rfl ?_ rfl ⟨rfl, ?_, ?_⟩
  · exact (((((R3.out.other _ _ (by simp)).set0 _).set1 _).set2 _).set3 _).set4 _
  · exact but_set (but_set (but_set (but_set (but_set (but_set G3.out _ _ (by simp)) _ _ (Nat.le_refl _)) _ _ (Nat.le_refl _)) _ _ (Nat.le_refl _)) _ _ (Nat.le_refl _)) _ _ (Nat.le_refl _)
  · exact (((((D3.out.set _ _ (by simp; omega)).set _ _ (by simp; omega)).set _ _ (by simp; omega)).set _ _ (by simp; omega)).set _ _ (by simp; omega)).set _ _ (by simp; omega)
set_option maxHeartbeats 2000000 in
theorem next_long (b : Nat) (s : ByteArray) (i : Nat) (w : World) (E : Nat) (hE : runEnd nameB (byteAt s) s.size i = E) (he : 32 < E - i) (h : Rd b s i w) (hi : i < s.size) (hs : s.size ≤ 100000) (b0 : lowB (byteAt s i) = true) :
    Calls Try.prog 24 #[.pointer (some ⟨b, 0, none⟩)] w fun e w' => e = .returned (.tuple #[.agg (tokC s 1 i E), .int .i64 2]) ∧ Adv b s E w w' := by
  obtain ⟨c0, c1, c2, c3⟩ := h.cells
  have hl := lineA_le (byteAt s) i
  have hc := colA_le (byteAt s) i
  have hEs := runEnd_spec nameB (byteAt s) s.size i (by omega)
  rw [hE] at hEs
  obtain ⟨hE1, hE2, -, -⟩ := hEs
  have HE := Lib.hid hE; clear hE
  have q0 := isLetter_any (byteAt s i)
  rw [b0] at q0
  have Q0 := Lib.hid q0; clear q0 b0
  have hlt := h.lt
  have R0 := Lib.hid (boxes_0 s i w); have T0 := Lib.hid (boxes_1 s i w); have D0 := Lib.hid (boxes_rd h); have G0 := Lib.hid (boxes_but b s i w)
  have hz0 := boxes_size s i w
  have HZ0 := Lib.hid hz0; clear hz0
  have HH := Lib.hid h; clear h
  go_enter Try.func24, Try.ntmps24
  go_wp2_with fail
  clear c0 c1 c2 c3
  refine (here_any b s i (boxes s i w) D0.out hi).mono ?_
  rintro e w1 ⟨rfl, h1⟩
  have R1 := Lib.hid (R0.out.adv h1 (by omega))
  have t1 := T0.out.adv h1 (by omega)
  have D1 := Lib.hid h1.at
  have hz1 : w.heap.size + 1 < w1.heap.size := Nat.lt_of_lt_of_le (by rw [HZ0.out]; omega) h1.1.size
  have G1 := Lib.hid (G0.out.trans h1.1)
  clear h1 R0 T0 D0 G0
  obtain ⟨x0, x1, x2, x3, x4, xf⟩ := t1.cells
  have T1 := Lib.hid t1; clear t1
  have f0 := xf 0; clear xf
  go_wp2_with (first | (go_at_call 26; (with_reducible refine (Q0.out _).mono ?_); rintro e wq ⟨rfl, rfl⟩))
  clear x0 x1 x2 x3 x4 f0
  refine (pass_name b s i _ (D1.out.set _ _ (by simp; omega)) (by omega) hs).mono ?_
  rintro e w2 ⟨rfl, h2⟩
  rw [HE.out] at h2
  have R2 := Lib.hid ((R1.out.other _ _ (by simp)).adv h2 (by omega))
  have t2 := (T1.out.set0 (.int .i64 1)).adv h2 (by omega)
  have d2 := h2.at
  have G2 := Lib.hid ((but_set G1.out ⟨w.heap.size + 1, 0, none⟩ (.int .i64 1) (by simp)).trans h2.1)
  clear h2 R1 T1 D1 G1
  obtain ⟨x0, x1, x2, x3, x4, xf⟩ := t2.cells
  obtain ⟨c0, c1, c2, c3⟩ := d2.cells
  have T2 := Lib.hid t2; have D2 := Lib.hid d2; clear t2 d2 c1 c2
  have f1 := xf 1; clear xf
  have hi1 : (0 : Int) ≤ (i : Int) := by omega
  have hi2 : (i : Int) ≤ (E : Int) := by omega
  have hi3 : (E : Int) ≤ (s.size : Int) := by omega
  go_wp2_with fail
  go_still_tail 14, (by kernel_rfl)
  change wpList _ _ _ _ _ w2.drew
  have T3 : Hid (Tk (w.heap.size + 1) (.int .i64 1) (.string { data := #[] }) (.int .i64 i) (.int .i64 (lineA (byteAt s) i)) (.int .i64 (colA (byteAt s) i)) w2.drew) := T2.out
  have R3 : Hid (Tk w.heap.size (.int .i64 0) (.string { data := #[] }) (.int .i64 0) (.int .i64 0) (.int .i64 0) w2.drew) := R2.out
  have D3 : Hid (Rd b s E w2.drew) := D2.out
  have G3 := Lib.hid (but_drew G2.out)
  clear x0 x1 x2 x3 x4 c0 c3 f1 T2 R2 D2 G2
  generalize w2.drew = w3 at *
  obtain ⟨x0, x1, x2, x3, x4, xf⟩ := T3.out.cells
  obtain ⟨y0, y1, y2, y3, y4, yf⟩ := R3.out.cells
  have f0 := xf 0; have f1 := xf 1; have f2 := xf 2; have f3 := xf 3; have f4 := xf 4
  have g0 := yf 0; have g1 := yf 1; have g2 := yf 2; have g3 := yf 3; have g4 := yf 4
  clear xf yf
  have hsz : (s.extract i E).size = E - i := by simp; omega
  have hd : decide (32 < E - i) = true := by simpa using he
  go_wp2_with fail
  refine res_tok rfl w.heap.size (.int .i64 1) (.string (s.extract i E)) (.int .i64 i) (.int .i64 (lineA (byteAt s) i)) (.int .i64 (colA (byteAt s) i)) rfl ?_ rfl ⟨rfl, ?_, ?_⟩
  · exact (((((R3.out.other _ _ (by simp)).set0 _).set1 _).set2 _).set3 _).set4 _
  · exact but_set (but_set (but_set (but_set (but_set (but_set G3.out _ _ (by simp)) _ _ (Nat.le_refl _)) _ _ (Nat.le_refl _)) _ _ (Nat.le_refl _)) _ _ (Nat.le_refl _)) _ _ (Nat.le_refl _)
  · exact (((((D3.out.set _ _ (by simp; omega)).set _ _ (by simp; omega)).set _ _ (by simp; omega)).set _ _ (by simp; omega)).set _ _ (by simp; omega)).set _ _ (by simp; omega)
set_option maxHeartbeats 2000000 in
theorem next_list (b : Nat) (s : ByteArray) (i : Nat) (w : World) (E : Nat) (hE : runEnd listB (byteAt s) s.size i = E) (h : Rd b s i w) (hi : i < s.size) (hs : s.size ≤ 100000) (b0 : lowB (byteAt s i) = false) (b1 : digB (byteAt s i) = true) :
    Calls Try.prog 24 #[.pointer (some ⟨b, 0, none⟩)] w fun e w' => e = .returned (.tuple #[.agg (tokC s 2 i E), .int .i64 0]) ∧ Adv b s E w w' := by
  obtain ⟨c0, c1, c2, c3⟩ := h.cells
  have hl := lineA_le (byteAt s) i
  have hc := colA_le (byteAt s) i
  have hEs := runEnd_spec listB (byteAt s) s.size i (by omega)
  rw [hE] at hEs
  obtain ⟨hE1, hE2, -, -⟩ := hEs
  have HE := Lib.hid hE; clear hE
  have q0 := isLetter_any (byteAt s i)
  rw [b0] at q0
  have Q0 := Lib.hid q0; clear q0 b0
  have q1 := isDigit_any (byteAt s i)
  rw [b1] at q1
  have Q1 := Lib.hid q1; clear q1 b1
  have hlt := h.lt
  have R0 := Lib.hid (boxes_0 s i w); have T0 := Lib.hid (boxes_1 s i w); have D0 := Lib.hid (boxes_rd h); have G0 := Lib.hid (boxes_but b s i w)
  have hz0 := boxes_size s i w
  have HZ0 := Lib.hid hz0; clear hz0
  have HH := Lib.hid h; clear h
  go_enter Try.func24, Try.ntmps24
  go_wp2_with fail
  clear c0 c1 c2 c3
  refine (here_any b s i (boxes s i w) D0.out hi).mono ?_
  rintro e w1 ⟨rfl, h1⟩
  have R1 := Lib.hid (R0.out.adv h1 (by omega))
  have t1 := T0.out.adv h1 (by omega)
  have D1 := Lib.hid h1.at
  have hz1 : w.heap.size + 1 < w1.heap.size := Nat.lt_of_lt_of_le (by rw [HZ0.out]; omega) h1.1.size
  have G1 := Lib.hid (G0.out.trans h1.1)
  clear h1 R0 T0 D0 G0
  obtain ⟨x0, x1, x2, x3, x4, xf⟩ := t1.cells
  have T1 := Lib.hid t1; clear t1
  have f0 := xf 0; clear xf
  go_wp2_with (first | (go_at_call 26; (with_reducible refine (Q0.out _).mono ?_); rintro e wq ⟨rfl, rfl⟩) | (go_at_call 34; (with_reducible refine (Q1.out _).mono ?_); rintro e wq ⟨rfl, rfl⟩))
  clear x0 x1 x2 x3 x4 f0
  refine (pass_list b s i _ (D1.out.set _ _ (by simp; omega)) (by omega) hs).mono ?_
  rintro e w2 ⟨rfl, h2⟩
  rw [HE.out] at h2
  have R2 := Lib.hid ((R1.out.other _ _ (by simp)).adv h2 (by omega))
  have t2 := (T1.out.set0 (.int .i64 2)).adv h2 (by omega)
  have d2 := h2.at
  have G2 := Lib.hid ((but_set G1.out ⟨w.heap.size + 1, 0, none⟩ (.int .i64 2) (by simp)).trans h2.1)
  clear h2 R1 T1 D1 G1
  obtain ⟨x0, x1, x2, x3, x4, xf⟩ := t2.cells
  obtain ⟨c0, c1, c2, c3⟩ := d2.cells
  have T2 := Lib.hid t2; have D2 := Lib.hid d2; clear t2 d2 c1 c2
  have f1 := xf 1; clear xf
  have hi1 : (0 : Int) ≤ (i : Int) := by omega
  have hi2 : (i : Int) ≤ (E : Int) := by omega
  have hi3 : (E : Int) ≤ (s.size : Int) := by omega
  go_wp2_with fail
  go_still_tail 14, (by kernel_rfl)
  change wpList _ _ _ _ _ w2.drew
  have T3 : Hid (Tk (w.heap.size + 1) (.int .i64 2) (.string { data := #[] }) (.int .i64 i) (.int .i64 (lineA (byteAt s) i)) (.int .i64 (colA (byteAt s) i)) w2.drew) := T2.out
  have R3 : Hid (Tk w.heap.size (.int .i64 0) (.string { data := #[] }) (.int .i64 0) (.int .i64 0) (.int .i64 0) w2.drew) := R2.out
  have D3 : Hid (Rd b s E w2.drew) := D2.out
  have G3 := Lib.hid (but_drew G2.out)
  clear x0 x1 x2 x3 x4 c0 c3 f1 T2 R2 D2 G2
  generalize w2.drew = w3 at *
  obtain ⟨x0, x1, x2, x3, x4, xf⟩ := T3.out.cells
  obtain ⟨y0, y1, y2, y3, y4, yf⟩ := R3.out.cells
  have f0 := xf 0; have f1 := xf 1; have f2 := xf 2; have f3 := xf 3; have f4 := xf 4
  have g0 := yf 0; have g1 := yf 1; have g2 := yf 2; have g3 := yf 3; have g4 := yf 4
  clear xf yf
  have hsz : (s.extract i E).size = E - i := by simp; omega
  go_wp2_with fail
  refine res_tok rfl w.heap.size (.int .i64 2) (.string (s.extract i E)) (.int .i64 i) (.int .i64 (lineA (byteAt s) i)) (.int .i64 (colA (byteAt s) i)) rfl ?_ rfl ⟨rfl, ?_, ?_⟩
  · exact (((((R3.out.other _ _ (by simp)).set0 _).set1 _).set2 _).set3 _).set4 _
  · exact but_set (but_set (but_set (but_set (but_set (but_set G3.out _ _ (by simp)) _ _ (Nat.le_refl _)) _ _ (Nat.le_refl _)) _ _ (Nat.le_refl _)) _ _ (Nat.le_refl _)) _ _ (Nat.le_refl _)
  · exact (((((D3.out.set _ _ (by simp; omega)).set _ _ (by simp; omega)).set _ _ (by simp; omega)).set _ _ (by simp; omega)).set _ _ (by simp; omega)).set _ _ (by simp; omega)
set_option maxHeartbeats 2000000 in
theorem next_sign (b : Nat) (s : ByteArray) (i : Nat) (w : World) (h : Rd b s i w) (hi : i < s.size) (hs : s.size ≤ 100000) (b0 : lowB (byteAt s i) = false) (b1 : digB (byteAt s i) = false) (b2 : signB (byteAt s i) = true) :
    Calls Try.prog 24 #[.pointer (some ⟨b, 0, none⟩)] w fun e w' => e = .returned (.tuple #[.agg (tokC s 3 i (i + 1)), .int .i64 0]) ∧ Adv b s (i + 1) w w' := by
  obtain ⟨c0, c1, c2, c3⟩ := h.cells
  have hl := lineA_le (byteAt s) i
  have hc := colA_le (byteAt s) i
  have q0 := isLetter_any (byteAt s i)
  rw [b0] at q0
  have Q0 := Lib.hid q0; clear q0 b0
  have q1 := isDigit_any (byteAt s i)
  rw [b1] at q1
  have Q1 := Lib.hid q1; clear q1 b1
  have q2 := isSign_any (byteAt s i)
  rw [b2] at q2
  have Q2 := Lib.hid q2; clear q2 b2
  have hlt := h.lt
  have R0 := Lib.hid (boxes_0 s i w); have T0 := Lib.hid (boxes_1 s i w); have D0 := Lib.hid (boxes_rd h); have G0 := Lib.hid (boxes_but b s i w)
  have hz0 := boxes_size s i w
  have HZ0 := Lib.hid hz0; clear hz0
  have HH := Lib.hid h; clear h
  go_enter Try.func24, Try.ntmps24
  go_wp2_with fail
  clear c0 c1 c2 c3
  refine (here_any b s i (boxes s i w) D0.out hi).mono ?_
  rintro e w1 ⟨rfl, h1⟩
  have R1 := Lib.hid (R0.out.adv h1 (by omega))
  have t1 := T0.out.adv h1 (by omega)
  have D1 := Lib.hid h1.at
  have hz1 : w.heap.size + 1 < w1.heap.size := Nat.lt_of_lt_of_le (by rw [HZ0.out]; omega) h1.1.size
  have G1 := Lib.hid (G0.out.trans h1.1)
  clear h1 R0 T0 D0 G0
  obtain ⟨x0, x1, x2, x3, x4, xf⟩ := t1.cells
  have T1 := Lib.hid t1; clear t1
  have f0 := xf 0; clear xf
  go_wp2_with (first | (go_at_call 26; (with_reducible refine (Q0.out _).mono ?_); rintro e wq ⟨rfl, rfl⟩) | (go_at_call 34; (with_reducible refine (Q1.out _).mono ?_); rintro e wq ⟨rfl, rfl⟩) | (go_at_call 36; (with_reducible refine (Q2.out _).mono ?_); rintro e wq ⟨rfl, rfl⟩))
  clear x0 x1 x2 x3 x4 f0
  refine (step_any b s i _ (D1.out.set _ _ (by simp; omega)) hi hs).mono ?_
  rintro e w2 ⟨rfl, h2⟩
  have R2 := Lib.hid ((R1.out.other _ _ (by simp)).adv h2 (by omega))
  have t2 := (T1.out.set0 (.int .i64 3)).adv h2 (by omega)
  have d2 := h2.at
  have G2 := Lib.hid ((but_set G1.out ⟨w.heap.size + 1, 0, none⟩ (.int .i64 3) (by simp)).trans h2.1)
  clear h2 R1 T1 D1 G1
  obtain ⟨x0, x1, x2, x3, x4, xf⟩ := t2.cells
  obtain ⟨c0, c1, c2, c3⟩ := d2.cells
  have T2 := Lib.hid t2; have D2 := Lib.hid d2; clear t2 d2 c1 c2
  have f1 := xf 1; clear xf
  have hi1 : (0 : Int) ≤ (i : Int) := by omega
  have hi2 : (i : Int) ≤ ((i + 1 : Nat) : Int) := by omega
  have hi3 : ((i + 1 : Nat) : Int) ≤ (s.size : Int) := by omega
  generalize hEq : i + 1 = E at *
  have HEQ := Lib.hid hEq; clear hEq
  go_wp2_with fail
  go_still_tail 14, (by kernel_rfl)
  change wpList _ _ _ _ _ w2.drew
  have T3 : Hid (Tk (w.heap.size + 1) (.int .i64 3) (.string { data := #[] }) (.int .i64 i) (.int .i64 (lineA (byteAt s) i)) (.int .i64 (colA (byteAt s) i)) w2.drew) := T2.out
  have R3 : Hid (Tk w.heap.size (.int .i64 0) (.string { data := #[] }) (.int .i64 0) (.int .i64 0) (.int .i64 0) w2.drew) := R2.out
  have D3 : Hid (Rd b s E w2.drew) := D2.out
  have G3 := Lib.hid (but_drew G2.out)
  clear x0 x1 x2 x3 x4 c0 c3 f1 T2 R2 D2 G2
  generalize w2.drew = w3 at *
  obtain ⟨x0, x1, x2, x3, x4, xf⟩ := T3.out.cells
  obtain ⟨y0, y1, y2, y3, y4, yf⟩ := R3.out.cells
  have f0 := xf 0; have f1 := xf 1; have f2 := xf 2; have f3 := xf 3; have f4 := xf 4
  have g0 := yf 0; have g1 := yf 1; have g2 := yf 2; have g3 := yf 3; have g4 := yf 4
  clear xf yf
  have hsz : (s.extract i E).size = E - i := by simp; omega
  go_wp2_with fail
  refine res_tok rfl w.heap.size (.int .i64 3) (.string (s.extract i E)) (.int .i64 i) (.int .i64 (lineA (byteAt s) i)) (.int .i64 (colA (byteAt s) i)) rfl ?_ rfl ⟨by rw [← HEQ.out] <;> rfl, ?_, ?_⟩
  · exact (((((R3.out.other _ _ (by simp)).set0 _).set1 _).set2 _).set3 _).set4 _
  · exact but_set (but_set (but_set (but_set (but_set (but_set G3.out _ _ (by simp)) _ _ (Nat.le_refl _)) _ _ (Nat.le_refl _)) _ _ (Nat.le_refl _)) _ _ (Nat.le_refl _)) _ _ (Nat.le_refl _)
  · rw [HEQ.out]; exact (((((D3.out.set _ _ (by simp; omega)).set _ _ (by simp; omega)).set _ _ (by simp; omega)).set _ _ (by simp; omega)).set _ _ (by simp; omega)).set _ _ (by simp; omega)
set_option maxHeartbeats 2000000 in
theorem next_byte (b : Nat) (s : ByteArray) (i : Nat) (w : World) (h : Rd b s i w) (hi : i < s.size) (b0 : lowB (byteAt s i) = false) (b1 : digB (byteAt s i) = false) (b2 : signB (byteAt s i) = false) :
    Calls Try.prog 24 #[.pointer (some ⟨b, 0, none⟩)] w fun e w' => e = .returned (.tuple #[.agg #[.int .i64 0, .string { data := #[] }, .int .i64 i, .int .i64 (lineA (byteAt s) i), .int .i64 (colA (byteAt s) i)], .int .i64 20]) ∧ Adv b s i w w' := by
  obtain ⟨c0, c1, c2, c3⟩ := h.cells
  have hl := lineA_le (byteAt s) i
  have hc := colA_le (byteAt s) i
  have q0 := isLetter_any (byteAt s i)
  rw [b0] at q0
  have Q0 := Lib.hid q0; clear q0 b0
  have q1 := isDigit_any (byteAt s i)
  rw [b1] at q1
  have Q1 := Lib.hid q1; clear q1 b1
  have q2 := isSign_any (byteAt s i)
  rw [b2] at q2
  have Q2 := Lib.hid q2; clear q2 b2
  have hlt := h.lt
  have R0 := Lib.hid (boxes_0 s i w); have T0 := Lib.hid (boxes_1 s i w); have D0 := Lib.hid (boxes_rd h); have G0 := Lib.hid (boxes_but b s i w)
  have hz0 := boxes_size s i w
  have HZ0 := Lib.hid hz0; clear hz0
  have HH := Lib.hid h; clear h
  go_enter Try.func24, Try.ntmps24
  go_wp2_with fail
  clear c0 c1 c2 c3
  refine (here_any b s i (boxes s i w) D0.out hi).mono ?_
  rintro e w1 ⟨rfl, h1⟩
  have R1 := Lib.hid (R0.out.adv h1 (by omega))
  have t1 := T0.out.adv h1 (by omega)
  have D1 := Lib.hid h1.at
  have hz1 : w.heap.size + 1 < w1.heap.size := Nat.lt_of_lt_of_le (by rw [HZ0.out]; omega) h1.1.size
  have G1 := Lib.hid (G0.out.trans h1.1)
  clear h1 R0 T0 D0 G0
  obtain ⟨x0, x1, x2, x3, x4, xf⟩ := t1.cells
  have T1 := Lib.hid t1; clear t1
  have f0 := xf 0; clear xf
  obtain ⟨y0, y1, y2, y3, y4, yf⟩ := R1.out.cells
  have g0 := yf 0; have g1 := yf 1; have g2 := yf 2; have g3 := yf 3; have g4 := yf 4
  clear yf
  go_wp2_with (first | (go_at_call 26; (with_reducible refine (Q0.out _).mono ?_); rintro e wq ⟨rfl, rfl⟩) | (go_at_call 34; (with_reducible refine (Q1.out _).mono ?_); rintro e wq ⟨rfl, rfl⟩) | (go_at_call 36; (with_reducible refine (Q2.out _).mono ?_); rintro e wq ⟨rfl, rfl⟩))
  refine res_tok rfl w.heap.size (.int .i64 0) (.string { data := #[] }) (.int .i64 i) (.int .i64 (lineA (byteAt s) i)) (.int .i64 (colA (byteAt s) i)) rfl ?_ rfl ⟨rfl, ?_, ?_⟩
  · exact ((((R1.out.set0 _).set1 _).set2 _).set3 _).set4 _
  · exact but_set (but_set (but_set (but_set (but_set G1.out _ _ (Nat.le_refl _)) _ _ (Nat.le_refl _)) _ _ (Nat.le_refl _)) _ _ (Nat.le_refl _)) _ _ (Nat.le_refl _)
  · exact ((((D1.out.set _ _ (by simp; omega)).set _ _ (by simp; omega)).set _ _ (by simp; omega)).set _ _ (by simp; omega)).set _ _ (by simp; omega)
end Go.Proofs.Ytaghoicmfpndbaa
