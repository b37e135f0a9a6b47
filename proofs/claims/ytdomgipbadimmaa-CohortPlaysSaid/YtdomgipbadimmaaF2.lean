/- One thing done, by the code and by the document: Take (layer 14). -/
import Derived.Test.YtdomgipbadimmaaF1
import Derived.Deep.RegionHeld3
namespace Go.Proofs.Ytdomgipbadimmaa
open Go.RowKit
set_option maxRecDepth 100000

theorem CohL.away {B B' : Nat → Prop} {pb lb : Nat} {lab : Nat → LabC} {ks : List Coh} {w : World} (h : CohL B pb lb lab ks w) (hB : ∀ k, k < w.heap.size → B k → B' k) : CohL B' pb lb lab ks w :=
  ⟨h.box, h.blk, h.own, h.pwn, h.pne, h.fre, fun k hk => hB k (Nat.lt_of_not_le fun hle => hk (h.fre k hle)) (h.old k hk), h.ok⟩
/-- What do gives. -/
def DoP14 (w0 : World) (Z : Nat → Prop) (W : World) (pb lb xb k : Nat) (n : Nat) (e : Ending) (w' : World) : Prop := e = .returned (.bool true) ∧ (∃ ks', ks'.length = n ∧ Two14 w0 pb lb xb (k + 1) ks' w') ∧ But (fun x => ¬ Z x) W w'
/-- Both, apart, with the blocks that the code leaves alone. -/
structure TwoD (w0 : World) (D : Nat → Prop) (pb lb xb k : Nat) (ks : List Coh) (W : World) : Prop where
  ex : ∃ lab, CohL (CodeB w0 D xb) pb lb lab ks W ∧ DocM D xb k ks W ∧ (∀ x, D x → x < W.heap.size)
  xlow : w0.heap.size ≤ xb
  low : Below w0.heap.size w0 W
theorem TwoD.two {w0 W : World} {D : Nat → Prop} {pb lb xb k : Nat} {ks : List Coh} (h : TwoD w0 D pb lb xb k ks W) : Two14 w0 pb lb xb k ks W := let ⟨lab, q⟩ := h.ex; ⟨⟨D, lab, q⟩, h.xlow, h.low⟩
def OpCells (K : Nat) (I J L : Int) : Array Value := #[.int .u64 K, .int .i64 I, .int .i64 J, .int .i64 L]
theorem Two14.up {w0 W : World} {pb lb xb k : Nat} {ks : List Coh} (h : Two14 w0 pb lb xb k ks W) : Two14 w0 pb lb xb (k + 1) ks W := by
  obtain ⟨D, lab, a, b, d⟩ := h.ex
  exact ⟨⟨D, lab, a, b.up, d⟩, h.xlow, h.low⟩
section
variable {w0 W : World} {Z : Nat → Prop} {pb lb xb k n : Nat} {ks : List Coh}
theorem takeW_len (c : Coh) (E : List Ent) (t s : Int) : (takeW c E t s).length ≤ E.length + 1 := by
  unfold takeW
  split
  · rw [List.length_append]; exact Nat.le_refl _
  · exact Nat.le_succ _
/-- The document's turn behind the code's: what is kept. -/
theorem two_turn {D D1 D5 : Nat → Prop} {lab' : Nat → LabC} {w2 w5 W6 : World} {i yb : Nat} {c' : Coh} {E' : List Ent} {wv rv : Value} (hD1 : ∀ x, D x → D1 x)
    (a : CohL (CodeB w0 D1 xb) pb lb lab' (ks.set i c') w2) (b : DocM D xb k ks w2) (d : ∀ x, D x → x < w2.heap.size) (hx : w0.heap.size ≤ xb) (low : Below w0.heap.size w0 w2) (hi : i < ks.length)
    (hb5 : Below w2.heap.size w2 w5) (hd : DLk D5 c' E' wv rv w5) (hD5 : ∀ g, g < w5.heap.size → D5 g → (D g ∨ w2.heap.size ≤ g) ∧ g ≠ yb) (hr : RelC c' E') (hk : E'.length ≤ k + 1) (hk2 : CohB c' (k + 1)) (h6 : But (fun x => x = yb) w5 W6) (hyb : w2.heap.size ≤ yb) :
    Two14 w0 pb lb xb (k + 1) (ks.set i c') (put6 W6 xb (i * 6) (.bool (heldD c')) (.int .i64 (ownD c')) (.int .i64 c'.soc) (.int .i64 c'.pas) wv rv) := by
  have hxl := b.lt
  have hb6 : Below w2.heap.size w2 W6 := hb5.trans (h6.below (B := w2.heap.size) hb5.size fun _ _ q => by rw [q]; exact hyb)
  have h26 : But Nob w2 W6 := But.of_below hb6
  have hu := put6_but W6 xb (i * 6) (.bool (heldD c')) (.int .i64 (ownD c')) (.int .i64 c'.soc) (.int .i64 c'.pas) wv rv
  refine ⟨⟨fun x => D x ∨ (w2.heap.size ≤ x ∧ x < W6.heap.size), lab', ?_, ?_, ?_⟩, hx, ?_⟩
  · refine CohL.far (mb := xb) ((a.away fun k hk hB => ⟨hB.1, hB.2.1, fun q => ?_⟩).nob h26) hu (fun q => q.2.1 rfl)
    rcases q with q | q
    · exact hB.2.2 (hD1 k q)
    · omega
  · refine DocM.put (D := D) ((b.up).but h26 fun _ _ q => q) hi (fun x q => .inl q) (fun x q => ?_) ?_ hr hk hk2
    · rcases q with q | q
      · exact b.ne x q
      · omega
    · have h1 := hd.mono (D' := fun g => (D g ∨ w2.heap.size ≤ g) ∧ g ≠ yb) hD5
      exact (h1.but h6 fun g q e => q.2 e).mono fun g hg q => q.1.imp id fun a => ⟨a, hg⟩
  · intro x q
    rcases q with q | q
    · have := d x q; have := h26.size; have := hu.size; omega
    · have := hu.size; omega
  · exact (low.trans (h26.below (B := w0.heap.size) low.size fun _ _ q => q.elim)).trans (hu.below (B := w0.heap.size) (Nat.le_trans low.size h26.size) fun _ _ q => by rw [q]; exact hx)
theorem frame_turn {D : Nat → Prop} {w1 w2 w5 W6 : World} {i yb : Nat} {g : Nat} (hbut : But (CodeB w0 (fun x => D x ∨ x = g) xb) w1 w2) (hne : ∀ x, D x → x ≠ xb) (hb5 : Below w2.heap.size w2 w5) (h6 : But (fun x => x = yb) w5 W6) (hyb : w2.heap.size ≤ yb) (y0 y1 y2 y3 y4 y5 : Value) :
    But (fun x => ¬ D x) w1 (put6 W6 xb (i * 6) y0 y1 y2 y3 y4 y5) :=
  (((hbut.mono fun x _ q e => q.2.2 (.inl e)).step (But.of_below (X := Nob) hb5) fun _ _ q => q.elim).step h6 fun x hx q => by have := hbut.size; omega).step (put6_but W6 xb (i * 6) y0 y1 y2 y3 y4 y5) fun x _ q e => hne x e q
set_option maxHeartbeats 8000000 in
theorem do_take_out (K : Nat) (I J L : Int) (h : TwoD w0 Z pb lb xb k ks W) (hn : ks.length = n) (hK : K % 5 < 2) (hi : ¬ (0 ≤ I ∧ I < (n : Int))) : Calls Try.prog 15 #[.pointer (some ⟨pb, 0, none⟩), .slice (some ⟨xb, 0, none⟩) n n, .agg #[.int .u64 K, .int .i64 I, .int .i64 J, .int .i64 L]] W (DoP14 w0 Z W pb lb xb k n) := by
  obtain ⟨r, hr⟩ : ∃ r, K % 5 = r := ⟨_, rfl⟩
  have hm : (K : Int).tmod 5 = (r : Int) := by rw [Int.tmod_eq_emod_of_nonneg (by omega)]; omega
  have t2 : (r : Int) < 2 := by omega
  have hal : But Nob W (W.alloc (.cells #[.int .u64 K, .int .i64 I, .int .i64 J, .int .i64 L] 45)) := (But.refl _ _).alloc _
  have H1 := h.two.nob hal
  have HFR := Lib.hid (hal.nob (X := fun x => ¬ Z x))
  obtain ⟨D, lab, a, b, d⟩ := H1.ex
  have P := Lib.hid (takeL_out a I J L (by rw [hn]; exact hi))
  have HE := Lib.hid (show Two14 w0 pb lb xb (k + 1) ks _ from H1.up)
  have HN := Lib.hid hn
  clear H1 h a b d hal hr hK
  by_cases h0 : 0 ≤ I
  · have h1 : ¬ I < (n : Int) := fun q => hi ⟨h0, q⟩
    clear hi
    go_enter Try.func15, Try.ntmps15
    go_wp2_with (go_at_call 17; (with_reducible refine P.out.mono ?_); rintro e9 w9 ⟨rfl, rfl⟩)
    go_ret
    exact ⟨rfl, ⟨ks, HN.out, HE.out⟩, HFR.out⟩
  · clear hi
    go_enter Try.func15, Try.ntmps15
    go_wp2_with (go_at_call 17; (with_reducible refine P.out.mono ?_); rintro e9 w9 ⟨rfl, rfl⟩)
    go_ret
    exact ⟨rfl, ⟨ks, HN.out, HE.out⟩, HFR.out⟩
set_option maxHeartbeats 8000000 in
theorem do_give_out (K : Nat) (I J L : Int) (h : TwoD w0 Z pb lb xb k ks W) (hn : ks.length = n) (hK : ¬ K % 5 < 2) (hi : ¬ (0 ≤ I ∧ I < (n : Int))) : Calls Try.prog 15 #[.pointer (some ⟨pb, 0, none⟩), .slice (some ⟨xb, 0, none⟩) n n, .agg #[.int .u64 K, .int .i64 I, .int .i64 J, .int .i64 L]] W (DoP14 w0 Z W pb lb xb k n) := by
  obtain ⟨r, hr⟩ : ∃ r, K % 5 = r := ⟨_, rfl⟩
  have hm : (K : Int).tmod 5 = (r : Int) := by rw [Int.tmod_eq_emod_of_nonneg (by omega)]; omega
  have t2 : ¬ (r : Int) < 2 := by omega
  have hal : But Nob W (W.alloc (.cells #[.int .u64 K, .int .i64 I, .int .i64 J, .int .i64 L] 45)) := (But.refl _ _).alloc _
  have H1 := h.two.nob hal
  have HFR := Lib.hid (hal.nob (X := fun x => ¬ Z x))
  obtain ⟨D, lab, a, b, d⟩ := H1.ex
  have P := Lib.hid (giveL_out a I J (by rw [hn]; exact hi))
  have HE := Lib.hid (show Two14 w0 pb lb xb (k + 1) ks _ from H1.up)
  have HN := Lib.hid hn
  clear H1 h a b d hal hr hK
  by_cases h0 : 0 ≤ I
  · have h1 : ¬ I < (n : Int) := fun q => hi ⟨h0, q⟩
    clear hi
    go_enter Try.func15, Try.ntmps15
    go_wp2_with (go_at_call 21; (with_reducible refine P.out.mono ?_); rintro e9 w9 ⟨rfl, rfl⟩)
    go_ret
    exact ⟨rfl, ⟨ks, HN.out, HE.out⟩, HFR.out⟩
  · clear hi
    go_enter Try.func15, Try.ntmps15
    go_wp2_with (go_at_call 21; (with_reducible refine P.out.mono ?_); rintro e9 w9 ⟨rfl, rfl⟩)
    go_ret
    exact ⟨rfl, ⟨ks, HN.out, HE.out⟩, HFR.out⟩
end
end Go.Proofs.Ytdomgipbadimmaa
