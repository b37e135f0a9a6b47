/- The document's Put and Without of layer 5: their contracts. -/
import Derived.Test.YtlgdeadghmbfmaaRd
namespace Go.Proofs.Ytlgdeadghmbfmaa
open Go.RowKit

/-- A list as RingPlays keeps it: nil, or a row in a block of its own. -/
def SL (w : World) (A : Option Addr) (len cap : Nat) (z : Nat → Int) : Prop :=
  len ≤ cap ∧ ((A = none ∧ cap = 0) ∨ ∃ g, A = some ⟨g, 0, none⟩ ∧ g < w.heap.size ∧ ∀ i, i < len → w.cell? ⟨g, i, none⟩ = some (.int .i64 (z i)))
theorem SL.ints {w : World} {A : Option Addr} {len cap : Nat} {z : Nat → Int} (h : SL w A len cap z) : IntsIn w A len z := fun i hi => by
  obtain ⟨h0, ⟨_, h⟩ | ⟨g, rfl, hg, hc⟩⟩ := h
  · omega
  · exact ⟨g, 0, rfl, hg, by rw [Nat.zero_add]; exact hc i hi⟩
theorem SL.of {B : Nat} {v : Value} {l : List Int} {w : World} (h : Mine B v l w) : ∃ ad cap, v = .slice ad l.length cap ∧ SL w ad l.length cap (fun i => l[i]?.getD 0) ∧ (∀ g, ad = some ⟨g, 0, none⟩ → B ≤ g) := by
  have hc := h
  rcases h.2 with ⟨rfl, hn⟩ | ⟨g, cap, cur, rfl, hg, hh, hcap, _⟩
  · have : l = [] := by simpa [intC] using hn
    subst this
    exact ⟨none, 0, rfl, ⟨Nat.le_refl _, .inl ⟨rfl, rfl⟩⟩, (fun _ e => by cases e)⟩
  · refine ⟨some ⟨g, 0, none⟩, cap, rfl, ⟨hcap, .inr ⟨g, rfl, (hc.lt g rfl).2, fun i hi => ?_⟩⟩, (fun g e => by cases e; exact hg)⟩
    have := hc.cells (g := g) rfl i (.int .i64 l[i]) (by simp [intC, hi])
    have hadd : (⟨g, 0, none⟩ : Addr).add i = ⟨g, i, none⟩ := by unfold Addr.add; split <;> simp_all
    rw [hadd] at this
    rw [this]; simp [hi]
theorem SL.but {w w' : World} {A : Option Addr} {len cap : Nat} {z : Nat → Int} {X : Nat → Prop} (h : SL w A len cap z) (hb : But X w w') (hX : ∀ g, A = some ⟨g, 0, none⟩ → ¬ X g) : SL w' A len cap z := by
  obtain ⟨h0, h | ⟨g, rfl, hg, hc⟩⟩ := h
  · exact ⟨h0, .inl h⟩
  · exact ⟨h0, .inr ⟨g, rfl, Nat.lt_of_lt_of_le hg hb.size, fun i hi => (World.cell?_of_block (w := w) (a := ⟨g, i, none⟩) (hb.block g hg (hX g rfl))).trans (hc i hi)⟩⟩
/-- A literal row of none. -/
theorem mine_lit (w : World) : Mine w.heap.size (.slice (some ⟨w.heap.size, 0, none⟩) 0 0) [] (w.alloc (.cells #[] 3)) :=
  ⟨rfl, .inr ⟨w.heap.size, 0, #[], rfl, Nat.le_refl _, heap_alloc_new _ _, Nat.le_refl _, by unfold maxLen; omega, rfl, rfl⟩⟩
/-- What the document's Put and Without give. -/
def NewP (l : List Int) (w : World) (e : Ending) (w' : World) : Prop := ∃ v, e = .returned v ∧ Mine w.heap.size v l w' ∧ But Nob w w'
theorem mine_alloc {B : Nat} {v : Value} {l : List Int} {w : World} (h : Mine B v l w) (o : Obj) : Mine B v l (w.alloc o) := h.alloc o
theorem below_nob {w w' : World} {B : Nat} (h : Below B w w') (hB : w.heap.size ≤ B) : But Nob w w' := But.of_below (h.mono hB)
theorem old_in {w w1 : World} {A : Option Addr} {len : Nat} {z : Nat → Int} (h : IntsIn w A len z) (h1 : But Nob w w1) : IntsIn w1 A len z := h.below (h1.below (Nat.le_refl _) fun _ _ x => x.elim)
set_option maxRecDepth 100000 in
set_option maxHeartbeats 2000000 in
theorem refPut_mid (g : Nat) (len cap : Nat) (z : Nat → Int) (i : Nat) (x : Int) (w : World) (h : SL w (some ⟨g, 0, none⟩) len cap z) (hi : i ≤ len) (hl : len ≤ 4096) (hci : i < cap) :
    Calls Try.prog 54 #[.slice (some ⟨g, 0, none⟩) len cap, .int .i64 i, .int .i64 x] w (NewP (ins (zs z len) i x) w) := by
  have hlc : len ≤ cap := h.1
  have hnil : (some (⟨g, 0, none⟩ : Addr)) = none → cap = 0 := fun e => by cases e
  have hne : ¬ cap = i := by omega
  have HI := Lib.hid h.ints; clear h
  have HM := Lib.hid (mine_lit w)
  have i0 : (0 : Int) ≤ (i : Int) := by omega
  have i1 : (i : Int) ≤ (cap : Int) := by omega
  have i2 : (i : Int) ≤ (len : Int) := by omega
  have i3 : (len : Int) ≤ (cap : Int) := by omega
  go_enter Try.func54, Try.ntmps54
  go_wp2_with (first
    | (at_builtin; refine app_ints rfl (.tmp 8) (.tmp 11) rfl w.heap.size _ [] rfl HM.out _ i _ z rfl hnil (by omega) ((HI.out.below ((Below.refl _ _).alloc (Nat.le_refl _) _)).less hi) (by omega) (by simp) (by simp) ?_
       intro v1 w1 h1; have H1 := Lib.hid h1; have B1 := Lib.hid (((Below.refl w.heap.size w).alloc (Nat.le_refl _) (.cells #[] 3)).trans h1.2.1); clear h1)
    | (at_builtin; refine app_ints rfl (.tmp 13) (.tmp 15) rfl w.heap.size _ (zs z i) rfl (H1.out.1.alloc _) (some ⟨w1.heap.size, 0, none⟩) 1 1 (fun _ => x) rfl (fun e => by cases e) (Nat.le_refl _) (fun j hj => ⟨w1.heap.size, 0, rfl, by simp, by rw [show j = 0 by omega]; exact (Blk.new w1 3 #[.int .i64 x]).cell 0⟩) (by omega) (by rw [zs_length]; omega) (by have := B1.out.size; simp; omega) ?_
       intro v2 w2 h2; have H2 := Lib.hid h2; have B2 := Lib.hid ((B1.out.alloc B1.out.size (.cells #[.int .i64 x] 3)).trans h2.2.1); clear h2)
    | (at_builtin; refine app_ints rfl (.tmp 17) (.tmp 20) rfl w.heap.size _ (zs z i ++ zs (fun _ => x) 1) rfl H2.out.1 (some ⟨g, i, none⟩) (len - i) (cap - i) (fun j => z (j + i)) rfl (by first | exact hnil | (intro e; cases e)) (by omega) (by have := ((HI.out.below B2.out).drop i); rwa [Nat.zero_add] at this) (by omega) (by rw [List.length_append, zs_length, zs_length]; omega) B2.out.size ?_
       intro v3 w3 h3; have H3 := Lib.hid h3; have B3 := Lib.hid (B2.out.trans h3.2.1); clear h3))
  go_ret
  refine ⟨v3, rfl, ?_, But.of_below B3.out⟩
  have := H3.out.1
  rw [show ins (zs z len) i x = zs z i ++ zs (fun _ => x) 1 ++ zs (fun j => z (j + i)) (len - i) by unfold ins; rw [zs_take z hi, zs_drop]; simp [zs]]
  exact this
set_option maxRecDepth 100000 in
set_option maxHeartbeats 2000000 in
theorem refPut_end (A : Option Addr) (i : Nat) (z : Nat → Int) (x : Int) (w : World) (h : SL w A i i z) (hl : i ≤ 4096) :
    Calls Try.prog 54 #[.slice A i i, .int .i64 i, .int .i64 x] w (NewP (ins (zs z i) i x) w) := by
  have hnil : A = none → i = 0 := by
    obtain ⟨_, h | ⟨g, rfl, _⟩⟩ := h
    · exact fun _ => h.2
    · exact fun e => by cases e
  have HI := Lib.hid h.ints; clear h
  have HM := Lib.hid (mine_lit w)
  have hi : i ≤ i := Nat.le_refl _
  have i0 : (0 : Int) ≤ (i : Int) := by omega
  go_enter Try.func54, Try.ntmps54
  go_wp2_with (first
    | (at_builtin; refine app_ints rfl (.tmp 8) (.tmp 11) rfl w.heap.size _ [] rfl HM.out _ i _ z rfl hnil (Nat.le_refl _) ((HI.out.below ((Below.refl _ _).alloc (Nat.le_refl _) _)).less hi) (by omega) (by simp) (by simp) ?_
       intro v1 w1 h1; have H1 := Lib.hid h1; have B1 := Lib.hid (((Below.refl w.heap.size w).alloc (Nat.le_refl _) (.cells #[] 3)).trans h1.2.1); clear h1)
    | (at_builtin; refine app_ints rfl (.tmp 13) (.tmp 15) rfl w.heap.size _ (zs z i) rfl (H1.out.1.alloc _) (some ⟨w1.heap.size, 0, none⟩) 1 1 (fun _ => x) rfl (fun e => by cases e) (Nat.le_refl _) (fun j hj => ⟨w1.heap.size, 0, rfl, by simp, by rw [show j = 0 by omega]; exact (Blk.new w1 3 #[.int .i64 x]).cell 0⟩) (by omega) (by rw [zs_length]; omega) (by have := B1.out.size; simp; omega) ?_
       intro v2 w2 h2; have H2 := Lib.hid h2; have B2 := Lib.hid ((B1.out.alloc B1.out.size (.cells #[.int .i64 x] 3)).trans h2.2.1); clear h2)
    | (at_builtin; refine app_ints rfl (.tmp 17) (.tmp 20) rfl w.heap.size _ (zs z i ++ zs (fun _ => x) 1) rfl H2.out.1 A 0 0 (fun j => z (j + i)) rfl (fun _ => rfl) (by omega) (fun j hj => absurd hj (by omega)) (by omega) (by rw [List.length_append, zs_length, zs_length]; omega) B2.out.size ?_
       intro v3 w3 h3; have H3 := Lib.hid h3; have B3 := Lib.hid (B2.out.trans h3.2.1); clear h3))
  go_ret
  refine ⟨v3, rfl, ?_, But.of_below B3.out⟩
  have := H3.out.1
  rw [show ins (zs z i) i x = zs z i ++ zs (fun _ => x) 1 ++ zs (fun j => z (j + i)) 0 by unfold ins; rw [zs_take z hi, zs_drop]; simp [zs]]
  exact this
end Go.Proofs.Ytlgdeadghmbfmaa
