/- layer 33 (fair): Gap. -/
import Derived.Test.YtogplndhciaoeaaFc
import Derived.RangeFuncFrom
namespace Go.Proofs.Ytogplndhciaoeaa
open Go.RowKit Go.Shelf
set_option maxRecDepth 100000
attribute [local go_sem] Oper.semAt_some

theorem gaps_stops (F : Fence) (n : Nat) (hF : F.fn 43) (hro : F.round = none) (hn : 1 ≤ n) (B1 B2 n₀ : Nat) (X : Nat → Prop) (A : Option Addr) (L : List En) (len cap : Nat) (cpu : Int) (hlen : L.length = len) (hle : len ≤ 1000000) (w : World) (hB2 : ¬ X B2) (hX : ∀ k, k < n₀ → ¬ X k) (hb1 : B1 < w.heap.size) (hb2 : B2 < w.heap.size) (hn₀ : n₀ ≤ w.heap.size)
    (h1 : w.cell? ⟨B1, 0, none⟩ = some (.slice A len cap)) (h2 : w.cell? ⟨B2, 0, none⟩ = some (.int .i64 cpu)) (hR : RowsE n₀ w A L) :
    SeqStopsK F n Try.prog 43 #[.pointer (some ⟨B1, 0, none⟩), .pointer (some ⟨B2, 0, none⟩)] (fun x : Nat => #[Value.int .i64 (x : Int)]) (But X) (fun ys => ys = gapsF cpu L 0) (fun _ => True) (gapsF cpu L 0).length w := fun l J Jx W hW hJ _ hY h0 => by
  exact gaps1_in F n hF hro hn l B1 B2 n₀ X A L len cap cpu hlen hle J Jx hY W hJ ((hW.cell (p := ⟨B1, 0, none⟩) hb1).trans h1) ((hW.cell (p := ⟨B2, 0, none⟩) hb2).trans h2) hB2 hX (hR.below (hW.mono hn₀)) h0

set_option maxHeartbeats 8000000 in
theorem gap_in (F : Fence) (n : Nat) (h0 : F.fn 15) (h1 : F.fn 34) (h2 : F.fn 43) (hro : F.round = none) (hn : 3 ≤ n) (A : Option Addr) (L : List En) (len cap : Nat) (cpu : Int) (hlen : L.length = len) (hle : len ≤ 1000000) (w : World) (hR : RowsE w.heap.size w A L) :
    CallsIn F n Try.prog 15 #[.slice A len cap, .int .i64 cpu] w fun e W' => e = .returned (.int .i64 (gapL L cpu : Nat)) ∧ Below w.heap.size w W' := by
  have k1 : 1 ≤ n := by omega
  have HR := Lib.hid hR; have HLN := Lib.hid hlen
  clear hR hlen
  refine callsIn_of_wp_marks Try.func15 rfl h0 ?_ hro
  simp only [Try.ntmps15, List.size_toArray, List.length_cons, List.length_nil, Nat.reduceAdd, Nat.reduceSub, Array.replicate_succ, Array.replicate_zero, List.push_toArray, List.append_toArray, List.nil_append, List.cons_append]
  gi_wp2_with (gi_at_call 34; refine (gaps_in F (n - 1) h1 hro _ _ _ _ _).mono ?_; rintro e w' ⟨rfl, rfl⟩)
  obtain ⟨W0, hW0⟩ : ∃ W0, ((w.alloc (.cells #[.int .i64 0] 3)).alloc (.cells #[.slice A len cap] 28)).alloc (.cells #[.int .i64 cpu] 3) = W0 := ⟨_, rfl⟩
  have hs : W0.cell? ⟨w.heap.size, 0, none⟩ = some (.int .i64 0) ∧ W0.frozen? ⟨w.heap.size, 0, none⟩ = false := by
    have c : Blk W0 w.heap.size 3 #[.int .i64 0] := by rw [← hW0]; exact ((Blk.new w _ _).alloc _).alloc _
    exact ⟨c.cell 0, c.free 0⟩
  have hc1 : W0.cell? ⟨w.heap.size + 1, 0, none⟩ = some (.slice A len cap) := by
    have c := (Blk.new (w.alloc (.cells #[.int .i64 0] 3)) 28 #[.slice A len cap]).alloc (.cells #[.int .i64 cpu] 3)
    rw [World.size_alloc, hW0] at c
    exact c.cell 0
  have hc2 : W0.cell? ⟨w.heap.size + 1 + 1, 0, none⟩ = some (.int .i64 cpu) := by
    have c := Blk.new ((w.alloc (.cells #[.int .i64 0] 3)).alloc (.cells #[.slice A len cap] 28)) 3 #[.int .i64 cpu]
    rw [World.size_alloc, World.size_alloc, hW0] at c
    exact c.cell 0
  have hsz : W0.heap.size = w.heap.size + 3 := by rw [← hW0]; simp
  have hB0 : Below w.heap.size w W0 := by rw [← hW0]; exact (((Below.refl _ w).alloc (Nat.le_refl _) _).alloc (by simp) _).alloc (by simp; omega) _
  rw [hW0]
  clear hW0
  refine wpIn_rangeFunc_ownF hro k1 (gf := 43) (lb := #[.pointer (some ⟨w.heap.size + 1, 0, none⟩), .pointer (some ⟨w.heap.size + 1 + 1, 0, none⟩)]) rfl h2 (enters_of Try.func43 (by kernel_rfl) rfl)
    (gaps_stops F (n - 1) h2 hro (by omega) (w.heap.size + 1) (w.heap.size + 1 + 1) w.heap.size (fun k => k = w.heap.size ∨ w.heap.size + 3 ≤ k) A L len cap cpu HLN.out hle W0 (by omega) (fun k hk => by omega) (by omega) (by omega) (by omega) hc1 hc2 (HR.out.below hB0))
    (fun h k => h.trans k) (fun W l o o' hl h _ _ => (But.refl _ W).grown (grownBy_putObj' W l o') (fun k e => by cases e; exact .inl (.inr (by omega)))) (Below.refl _ _) (fun _ => rfl)
    (fun pre W => (W.cell? ⟨w.heap.size, 0, none⟩ = some (.int .i64 (mostL pre : Nat)) ∧ W.frozen? ⟨w.heap.size, 0, none⟩ = false) ∧ Below w.heap.size w W)
    (fun _ _ _ => False)
    (OwnFrom.and (Own.from (fun s A B row hs hg hr => ⟨cell_kept hs.1 hg hr, (frozen_kept hs.1 hg hr).trans hs.2⟩) _) (ownFrom_below (Nat.le_refl _) (by omega)))
    (fun _ _ _ _ _ hs _ _ => hs)
    ⟨hs, hB0⟩
    (fun x => { tmps := #[.slice A len cap, .int .i64 cpu, undef, undef, .int .i64 0, .pointer (some ⟨w.heap.size, 0, none⟩), .int .i64 (x : Int), .slice A len cap, .int .i64 cpu, .func (.func 43) #[] #[.pointer (some ⟨w.heap.size + 1, 0, none⟩), .pointer (some ⟨w.heap.size + 1 + 1, 0, none⟩)], .int .i64 (x : Int), undef, undef, undef, undef], defers := [] }) ?assign ?body ?done ?stop
  case assign =>
    intro l x W K hK
    gi_wp2
    exact hK
  case body =>
    rintro l pre x W ⟨⟨hc, hf⟩, hB⟩ _
    gi_wp2
    all_goals
      refine ⟨KeepsOthers.setCell _ _ _, (But.refl _ W).set ⟨w.heap.size, 0, none⟩ _ (.inl (.inl rfl)), ⟨?_, by rw [World.frozen?_setCell]; exact hf⟩, hB.setCell (p := ⟨w.heap.size, 0, none⟩) (Nat.le_refl _) _⟩
    · rw [mostL_snoc, Nat.max_eq_right (Nat.le_of_lt h)]; exact World.cell?_setCell_same' _ _ _ (by rw [hc]; rfl)
    · rw [mostL_snoc, Nat.max_eq_left (Nat.le_of_not_lt h)]; exact World.cell?_setCell_same' _ _ _ (by rw [hc]; rfl)
  case done =>
    rintro D ys W hD rfl ⟨⟨hc, _⟩, hB⟩ hK
    gi_wp2
    refine ⟨by simp, .inl ⟨_, _, rfl, run_takeDeferred hK, ?_⟩⟩
    exact ⟨_, results_tmp rfl _ _ _, rfl, hB.trans (belowK_b (w := w) (Nat.le_refl _) W D _ _ (by omega) hK rfl rfl)⟩
  case stop =>
    rintro D c pre W _ _ h _
    exact h.elim
theorem gap_any (A : Option Addr) (L : List En) (len cap : Nat) (cpu : Int) (hlen : L.length = len) (hle : len ≤ 1000000) (w : World) (hR : RowsE w.heap.size w A L) :
    Calls Try.prog 15 #[.slice A len cap, .int .i64 cpu] w fun e W' => e = .returned (.int .i64 (gapL L cpu : Nat)) ∧ Below w.heap.size w W' :=
  callsIn_wide.1 (gap_in Fence.wide 3 trivial trivial trivial rfl (Nat.le_refl _) A L len cap cpu hlen hle w hR)
end Go.Proofs.Ytogplndhciaoeaa
