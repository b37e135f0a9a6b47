/- ChainNobody's walk. -/
import Derived.Test.YtlgdeadghmbfmaaCe
namespace Go.Proofs.Ytlgdeadghmbfmaa
open Go.RowKit Go.Shelf
attribute [local go_sem] Oper.semAt_some

/-- What holds behind a loop over no row. -/
def NoI (w : World) (pre : List Int) (W : World) : Prop := pre = [] ∧ Blk W w.heap.size 4 #[.bool false] ∧ But Nob w W
theorem noI_own (w : World) (B : Nat) (hB : w.heap.size ≤ B) : OwnFrom B (NoI w) := by
  rintro s W W' row ⟨q, e, h⟩ hg hr
  exact ⟨q, e.own_ hg fun r e => (hr r e).2, h.grown hg fun r e => .inr (Nat.le_trans hB (hr r e).1)⟩
set_option maxRecDepth 100000 in
set_option maxHeartbeats 4000000 in
theorem nobody7_any (k x : Int) (w : World) :
    Calls Try.prog 14 #[.int .i64 k, .int .i64 x] w fun e w' => e = .returned (.bool true) ∧ Below w.heap.size w w' := by
  refine (callsIn_wide (n := 3)).1 ?_
  refine callsIn_of_wp_marks Try.func14 rfl trivial ?_ rfl
  refine wpIn_wide.2 ?_
  simp only [Try.ntmps14, List.size_toArray, List.length_cons, List.length_nil, Nat.reduceAdd, Nat.reduceSub, Array.replicate_succ, Array.replicate_zero, List.push_toArray, List.append_toArray, List.nil_append, List.cons_append]
  have hfn := func1_nil
  go_wp2_with (first
    | (go_at_call 49; (with_reducible refine (pop_none k (firstc_nil k)).mono ?_); rintro e wq ⟨rfl, rfl⟩)
    | (go_at_call 51; (with_reducible refine (in_nil x).mono ?_); rintro e wq ⟨rfl, rfl⟩)
    | (go_at_call 52; (with_reducible refine (firstc_nil k).mono ?_); rintro e wq ⟨rfl, rfl⟩)
    | (go_at_call 53; (with_reducible refine (next_nil x).mono ?_); rintro e wq ⟨rfl, rfl⟩)
    | (go_at_call 48; (with_reducible refine (remove_nil x).mono ?_); rintro e wq ⟨rfl, rfl⟩))
  refine (eachc_any _ k _).mono ?_
  rintro e w1 ⟨rfl, hw1⟩
  have b0 : Blk w1 w.heap.size 4 #[.bool false] := by subst hw1; exact ((Blk.new w _ _).alloc _).alloc _
  have b1 : Blk w1 (w.heap.size + 1) 67 #[.pointer none] := by
    subst hw1; have := Blk.new (w.alloc (.cells #[.bool false] 4)) 67 #[.pointer none]
    rw [World.size_alloc] at this; exact this.alloc _
  have b2 : Blk w1 (w.heap.size + 2) 3 #[.int .i64 k] := by
    subst hw1; have := Blk.new ((w.alloc (.cells #[.bool false] 4)).alloc (.cells #[.pointer none] 67)) 3 #[.int .i64 k]
    rw [World.size_alloc, World.size_alloc] at this; exact this
  have hz : w1.heap.size = w.heap.size + 3 := by subst hw1; simp
  have hG : But Nob w w1 := by subst hw1; exact (((But.refl _ _).alloc _).alloc _).alloc _
  simp only [World.size_alloc]
  clear hw1
  have HG := Lib.hid hG; have HB0 := Lib.hid b0; have HB1 := Lib.hid b1; have HB2 := Lib.hid b2
  clear hG b0 b1 b2
  go_wp2_with (first
    | (go_at_call 46; (with_reducible refine (push_nil k x).mono ?_); rintro e wq ⟨rfl, rfl⟩)
    | (go_at_call 50; (with_reducible refine (lenc_nil k).mono ?_); rintro e wq ⟨rfl, rfl⟩))
  simp only [Nat.add_assoc, Nat.reduceAdd]
  clear hfn
  refine (wpIn_wide (n := 3)).1 ?_
  have hst := eachc_stops (3 - 1) (by omega) Nob none k [] (w.heap.size + 1) (w.heap.size + 2) w1 (fun _ x => x.elim) HB1.out HB2.out
    (fun W _ => (all_none k (firstc_nil k)).mono fun e W' ⟨he, hw⟩ => ⟨none, 0, 0, he, rfl, by omega, fun j hj => absurd hj (by omega), by rw [← hw]; exact But.refl _ _⟩)
  refine wpIn_rangeFunc_ownG rfl (by omega) (gf := 87) rfl trivial (enters_of Try.func87 (by kernel_rfl) rfl) hst (fun h k => ButC.trans h k) (fun W l o o' _ hl ho _ => butC_b W l o o' hl ho) (Below.refl _ _) (fun _ => rfl)
    (NoI w) (fun _ _ _ => False) (noI_own w w1.heap.size (by omega)) (fun _ _ _ _ _ h _ _ => h)
    ⟨rfl, HB0.out, HG.out⟩ ?a1 ?assign ?body ?done ?stop
  case assign =>
    intro l x W K hK
    simp only [enc1]
    gi_wp2
    exact hK
  case body => exact fun l pre x W _ h => absurd h (Nat.not_lt_zero _)
  case done =>
    rintro D ys W hD rfl ⟨_, hb, hGW⟩ hK
    have HD : Hid (w1.heap.size ≤ D) := hD
    have HK := Lib.hid hK; have HW := Lib.hid hGW; have HB := Lib.hid hb
    clear hK hGW hb hD hst
    go_wp2_with (go_at_call 44; (with_reducible refine (lives7_any _).mono ?_); rintro e w9 ⟨rfl, h9⟩
                 have b1 := HB.out.below h9 HB.out.lt
                 have c1 := b1.cell 0; have f1 := b1.free 0
                 simp only [List.getElem?_toArray, List.getElem?_cons_zero] at c1
                 have H9 := Lib.hid h9; have B1 := Lib.hid b1; clear h9 b1)
    have hDl := (Array.getElem?_eq_some_iff.1 HK.out).1
    have hK9 : w9.heap[D]? = some (.deferred (some [])) := (H9.out.block D hDl).trans HK.out
    refine ⟨by simp, .inl ⟨_, _, rfl, run_takeDeferred (b := D) (ds := []) ((KeepsOthers.setCell _ _ _).same D _ hK9 rfl), ?_⟩⟩
    have hb1 : Blk ((w9.setCell ⟨w.heap.size, 0, none⟩ (.bool true)).putObj D (.deferred none)) w.heap.size 4 #[.bool true] :=
      (World.putObj_heap_other (by have := HD.out; omega)).trans (B1.out.set_ 0 _)
    have hc1 := hb1.cell 0
    simp only [List.getElem?_toArray, List.getElem?_cons_zero] at hc1
    refine ⟨.bool true, ?_, rfl, ?_⟩
    · simp [results, Try.f14, go_sem, hc1]
    · have hG9 : But Nob w w9 := HW.out.trans (But.of_below H9.out)
      exact ((hG9.set ⟨w.heap.size, 0, none⟩ _ (.inr (Nat.le_refl _))).grown (grownBy_putObj' _ D (.deferred none)) (fun r e => by cases e; exact .inr (by have := HD.out; omega))).below (Nat.le_refl _) fun _ _ x => x.elim
  case stop => exact fun D c pre W _ _ h _ => h.elim
end Go.Proofs.Ytlgdeadghmbfmaa
