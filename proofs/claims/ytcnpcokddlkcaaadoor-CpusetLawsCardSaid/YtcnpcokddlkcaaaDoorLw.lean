/- The walk of CpusetLaws: the law answers true at every three sets. -/
import Derived.Test.YtcnpcokddlkcaaaDoorLe
import Derived.Test.YtcnpcokddlkcaaaDoorLv
namespace Go.Proofs.YtcnpcokddlkcaaaDoor
open Go.RowKit

theorem heap3 (w : World) (p q r : Nat → Bool) : Below w.heap.size w (((w.alloc (.cells (cellsOf p) 25)).alloc (.cells (cellsOf q) 25)).alloc (.cells (cellsOf r) 25)) ∧ (((w.alloc (.cells (cellsOf p) 25)).alloc (.cells (cellsOf q) 25)).alloc (.cells (cellsOf r) 25)).heap.size = w.heap.size + 3 :=
  ⟨((((Below.refl _ _).alloc (Nat.le_refl _) _).alloc (by simp) _).alloc (by simp; omega) _), by simp⟩
/-- Two results laid in two variables. -/
theorem lay_two (w2 : World) (p q : Nat → Bool) : Below w2.heap.size w2 ((((w2.alloc (.cells (cellsOf fun _ => false) 25)).alloc (.cells (cellsOf fun _ => false) 25)).setRow w2.heap.size (cellsOf p)).setRow (w2.heap.size + 1) (cellsOf q)) ∧
    ((((w2.alloc (.cells (cellsOf fun _ => false) 25)).alloc (.cells (cellsOf fun _ => false) 25)).setRow w2.heap.size (cellsOf p)).setRow (w2.heap.size + 1) (cellsOf q)).heap[w2.heap.size]? = some (.cells (cellsOf p) 25 (0, 0)) ∧
    ((((w2.alloc (.cells (cellsOf fun _ => false) 25)).alloc (.cells (cellsOf fun _ => false) 25)).setRow w2.heap.size (cellsOf p)).setRow (w2.heap.size + 1) (cellsOf q)).heap[w2.heap.size + 1]? = some (.cells (cellsOf q) 25 (0, 0)) ∧ w2.heap.size + 1 < ((((w2.alloc (.cells (cellsOf fun _ => false) 25)).alloc (.cells (cellsOf fun _ => false) 25)).setRow w2.heap.size (cellsOf p)).setRow (w2.heap.size + 1) (cellsOf q)).heap.size := by
  refine ⟨?_, ?_, ?_, by simp⟩
  · exact below_setRow (below_setRow (((Below.refl _ _).alloc (Nat.le_refl _) _).alloc (by simp) _) (Nat.le_refl _) _) (by omega) _
  · exact (setRow_other _ _ _ _ (by omega)).trans (setRow_heap _ _ _ _ _ _ (heap_alloc2_old w2 _ _))
  · exact setRow_heap _ _ _ _ _ _ ((setRow_other _ _ _ _ (by omega)).trans (heap_alloc2_new w2 _ _))
abbrev Gives2 (f : FuncId) (p q r : Nat → Bool) : Prop := Hid (∀ w', Calls Tryd.prog f #[.agg (cellsOf p), .agg (cellsOf q)] w' fun e w'' => e = .returned (.agg (cellsOf r)) ∧ Below w'.heap.size w' w'')
theorem gAnd (p q r : Nat → Bool) (h : ∀ n, (p n && q n) = r n) : Gives2 24 p q r := Lib.hid fun w' => by
  have := and_any p q w'; rwa [show (fun n => p n && q n) = r from funext h] at this
theorem gOr (p q r : Nat → Bool) (h : ∀ n, (p n || q n) = r n) : Gives2 25 p q r := Lib.hid fun w' => by
  have := or_any p q w'; rwa [show (fun n => p n || q n) = r from funext h] at this
theorem gMinus (p q r : Nat → Bool) (h : ∀ n, (p n && !q n) = r n) : Gives2 26 p q r := Lib.hid fun w' => by
  have := minus_any p q w'; rwa [show (fun n => p n && !q n) = r from funext h] at this
theorem ab3 : ∀ a b c : Bool, (a && (b && c)) = (a && b && c) ∧ (a || (b || c)) = (a || b || c) ∧ (a && b || a && c) = (a && (b || c)) ∧ (a && !b && !c) = (a && !(b || c)) := by decide
theorem ab2 : ∀ a b : Bool, (b && a) = (a && b) ∧ (b || a) = (a || b) ∧ (a && !b || a && b) = a ∧ (a && b && (a || b)) = (a && b) ∧ (a && a) = a := by decide
def andP (p q : Nat → Bool) : Nat → Bool := fun n => p n && q n
def orP (p q : Nat → Bool) : Nat → Bool := fun n => p n || q n
def minusP (p q : Nat → Bool) : Nat → Bool := fun n => p n && !q n
def lenO (p : Nat → Bool) : Nat := cnt p 1024
def withinB (p q : Nat → Bool) : Bool := eqP (fun n => p n && q n) p
theorem cAnd (p q : Nat → Bool) (w : World) : Calls Tryd.prog 24 #[.agg (cellsOf p), .agg (cellsOf q)] w fun e w' => e = .returned (.agg (cellsOf (andP p q))) ∧ Below w.heap.size w w' := and_any p q w
theorem cOr (p q : Nat → Bool) (w : World) : Calls Tryd.prog 25 #[.agg (cellsOf p), .agg (cellsOf q)] w fun e w' => e = .returned (.agg (cellsOf (orP p q))) ∧ Below w.heap.size w w' := or_any p q w
theorem cMinus (p q : Nat → Bool) (w : World) : Calls Tryd.prog 26 #[.agg (cellsOf p), .agg (cellsOf q)] w fun e w' => e = .returned (.agg (cellsOf (minusP p q))) ∧ Below w.heap.size w w' := minus_any p q w
theorem cWithin (p q : Nat → Bool) (w : World) : Calls Tryd.prog 27 #[.agg (cellsOf p), .agg (cellsOf q)] w fun e w' => e = .returned (.bool (withinB p q)) ∧ Below w.heap.size w w' := within_any p q w
theorem cLen (p : Nat → Bool) (w : World) : Calls Tryd.prog 18 #[.agg (cellsOf p)] w fun e w' => e = .returned (.int .i64 (lenO p)) ∧ Below w.heap.size w w' := len_any p w
/-- Behind the calls and allocs of the first assignment: what has been laid so far. -/
structure St (w0 : World) (o7 o8 : Option Nat) (W : World) : Prop where
  bel : Below w0.heap.size w0 W
  s7 : ∀ g, o7 = some g → w0.heap.size ≤ g ∧ g < W.heap.size ∧ W.heap[g]? = some (.cells (cellsOf fun _ => false) 25 (0, 0))
  s8 : ∀ g, o8 = some g → w0.heap.size ≤ g ∧ g < W.heap.size ∧ W.heap[g]? = some (.cells (cellsOf fun _ => false) 25 (0, 0))
  ne : ∀ g h, o7 = some g → o8 = some h → g ≠ h
theorem St.call {w0 W W' : World} {o7 o8 : Option Nat} (h : St w0 o7 o8 W) (hb : Below W.heap.size W W') : St w0 o7 o8 W' :=
  ⟨h.bel.trans (hb.mono h.bel.size), fun g e => ⟨(h.s7 g e).1, Nat.lt_of_lt_of_le (h.s7 g e).2.1 hb.size, (hb.block _ (h.s7 g e).2.1).trans (h.s7 g e).2.2⟩,
    fun g e => ⟨(h.s8 g e).1, Nat.lt_of_lt_of_le (h.s8 g e).2.1 hb.size, (hb.block _ (h.s8 g e).2.1).trans (h.s8 g e).2.2⟩, h.ne⟩
theorem St.a7 {w0 W : World} {o8 : Option Nat} (h : St w0 none o8 W) : St w0 (some W.heap.size) o8 (W.alloc (.cells (cellsOf fun _ => false) 25)) := by
  have h' := h.call ((Below.refl _ _).alloc (Nat.le_refl _) (.cells (cellsOf fun _ => false) 25))
  refine ⟨h'.bel, fun g e => ?_, h'.s8, fun g k e1 e2 => ?_⟩
  · cases e; exact ⟨h.bel.size, by simp, heap_alloc_new _ _⟩
  · cases e1; have := (h.s8 k e2).2.1; omega
theorem St.a8 {w0 W : World} {o7 : Option Nat} (h : St w0 o7 none W) : St w0 o7 (some W.heap.size) (W.alloc (.cells (cellsOf fun _ => false) 25)) := by
  have h' := h.call ((Below.refl _ _).alloc (Nat.le_refl _) (.cells (cellsOf fun _ => false) 25))
  refine ⟨h'.bel, h'.s7, fun g e => ?_, fun g k e1 e2 => ?_⟩
  · cases e; exact ⟨h.bel.size, by simp, heap_alloc_new _ _⟩
  · cases e2; have := (h.s7 g e1).2.1; omega
/-- Both are stored. -/
structure Fin2 (w0 : World) (p q : Nat → Bool) (g7 g8 : Nat) (W : World) : Prop where
  bel : Below w0.heap.size w0 W
  l7 : g7 < W.heap.size
  l8 : g8 < W.heap.size
  b7 : W.heap[g7]? = some (.cells (cellsOf p) 25 (0, 0))
  b8 : W.heap[g8]? = some (.cells (cellsOf q) 25 (0, 0))
theorem St.fin {w0 W : World} {g7 g8 : Nat} (h : St w0 (some g7) (some g8) W) (p q : Nat → Bool) : Fin2 w0 p q g7 g8 ((W.setRow g7 (cellsOf p)).setRow g8 (cellsOf q)) := by
  obtain ⟨a1, a2, a3⟩ := h.s7 g7 rfl
  obtain ⟨c1, c2, c3⟩ := h.s8 g8 rfl
  have ne := h.ne g7 g8 rfl rfl
  refine ⟨below_setRow (below_setRow h.bel a1 _) c1 _, by simpa using a2, by simpa using c2, ?_, ?_⟩
  · exact (setRow_other _ _ _ _ ne).trans (setRow_heap _ _ _ _ _ _ a3)
  · exact setRow_heap _ _ _ _ _ _ ((setRow_other _ _ _ _ ne.symm).trans c3)
theorem eqP_self (p : Nat → Bool) : eqP p p = true := eqP_true.2 fun _ _ => rfl
theorem alloc_sz (w : World) (o : Obj) : (w.alloc o).heap.size = w.heap.size + 1 := by simp
theorem with_act {P : Program} {c : Code} {Q : Exit → Act → World → Prop} {a : Act} {w : World} (Q0 : Act → Exit → Act → World → Prop) (h1 : c.wp P (Q0 a) a w) (h2 : ∀ e a' w', Q0 a e a' w' → Q e a' w') : c.wp P Q a w :=
  Code.wp_mono h2 h1
attribute [local irreducible] cellsOf in
set_option maxRecDepth 100000 in
set_option maxHeartbeats 800000 in
theorem laws_any (p q r : Nat → Bool) (w : World) (hT : Tabs w) :
    Calls Tryd.prog 7 #[.agg (cellsOf p), .agg (cellsOf q), .agg (cellsOf r)] w fun e w' => e = .returned (.bool true) ∧ Below w.heap.size w w' := by
  have hz := cellsOf_zero.symm
  obtain ⟨m, hm⟩ : ∃ m, andP p q = m := ⟨_, rfl⟩
  obtain ⟨o, ho⟩ : ∃ o, orP p q = o := ⟨_, rfl⟩
  obtain ⟨x, hx⟩ : ∃ x, andP m r = x := ⟨_, rfl⟩
  obtain ⟨y, hy⟩ : ∃ y, andP q r = y := ⟨_, rfl⟩
  obtain ⟨z, hz1⟩ : ∃ z, orP o r = z := ⟨_, rfl⟩
  obtain ⟨u, hu⟩ : ∃ u, orP q r = u := ⟨_, rfl⟩
  obtain ⟨v, hv⟩ : ∃ v, andP p u = v := ⟨_, rfl⟩
  obtain ⟨k, hk1⟩ : ∃ k, andP p r = k := ⟨_, rfl⟩
  obtain ⟨d, hd1⟩ : ∃ d, minusP p q = d := ⟨_, rfl⟩
  obtain ⟨f, hf⟩ : ∃ f, minusP p u = f := ⟨_, rfl⟩
  have h2 := fun n => ab2 (p n) (q n)
  have h3 := fun n => ab3 (p n) (q n) (r n)
  have n1 : andP q p = m := by subst hm; exact funext fun n => (h2 n).1
  have n2 : orP q p = o := by subst ho; exact funext fun n => (h2 n).2.1
  have n3 : andP p y = x := by subst hx hy hm; exact funext fun n => (h3 n).1
  have n4 : orP p u = z := by subst hz1 hu ho; exact funext fun n => (h3 n).2.1
  have n5 : orP m k = v := by subst hv hu hk1 hm; exact funext fun n => (h3 n).2.2.1
  have n6 : minusP d r = f := by subst hf hd1 hu; exact funext fun n => (h3 n).2.2.2
  have n7 : orP d m = p := by subst hd1 hm; exact funext fun n => (h2 n).2.2.1
  have n8 : andP p p = p := funext fun n => (h2 n).2.2.2.2
  have n9 : withinB m o = true := by subst hm ho; unfold withinB; exact eqP_true.2 fun n _ => (h2 n).2.2.2.1
  obtain ⟨c1, hc1⟩ : ∃ c, lenO m = c := ⟨_, rfl⟩
  obtain ⟨c2, hc2⟩ : ∃ c, lenO o = c := ⟨_, rfl⟩
  obtain ⟨c3, hc3⟩ : ∃ c, lenO p = c := ⟨_, rfl⟩
  obtain ⟨c4, hc4⟩ : ∃ c, lenO q = c := ⟨_, rfl⟩
  have hcc : c1 + c2 = c3 + c4 := by subst hc1 hc2 hc3 hc4 hm ho; exact cnt_laws p q 1024
  have i3 : c3 ≤ 1024 := hc3 ▸ cnt_le _ _
  have i4 : c4 ≤ 1024 := hc4 ▸ cnt_le _ _
  have i1 : c1 ≤ 1024 := hc1 ▸ cnt_le _ _
  have i2 : c2 ≤ 1024 := hc2 ▸ cnt_le _ _
  have hS1 : ((c1 : Int) + (c2 : Int) == (c3 : Int) + (c4 : Int)) = true := by rw [beq_iff_eq]; omega
  have HA : Gives2 24 p q m := gAnd _ _ _ fun n => congrFun hm n
  have HO : Gives2 25 p q o := gOr _ _ _ fun n => congrFun ho n
  have E := Lib.hid (And.intro hm (And.intro ho (And.intro hx (And.intro hy (And.intro hz1 (And.intro hu (And.intro hv (And.intro hk1 (And.intro hd1 (And.intro hf (And.intro n1 (And.intro n2 (And.intro n3 (And.intro n4 (And.intro n5 (And.intro n6 (And.intro n7 (And.intro n8 (And.intro n9 (And.intro hc1 (And.intro hc2 (And.intro hc3 (And.intro hc4 hS1)))))))))))))))))))))))
  clear h2 h3 hm ho hx hy hz1 hu hv hk1 hd1 hf n1 n2 n3 n4 n5 n6 n7 n8 n9 hc1 hc2 hc3 hc4 hcc hS1
  obtain ⟨hb0, hs0⟩ := heap3 w p q r
  have g0 := heap_alloc3_0 w (cellsOf p) (cellsOf q) (cellsOf r)
  have g1 := heap_alloc3_1 w (cellsOf p) (cellsOf q) (cellsOf r)
  have g2 := heap_alloc3_2 w (cellsOf p) (cellsOf q) (cellsOf r)
  have TT := Lib.hid (hT.on hb0)
  have HB0 := Lib.hid hb0; clear hb0 hT
  have HS0 := Lib.hid hs0; clear hs0
  have G0 := Lib.hid g0; have G1 := Lib.hid g1; have G2 := Lib.hid g2; clear g0 g1 g2
  go_enter Tryd.func7, Tryd.ntmps7
  go_wp2_with fail
  generalize hW0 : ((w.alloc (.cells (cellsOf p) 25)).alloc (.cells (cellsOf q) 25)).alloc (.cells (cellsOf r) 25) = W0 at TT HB0 HS0 G0 G1 G2 ⊢
  clear hW0
  have hS : St W0 none none W0.drew := ⟨(Below.refl _ _).drew, fun g e => (by cases e), fun g e => (by cases e), fun g k e => (by cases e)⟩
  have HS := Lib.hid hS; clear hS
  have l0 : w.heap.size < W0.heap.size := by have := HS0.out; omega
  have l1 : w.heap.size + 1 < W0.heap.size := by have := HS0.out; omega
  refine with_act (fun a0 e a' w' => e = .normal ∧ ∃ g7 g8, a' = (((((((a0.put (some 9) (.agg (cellsOf p))).put (some 10) (.agg (cellsOf q))).put (some 11) (.agg (cellsOf m))).put (some 12) (.agg (cellsOf p))).put (some 13) (.agg (cellsOf q))).put (some 14) (.agg (cellsOf o))).put (some 7) (.pointer (some ⟨g7, 0, none⟩))).put (some 8) (.pointer (some ⟨g8, 0, none⟩)) ∧ Fin2 W0 m o g7 g8 w') ?_ ?_
  rotate_left
  · rintro e a' W ⟨rfl, g7, g8, rfl, hF⟩
    go_simp
    have l2 : w.heap.size + 1 + 1 < W0.heap.size := by have := HS0.out; omega
    have J0 := Lib.hid ((hF.bel.block _ l0).trans G0.out)
    have J1 := Lib.hid ((hF.bel.block _ l1).trans G1.out)
    have J2 := Lib.hid ((hF.bel.block _ l2).trans G2.out)
    have X7 := Lib.hid hF.b7; have X8 := Lib.hid hF.b8
    have k7 := hF.l7; have k8 := hF.l8
    have k0 := Nat.lt_of_lt_of_le l0 hF.bel.size
    have k1 := Nat.lt_of_lt_of_le l1 hF.bel.size
    have k2 := Nat.lt_of_lt_of_le l2 hF.bel.size
    have TX := Lib.hid (TT.out.on hF.bel)
    have BX := Lib.hid (HB0.out.trans (hF.bel.mono HB0.out.size))
    clear hF HS TT HB0 HS0 G0 G1 G2 l0 l1 l2
    obtain ⟨hm, ho, hx, hy, hz1, hu, hv, hk1, hd1, hf, n1, n2, n3, n4, n5, n6, n7, n8, n9, hc1, hc2, hc3, hc4, hS1⟩ := E.out
    have e1 := eqP_self m; have e2 := eqP_self o; have e3 := eqP_self x; have e4 := eqP_self z; have e5 := eqP_self v; have e6 := eqP_self p; have e7 := eqP_self f
    go_wp2_with fail
    refine wp_region_cls (by kernel_rfl) (by kernel_rfl) ?_
    repeat
      first
      | go_big_quiet_skip
      | (go_big_quiet_want
         first
         | (refine quiet_load_set _ rfl _ _ rfl (fun w' h => by first | exact h.blk k0 J0.out | exact h.blk k1 J1.out | exact h.blk k2 J2.out | exact h.blk k7 X7.out | exact h.blk k8 X8.out) ?_; go_simp; go_big_quiet_on)
         | (refine quiet_eql_set _ _ _ rfl _ _ rfl rfl ?_; go_simp; go_big_quiet_on)
         | (refine quiet_neq_set _ _ _ rfl _ _ rfl rfl ?_; go_simp; go_big_quiet_on)
         | (go_big_quiet_op
            first
            | go_big_quiet_on
            | (refine ⟨_, fun _ _ => rfl, ?_⟩; go_big_quiet_on)
            | (apply Exists.intro
               refine ⟨fun w' h => ?_, ?_⟩
               · (first | (go_at_call 24; exact quiet_call h (Nat.le_refl _) (cAnd _ _ w')) | (go_at_call 25; exact quiet_call h (Nat.le_refl _) (cOr _ _ w')) | (go_at_call 26; exact quiet_call h (Nat.le_refl _) (cMinus _ _ w')) | (go_at_call 18; exact quiet_call h (Nat.le_refl _) (cLen _ w')) | (go_at_call 27; exact quiet_call h (Nat.le_refl _) (cWithin _ _ w')) | (go_at_call 16; exact quiet_call h (Nat.le_refl _) (lives_any w' (TX.out.on h.bl))))
               go_big_quiet_on)))
    refine wpQuiet_nil ?_
    intro w9 h9
    replace J0 := Lib.hid (h9.blk k0 J0.out)
    replace J1 := Lib.hid (h9.blk k1 J1.out)
    replace J2 := Lib.hid (h9.blk k2 J2.out)
    replace X7 := Lib.hid (h9.blk k7 X7.out)
    replace X8 := Lib.hid (h9.blk k8 X8.out)
    replace TX := Lib.hid (TX.out.on h9.bl)
    replace BX := Lib.hid (BX.out.trans (h9.bl.mono BX.out.size))
    replace k0 := Nat.lt_of_lt_of_le k0 h9.bl.size
    replace k1 := Nat.lt_of_lt_of_le k1 h9.bl.size
    replace k2 := Nat.lt_of_lt_of_le k2 h9.bl.size
    replace k7 := Nat.lt_of_lt_of_le k7 h9.bl.size
    replace k8 := Nat.lt_of_lt_of_le k8 h9.bl.size
    clear h9
    go_wp2_with fail
    refine wp_region_cls (by kernel_rfl) (by kernel_rfl) ?_
    repeat
      first
      | go_big_quiet_skip
      | (go_big_quiet_want
         first
         | (refine quiet_load_set _ rfl _ _ rfl (fun w' h => by first | exact h.blk k0 J0.out | exact h.blk k1 J1.out | exact h.blk k2 J2.out | exact h.blk k7 X7.out | exact h.blk k8 X8.out) ?_; go_simp; go_big_quiet_on)
         | (refine quiet_eql_set _ _ _ rfl _ _ rfl rfl ?_; go_simp; go_big_quiet_on)
         | (refine quiet_neq_set _ _ _ rfl _ _ rfl rfl ?_; go_simp; go_big_quiet_on)
         | (go_big_quiet_op
            first
            | go_big_quiet_on
            | (refine ⟨_, fun _ _ => rfl, ?_⟩; go_big_quiet_on)
            | (apply Exists.intro
               refine ⟨fun w' h => ?_, ?_⟩
               · (first | (go_at_call 24; exact quiet_call h (Nat.le_refl _) (cAnd _ _ w')) | (go_at_call 25; exact quiet_call h (Nat.le_refl _) (cOr _ _ w')) | (go_at_call 26; exact quiet_call h (Nat.le_refl _) (cMinus _ _ w')) | (go_at_call 18; exact quiet_call h (Nat.le_refl _) (cLen _ w')) | (go_at_call 27; exact quiet_call h (Nat.le_refl _) (cWithin _ _ w')) | (go_at_call 16; exact quiet_call h (Nat.le_refl _) (lives_any w' (TX.out.on h.bl))))
               go_big_quiet_on)))
    refine wpQuiet_nil ?_
    intro w9 h9
    replace J0 := Lib.hid (h9.blk k0 J0.out)
    replace J1 := Lib.hid (h9.blk k1 J1.out)
    replace J2 := Lib.hid (h9.blk k2 J2.out)
    replace X7 := Lib.hid (h9.blk k7 X7.out)
    replace X8 := Lib.hid (h9.blk k8 X8.out)
    replace TX := Lib.hid (TX.out.on h9.bl)
    replace BX := Lib.hid (BX.out.trans (h9.bl.mono BX.out.size))
    replace k0 := Nat.lt_of_lt_of_le k0 h9.bl.size
    replace k1 := Nat.lt_of_lt_of_le k1 h9.bl.size
    replace k2 := Nat.lt_of_lt_of_le k2 h9.bl.size
    replace k7 := Nat.lt_of_lt_of_le k7 h9.bl.size
    replace k8 := Nat.lt_of_lt_of_le k8 h9.bl.size
    clear h9
    go_wp2_with fail
    refine wp_region_cls (by kernel_rfl) (by kernel_rfl) ?_
    repeat
      first
      | go_big_quiet_skip
      | (go_big_quiet_want
         first
         | (refine quiet_load_set _ rfl _ _ rfl (fun w' h => by first | exact h.blk k0 J0.out | exact h.blk k1 J1.out | exact h.blk k2 J2.out | exact h.blk k7 X7.out | exact h.blk k8 X8.out) ?_; go_simp; go_big_quiet_on)
         | (refine quiet_eql_set _ _ _ rfl _ _ rfl rfl ?_; go_simp; go_big_quiet_on)
         | (refine quiet_neq_set _ _ _ rfl _ _ rfl rfl ?_; go_simp; go_big_quiet_on)
         | (go_big_quiet_op
            first
            | go_big_quiet_on
            | (refine ⟨_, fun _ _ => rfl, ?_⟩; go_big_quiet_on)
            | (apply Exists.intro
               refine ⟨fun w' h => ?_, ?_⟩
               · (first | (go_at_call 24; exact quiet_call h (Nat.le_refl _) (cAnd _ _ w')) | (go_at_call 25; exact quiet_call h (Nat.le_refl _) (cOr _ _ w')) | (go_at_call 26; exact quiet_call h (Nat.le_refl _) (cMinus _ _ w')) | (go_at_call 18; exact quiet_call h (Nat.le_refl _) (cLen _ w')) | (go_at_call 27; exact quiet_call h (Nat.le_refl _) (cWithin _ _ w')) | (go_at_call 16; exact quiet_call h (Nat.le_refl _) (lives_any w' (TX.out.on h.bl))))
               go_big_quiet_on)))
    refine wpQuiet_nil ?_
    intro w9 h9
    replace J0 := Lib.hid (h9.blk k0 J0.out)
    replace J1 := Lib.hid (h9.blk k1 J1.out)
    replace J2 := Lib.hid (h9.blk k2 J2.out)
    replace X7 := Lib.hid (h9.blk k7 X7.out)
    replace X8 := Lib.hid (h9.blk k8 X8.out)
    replace TX := Lib.hid (TX.out.on h9.bl)
    replace BX := Lib.hid (BX.out.trans (h9.bl.mono BX.out.size))
    replace k0 := Nat.lt_of_lt_of_le k0 h9.bl.size
    replace k1 := Nat.lt_of_lt_of_le k1 h9.bl.size
    replace k2 := Nat.lt_of_lt_of_le k2 h9.bl.size
    replace k7 := Nat.lt_of_lt_of_le k7 h9.bl.size
    replace k8 := Nat.lt_of_lt_of_le k8 h9.bl.size
    clear h9
    go_wp2_with fail
    go_ret
    exact ⟨rfl, BX.out⟩
  · refine wp_region_held_drew (S := Below W0.heap.size W0) (by kernel_rfl) HS.out.bel (fun _ => ?_)
    generalize W0.drew = Wd at HS ⊢
    show wpAnyH _ _ _ _ _ _ _ _ _
    refine wpAnyH_take (i := 0) (v := _) rfl (by kernel_rfl) (by kernel_rfl) (by kernel_rfl) (fun _ _ _ h => nomatch h.1) (yieldsIf_load_set (by rfl) _ rfl w.heap.size p rfl (fun W h => (h.block _ l0).trans G0.out)) HS.out.bel ?_
    go_simp
    refine wpAnyH_take (i := 1) (v := _) rfl (by kernel_rfl) (by kernel_rfl) (by kernel_rfl) (fun _ _ _ h => nomatch h.1) (yieldsIf_load_set (by rfl) _ rfl (w.heap.size + 1) q rfl (fun W h => (h.block _ l1).trans G1.out)) HS.out.bel ?_
    go_simp
    refine wpAnyH_take (i := 3) (v := _) rfl (by kernel_rfl) (by kernel_rfl) (by kernel_rfl) (fun _ _ _ h => nomatch h.1) (yieldsIf_load_set (by rfl) _ rfl w.heap.size p rfl (fun W h => (h.block _ l0).trans G0.out)) HS.out.bel ?_
    go_simp
    refine wpAnyH_take (i := 4) (v := _) rfl (by kernel_rfl) (by kernel_rfl) (by kernel_rfl) (fun _ _ _ h => nomatch h.1) (yieldsIf_load_set (by rfl) _ rfl (w.heap.size + 1) q rfl (fun W h => (h.block _ l1).trans G1.out)) HS.out.bel ?_
    go_simp
    refine wpAnyH_ready (rs := [2, 6, 7]) (by kernel_rfl) (by simp) (AllReadyH.cons rfl (fun K hK => ?_) (AllReadyH.cons rfl (fun K hK => ?_) (AllReadyH.cons rfl (fun K hK => ?_) AllReadyH.nil)))
    · go_simp
      first
        | (refine (HA.out _).mono ?_; rintro e W' ⟨rfl, h⟩; replace HS := Lib.hid (HS.out.call h); clear h; refine hK.out _ _ HS.out.bel (fun _ => ?_); clear hK K)
        | (refine (HO.out _).mono ?_; rintro e W' ⟨rfl, h⟩; replace HS := Lib.hid (HS.out.call h); clear h; refine hK.out _ _ HS.out.bel (fun _ => ?_); clear hK K)
      refine wpAnyH_ready (rs := [5, 6, 7]) (by kernel_rfl) (by simp) (AllReadyH.cons rfl (fun K hK => ?_) (AllReadyH.cons rfl (fun K hK => ?_) (AllReadyH.cons rfl (fun K hK => ?_) AllReadyH.nil)))
      · go_simp
        first
          | (refine (HA.out _).mono ?_; rintro e W' ⟨rfl, h⟩; replace HS := Lib.hid (HS.out.call h); clear h; refine hK.out _ _ HS.out.bel (fun _ => ?_); clear hK K)
          | (refine (HO.out _).mono ?_; rintro e W' ⟨rfl, h⟩; replace HS := Lib.hid (HS.out.call h); clear h; refine hK.out _ _ HS.out.bel (fun _ => ?_); clear hK K)
        refine wpAnyH_ready (rs := [6, 7]) (by kernel_rfl) (by simp) (AllReadyH.cons rfl (fun K hK => ?_) (AllReadyH.cons rfl (fun K hK => ?_) AllReadyH.nil))
        · go_simp; replace HS := HS.out.a7; (try simp only [alloc_sz] at HS); replace HS := Lib.hid HS; refine hK.out _ _ HS.out.bel (fun _ => ?_); clear hK K
          refine wpAnyH_ready (rs := [7]) (by kernel_rfl) (by simp) (AllReadyH.cons rfl (fun K hK => ?_) AllReadyH.nil)
          · go_simp; replace HS := HS.out.a8; (try simp only [alloc_sz] at HS); replace HS := Lib.hid HS; refine hK.out _ _ HS.out.bel (fun _ => ?_); clear hK K
            refine wpAnyH_ready (rs := [8]) (by kernel_rfl) (by simp) (AllReadyH.cons rfl (fun K hK => ?_) AllReadyH.nil)
            rw [if_pos (by rfl)]
            refine wp_store_row 25 (.tmp 7) (.tmp 11) rfl _ (cellsOf m) rfl rfl _ (cellsOf fun _ => false) (HS.out.s7 _ rfl).2.2 (by rw [infoSet, cellsOf_size]) (by rw [cellsOf_size, cellsOf_size]) (cellsOf_one m) ?_
            refine hK.out _ _ (below_setRow HS.out.bel (HS.out.s7 _ rfl).1 _) (fun _ => ?_)
            clear hK K
            refine wpAnyH_ready (rs := [9]) (by kernel_rfl) (by simp) (AllReadyH.cons rfl (fun K hK => ?_) AllReadyH.nil)
            rw [if_pos (by rfl)]
            refine wp_store_row 25 (.tmp 8) (.tmp 14) rfl _ (cellsOf o) rfl rfl _ (cellsOf fun _ => false) ((setRow_other _ _ _ _ (HS.out.ne _ _ rfl rfl).symm).trans (HS.out.s8 _ rfl).2.2) (by rw [infoSet, cellsOf_size]) (by rw [cellsOf_size, cellsOf_size]) (cellsOf_one o) ?_
            refine hK.out _ _ (HS.out.fin m o).bel (fun _ => ?_)
            clear hK K
            refine wpAnyH_done (by kernel_rfl) ?_ _
            exact ⟨rfl, _, _, rfl, HS.out.fin m o⟩
        · go_simp; replace HS := HS.out.a8; (try simp only [alloc_sz] at HS); replace HS := Lib.hid HS; refine hK.out _ _ HS.out.bel (fun _ => ?_); clear hK K
          refine wpAnyH_ready (rs := [6]) (by kernel_rfl) (by simp) (AllReadyH.cons rfl (fun K hK => ?_) AllReadyH.nil)
          · go_simp; replace HS := HS.out.a7; (try simp only [alloc_sz] at HS); replace HS := Lib.hid HS; refine hK.out _ _ HS.out.bel (fun _ => ?_); clear hK K
            refine wpAnyH_ready (rs := [8]) (by kernel_rfl) (by simp) (AllReadyH.cons rfl (fun K hK => ?_) AllReadyH.nil)
            rw [if_pos (by rfl)]
            refine wp_store_row 25 (.tmp 7) (.tmp 11) rfl _ (cellsOf m) rfl rfl _ (cellsOf fun _ => false) (HS.out.s7 _ rfl).2.2 (by rw [infoSet, cellsOf_size]) (by rw [cellsOf_size, cellsOf_size]) (cellsOf_one m) ?_
            refine hK.out _ _ (below_setRow HS.out.bel (HS.out.s7 _ rfl).1 _) (fun _ => ?_)
            clear hK K
            refine wpAnyH_ready (rs := [9]) (by kernel_rfl) (by simp) (AllReadyH.cons rfl (fun K hK => ?_) AllReadyH.nil)
            rw [if_pos (by rfl)]
            refine wp_store_row 25 (.tmp 8) (.tmp 14) rfl _ (cellsOf o) rfl rfl _ (cellsOf fun _ => false) ((setRow_other _ _ _ _ (HS.out.ne _ _ rfl rfl).symm).trans (HS.out.s8 _ rfl).2.2) (by rw [infoSet, cellsOf_size]) (by rw [cellsOf_size, cellsOf_size]) (cellsOf_one o) ?_
            refine hK.out _ _ (HS.out.fin m o).bel (fun _ => ?_)
            clear hK K
            refine wpAnyH_done (by kernel_rfl) ?_ _
            exact ⟨rfl, _, _, rfl, HS.out.fin m o⟩
      · go_simp; replace HS := HS.out.a7; (try simp only [alloc_sz] at HS); replace HS := Lib.hid HS; refine hK.out _ _ HS.out.bel (fun _ => ?_); clear hK K
        refine wpAnyH_ready (rs := [5, 7]) (by kernel_rfl) (by simp) (AllReadyH.cons rfl (fun K hK => ?_) (AllReadyH.cons rfl (fun K hK => ?_) AllReadyH.nil))
        · go_simp
          first
            | (refine (HA.out _).mono ?_; rintro e W' ⟨rfl, h⟩; replace HS := Lib.hid (HS.out.call h); clear h; refine hK.out _ _ HS.out.bel (fun _ => ?_); clear hK K)
            | (refine (HO.out _).mono ?_; rintro e W' ⟨rfl, h⟩; replace HS := Lib.hid (HS.out.call h); clear h; refine hK.out _ _ HS.out.bel (fun _ => ?_); clear hK K)
          refine wpAnyH_ready (rs := [7]) (by kernel_rfl) (by simp) (AllReadyH.cons rfl (fun K hK => ?_) AllReadyH.nil)
          · go_simp; replace HS := HS.out.a8; (try simp only [alloc_sz] at HS); replace HS := Lib.hid HS; refine hK.out _ _ HS.out.bel (fun _ => ?_); clear hK K
            refine wpAnyH_ready (rs := [8]) (by kernel_rfl) (by simp) (AllReadyH.cons rfl (fun K hK => ?_) AllReadyH.nil)
            rw [if_pos (by rfl)]
            refine wp_store_row 25 (.tmp 7) (.tmp 11) rfl _ (cellsOf m) rfl rfl _ (cellsOf fun _ => false) (HS.out.s7 _ rfl).2.2 (by rw [infoSet, cellsOf_size]) (by rw [cellsOf_size, cellsOf_size]) (cellsOf_one m) ?_
            refine hK.out _ _ (below_setRow HS.out.bel (HS.out.s7 _ rfl).1 _) (fun _ => ?_)
            clear hK K
            refine wpAnyH_ready (rs := [9]) (by kernel_rfl) (by simp) (AllReadyH.cons rfl (fun K hK => ?_) AllReadyH.nil)
            rw [if_pos (by rfl)]
            refine wp_store_row 25 (.tmp 8) (.tmp 14) rfl _ (cellsOf o) rfl rfl _ (cellsOf fun _ => false) ((setRow_other _ _ _ _ (HS.out.ne _ _ rfl rfl).symm).trans (HS.out.s8 _ rfl).2.2) (by rw [infoSet, cellsOf_size]) (by rw [cellsOf_size, cellsOf_size]) (cellsOf_one o) ?_
            refine hK.out _ _ (HS.out.fin m o).bel (fun _ => ?_)
            clear hK K
            refine wpAnyH_done (by kernel_rfl) ?_ _
            exact ⟨rfl, _, _, rfl, HS.out.fin m o⟩
        · go_simp; replace HS := HS.out.a8; (try simp only [alloc_sz] at HS); replace HS := Lib.hid HS; refine hK.out _ _ HS.out.bel (fun _ => ?_); clear hK K
          refine wpAnyH_ready (rs := [5]) (by kernel_rfl) (by simp) (AllReadyH.cons rfl (fun K hK => ?_) AllReadyH.nil)
          · go_simp
            first
              | (refine (HA.out _).mono ?_; rintro e W' ⟨rfl, h⟩; replace HS := Lib.hid (HS.out.call h); clear h; refine hK.out _ _ HS.out.bel (fun _ => ?_); clear hK K)
              | (refine (HO.out _).mono ?_; rintro e W' ⟨rfl, h⟩; replace HS := Lib.hid (HS.out.call h); clear h; refine hK.out _ _ HS.out.bel (fun _ => ?_); clear hK K)
            refine wpAnyH_ready (rs := [8]) (by kernel_rfl) (by simp) (AllReadyH.cons rfl (fun K hK => ?_) AllReadyH.nil)
            rw [if_pos (by rfl)]
            refine wp_store_row 25 (.tmp 7) (.tmp 11) rfl _ (cellsOf m) rfl rfl _ (cellsOf fun _ => false) (HS.out.s7 _ rfl).2.2 (by rw [infoSet, cellsOf_size]) (by rw [cellsOf_size, cellsOf_size]) (cellsOf_one m) ?_
            refine hK.out _ _ (below_setRow HS.out.bel (HS.out.s7 _ rfl).1 _) (fun _ => ?_)
            clear hK K
            refine wpAnyH_ready (rs := [9]) (by kernel_rfl) (by simp) (AllReadyH.cons rfl (fun K hK => ?_) AllReadyH.nil)
            rw [if_pos (by rfl)]
            refine wp_store_row 25 (.tmp 8) (.tmp 14) rfl _ (cellsOf o) rfl rfl _ (cellsOf fun _ => false) ((setRow_other _ _ _ _ (HS.out.ne _ _ rfl rfl).symm).trans (HS.out.s8 _ rfl).2.2) (by rw [infoSet, cellsOf_size]) (by rw [cellsOf_size, cellsOf_size]) (cellsOf_one o) ?_
            refine hK.out _ _ (HS.out.fin m o).bel (fun _ => ?_)
            clear hK K
            refine wpAnyH_done (by kernel_rfl) ?_ _
            exact ⟨rfl, _, _, rfl, HS.out.fin m o⟩
      · go_simp; replace HS := HS.out.a8; (try simp only [alloc_sz] at HS); replace HS := Lib.hid HS; refine hK.out _ _ HS.out.bel (fun _ => ?_); clear hK K
        refine wpAnyH_ready (rs := [5, 6]) (by kernel_rfl) (by simp) (AllReadyH.cons rfl (fun K hK => ?_) (AllReadyH.cons rfl (fun K hK => ?_) AllReadyH.nil))
        · go_simp
          first
            | (refine (HA.out _).mono ?_; rintro e W' ⟨rfl, h⟩; replace HS := Lib.hid (HS.out.call h); clear h; refine hK.out _ _ HS.out.bel (fun _ => ?_); clear hK K)
            | (refine (HO.out _).mono ?_; rintro e W' ⟨rfl, h⟩; replace HS := Lib.hid (HS.out.call h); clear h; refine hK.out _ _ HS.out.bel (fun _ => ?_); clear hK K)
          refine wpAnyH_ready (rs := [6]) (by kernel_rfl) (by simp) (AllReadyH.cons rfl (fun K hK => ?_) AllReadyH.nil)
          · go_simp; replace HS := HS.out.a7; (try simp only [alloc_sz] at HS); replace HS := Lib.hid HS; refine hK.out _ _ HS.out.bel (fun _ => ?_); clear hK K
            refine wpAnyH_ready (rs := [8]) (by kernel_rfl) (by simp) (AllReadyH.cons rfl (fun K hK => ?_) AllReadyH.nil)
            rw [if_pos (by rfl)]
            refine wp_store_row 25 (.tmp 7) (.tmp 11) rfl _ (cellsOf m) rfl rfl _ (cellsOf fun _ => false) (HS.out.s7 _ rfl).2.2 (by rw [infoSet, cellsOf_size]) (by rw [cellsOf_size, cellsOf_size]) (cellsOf_one m) ?_
            refine hK.out _ _ (below_setRow HS.out.bel (HS.out.s7 _ rfl).1 _) (fun _ => ?_)
            clear hK K
            refine wpAnyH_ready (rs := [9]) (by kernel_rfl) (by simp) (AllReadyH.cons rfl (fun K hK => ?_) AllReadyH.nil)
            rw [if_pos (by rfl)]
            refine wp_store_row 25 (.tmp 8) (.tmp 14) rfl _ (cellsOf o) rfl rfl _ (cellsOf fun _ => false) ((setRow_other _ _ _ _ (HS.out.ne _ _ rfl rfl).symm).trans (HS.out.s8 _ rfl).2.2) (by rw [infoSet, cellsOf_size]) (by rw [cellsOf_size, cellsOf_size]) (cellsOf_one o) ?_
            refine hK.out _ _ (HS.out.fin m o).bel (fun _ => ?_)
            clear hK K
            refine wpAnyH_done (by kernel_rfl) ?_ _
            exact ⟨rfl, _, _, rfl, HS.out.fin m o⟩
        · go_simp; replace HS := HS.out.a7; (try simp only [alloc_sz] at HS); replace HS := Lib.hid HS; refine hK.out _ _ HS.out.bel (fun _ => ?_); clear hK K
          refine wpAnyH_ready (rs := [5]) (by kernel_rfl) (by simp) (AllReadyH.cons rfl (fun K hK => ?_) AllReadyH.nil)
          · go_simp
            first
              | (refine (HA.out _).mono ?_; rintro e W' ⟨rfl, h⟩; replace HS := Lib.hid (HS.out.call h); clear h; refine hK.out _ _ HS.out.bel (fun _ => ?_); clear hK K)
              | (refine (HO.out _).mono ?_; rintro e W' ⟨rfl, h⟩; replace HS := Lib.hid (HS.out.call h); clear h; refine hK.out _ _ HS.out.bel (fun _ => ?_); clear hK K)
            refine wpAnyH_ready (rs := [8]) (by kernel_rfl) (by simp) (AllReadyH.cons rfl (fun K hK => ?_) AllReadyH.nil)
            rw [if_pos (by rfl)]
            refine wp_store_row 25 (.tmp 7) (.tmp 11) rfl _ (cellsOf m) rfl rfl _ (cellsOf fun _ => false) (HS.out.s7 _ rfl).2.2 (by rw [infoSet, cellsOf_size]) (by rw [cellsOf_size, cellsOf_size]) (cellsOf_one m) ?_
            refine hK.out _ _ (below_setRow HS.out.bel (HS.out.s7 _ rfl).1 _) (fun _ => ?_)
            clear hK K
            refine wpAnyH_ready (rs := [9]) (by kernel_rfl) (by simp) (AllReadyH.cons rfl (fun K hK => ?_) AllReadyH.nil)
            rw [if_pos (by rfl)]
            refine wp_store_row 25 (.tmp 8) (.tmp 14) rfl _ (cellsOf o) rfl rfl _ (cellsOf fun _ => false) ((setRow_other _ _ _ _ (HS.out.ne _ _ rfl rfl).symm).trans (HS.out.s8 _ rfl).2.2) (by rw [infoSet, cellsOf_size]) (by rw [cellsOf_size, cellsOf_size]) (cellsOf_one o) ?_
            refine hK.out _ _ (HS.out.fin m o).bel (fun _ => ?_)
            clear hK K
            refine wpAnyH_done (by kernel_rfl) ?_ _
            exact ⟨rfl, _, _, rfl, HS.out.fin m o⟩
    · go_simp; replace HS := HS.out.a7; (try simp only [alloc_sz] at HS); replace HS := Lib.hid HS; refine hK.out _ _ HS.out.bel (fun _ => ?_); clear hK K
      refine wpAnyH_ready (rs := [2, 7]) (by kernel_rfl) (by simp) (AllReadyH.cons rfl (fun K hK => ?_) (AllReadyH.cons rfl (fun K hK => ?_) AllReadyH.nil))
      · go_simp
        first
          | (refine (HA.out _).mono ?_; rintro e W' ⟨rfl, h⟩; replace HS := Lib.hid (HS.out.call h); clear h; refine hK.out _ _ HS.out.bel (fun _ => ?_); clear hK K)
          | (refine (HO.out _).mono ?_; rintro e W' ⟨rfl, h⟩; replace HS := Lib.hid (HS.out.call h); clear h; refine hK.out _ _ HS.out.bel (fun _ => ?_); clear hK K)
        refine wpAnyH_ready (rs := [5, 7]) (by kernel_rfl) (by simp) (AllReadyH.cons rfl (fun K hK => ?_) (AllReadyH.cons rfl (fun K hK => ?_) AllReadyH.nil))
        · go_simp
          first
            | (refine (HA.out _).mono ?_; rintro e W' ⟨rfl, h⟩; replace HS := Lib.hid (HS.out.call h); clear h; refine hK.out _ _ HS.out.bel (fun _ => ?_); clear hK K)
            | (refine (HO.out _).mono ?_; rintro e W' ⟨rfl, h⟩; replace HS := Lib.hid (HS.out.call h); clear h; refine hK.out _ _ HS.out.bel (fun _ => ?_); clear hK K)
          refine wpAnyH_ready (rs := [7]) (by kernel_rfl) (by simp) (AllReadyH.cons rfl (fun K hK => ?_) AllReadyH.nil)
          · go_simp; replace HS := HS.out.a8; (try simp only [alloc_sz] at HS); replace HS := Lib.hid HS; refine hK.out _ _ HS.out.bel (fun _ => ?_); clear hK K
            refine wpAnyH_ready (rs := [8]) (by kernel_rfl) (by simp) (AllReadyH.cons rfl (fun K hK => ?_) AllReadyH.nil)
            rw [if_pos (by rfl)]
            refine wp_store_row 25 (.tmp 7) (.tmp 11) rfl _ (cellsOf m) rfl rfl _ (cellsOf fun _ => false) (HS.out.s7 _ rfl).2.2 (by rw [infoSet, cellsOf_size]) (by rw [cellsOf_size, cellsOf_size]) (cellsOf_one m) ?_
            refine hK.out _ _ (below_setRow HS.out.bel (HS.out.s7 _ rfl).1 _) (fun _ => ?_)
            clear hK K
            refine wpAnyH_ready (rs := [9]) (by kernel_rfl) (by simp) (AllReadyH.cons rfl (fun K hK => ?_) AllReadyH.nil)
            rw [if_pos (by rfl)]
            refine wp_store_row 25 (.tmp 8) (.tmp 14) rfl _ (cellsOf o) rfl rfl _ (cellsOf fun _ => false) ((setRow_other _ _ _ _ (HS.out.ne _ _ rfl rfl).symm).trans (HS.out.s8 _ rfl).2.2) (by rw [infoSet, cellsOf_size]) (by rw [cellsOf_size, cellsOf_size]) (cellsOf_one o) ?_
            refine hK.out _ _ (HS.out.fin m o).bel (fun _ => ?_)
            clear hK K
            refine wpAnyH_done (by kernel_rfl) ?_ _
            exact ⟨rfl, _, _, rfl, HS.out.fin m o⟩
        · go_simp; replace HS := HS.out.a8; (try simp only [alloc_sz] at HS); replace HS := Lib.hid HS; refine hK.out _ _ HS.out.bel (fun _ => ?_); clear hK K
          refine wpAnyH_ready (rs := [5]) (by kernel_rfl) (by simp) (AllReadyH.cons rfl (fun K hK => ?_) AllReadyH.nil)
          · go_simp
            first
              | (refine (HA.out _).mono ?_; rintro e W' ⟨rfl, h⟩; replace HS := Lib.hid (HS.out.call h); clear h; refine hK.out _ _ HS.out.bel (fun _ => ?_); clear hK K)
              | (refine (HO.out _).mono ?_; rintro e W' ⟨rfl, h⟩; replace HS := Lib.hid (HS.out.call h); clear h; refine hK.out _ _ HS.out.bel (fun _ => ?_); clear hK K)
            refine wpAnyH_ready (rs := [8]) (by kernel_rfl) (by simp) (AllReadyH.cons rfl (fun K hK => ?_) AllReadyH.nil)
            rw [if_pos (by rfl)]
            refine wp_store_row 25 (.tmp 7) (.tmp 11) rfl _ (cellsOf m) rfl rfl _ (cellsOf fun _ => false) (HS.out.s7 _ rfl).2.2 (by rw [infoSet, cellsOf_size]) (by rw [cellsOf_size, cellsOf_size]) (cellsOf_one m) ?_
            refine hK.out _ _ (below_setRow HS.out.bel (HS.out.s7 _ rfl).1 _) (fun _ => ?_)
            clear hK K
            refine wpAnyH_ready (rs := [9]) (by kernel_rfl) (by simp) (AllReadyH.cons rfl (fun K hK => ?_) AllReadyH.nil)
            rw [if_pos (by rfl)]
            refine wp_store_row 25 (.tmp 8) (.tmp 14) rfl _ (cellsOf o) rfl rfl _ (cellsOf fun _ => false) ((setRow_other _ _ _ _ (HS.out.ne _ _ rfl rfl).symm).trans (HS.out.s8 _ rfl).2.2) (by rw [infoSet, cellsOf_size]) (by rw [cellsOf_size, cellsOf_size]) (cellsOf_one o) ?_
            refine hK.out _ _ (HS.out.fin m o).bel (fun _ => ?_)
            clear hK K
            refine wpAnyH_done (by kernel_rfl) ?_ _
            exact ⟨rfl, _, _, rfl, HS.out.fin m o⟩
      · go_simp; replace HS := HS.out.a8; (try simp only [alloc_sz] at HS); replace HS := Lib.hid HS; refine hK.out _ _ HS.out.bel (fun _ => ?_); clear hK K
        refine wpAnyH_ready (rs := [2]) (by kernel_rfl) (by simp) (AllReadyH.cons rfl (fun K hK => ?_) AllReadyH.nil)
        · go_simp
          first
            | (refine (HA.out _).mono ?_; rintro e W' ⟨rfl, h⟩; replace HS := Lib.hid (HS.out.call h); clear h; refine hK.out _ _ HS.out.bel (fun _ => ?_); clear hK K)
            | (refine (HO.out _).mono ?_; rintro e W' ⟨rfl, h⟩; replace HS := Lib.hid (HS.out.call h); clear h; refine hK.out _ _ HS.out.bel (fun _ => ?_); clear hK K)
          refine wpAnyH_ready (rs := [5]) (by kernel_rfl) (by simp) (AllReadyH.cons rfl (fun K hK => ?_) AllReadyH.nil)
          · go_simp
            first
              | (refine (HA.out _).mono ?_; rintro e W' ⟨rfl, h⟩; replace HS := Lib.hid (HS.out.call h); clear h; refine hK.out _ _ HS.out.bel (fun _ => ?_); clear hK K)
              | (refine (HO.out _).mono ?_; rintro e W' ⟨rfl, h⟩; replace HS := Lib.hid (HS.out.call h); clear h; refine hK.out _ _ HS.out.bel (fun _ => ?_); clear hK K)
            refine wpAnyH_ready (rs := [8]) (by kernel_rfl) (by simp) (AllReadyH.cons rfl (fun K hK => ?_) AllReadyH.nil)
            rw [if_pos (by rfl)]
            refine wp_store_row 25 (.tmp 7) (.tmp 11) rfl _ (cellsOf m) rfl rfl _ (cellsOf fun _ => false) (HS.out.s7 _ rfl).2.2 (by rw [infoSet, cellsOf_size]) (by rw [cellsOf_size, cellsOf_size]) (cellsOf_one m) ?_
            refine hK.out _ _ (below_setRow HS.out.bel (HS.out.s7 _ rfl).1 _) (fun _ => ?_)
            clear hK K
            refine wpAnyH_ready (rs := [9]) (by kernel_rfl) (by simp) (AllReadyH.cons rfl (fun K hK => ?_) AllReadyH.nil)
            rw [if_pos (by rfl)]
            refine wp_store_row 25 (.tmp 8) (.tmp 14) rfl _ (cellsOf o) rfl rfl _ (cellsOf fun _ => false) ((setRow_other _ _ _ _ (HS.out.ne _ _ rfl rfl).symm).trans (HS.out.s8 _ rfl).2.2) (by rw [infoSet, cellsOf_size]) (by rw [cellsOf_size, cellsOf_size]) (cellsOf_one o) ?_
            refine hK.out _ _ (HS.out.fin m o).bel (fun _ => ?_)
            clear hK K
            refine wpAnyH_done (by kernel_rfl) ?_ _
            exact ⟨rfl, _, _, rfl, HS.out.fin m o⟩
    · go_simp; replace HS := HS.out.a8; (try simp only [alloc_sz] at HS); replace HS := Lib.hid HS; refine hK.out _ _ HS.out.bel (fun _ => ?_); clear hK K
      refine wpAnyH_ready (rs := [2, 6]) (by kernel_rfl) (by simp) (AllReadyH.cons rfl (fun K hK => ?_) (AllReadyH.cons rfl (fun K hK => ?_) AllReadyH.nil))
      · go_simp
        first
          | (refine (HA.out _).mono ?_; rintro e W' ⟨rfl, h⟩; replace HS := Lib.hid (HS.out.call h); clear h; refine hK.out _ _ HS.out.bel (fun _ => ?_); clear hK K)
          | (refine (HO.out _).mono ?_; rintro e W' ⟨rfl, h⟩; replace HS := Lib.hid (HS.out.call h); clear h; refine hK.out _ _ HS.out.bel (fun _ => ?_); clear hK K)
        refine wpAnyH_ready (rs := [5, 6]) (by kernel_rfl) (by simp) (AllReadyH.cons rfl (fun K hK => ?_) (AllReadyH.cons rfl (fun K hK => ?_) AllReadyH.nil))
        · go_simp
          first
            | (refine (HA.out _).mono ?_; rintro e W' ⟨rfl, h⟩; replace HS := Lib.hid (HS.out.call h); clear h; refine hK.out _ _ HS.out.bel (fun _ => ?_); clear hK K)
            | (refine (HO.out _).mono ?_; rintro e W' ⟨rfl, h⟩; replace HS := Lib.hid (HS.out.call h); clear h; refine hK.out _ _ HS.out.bel (fun _ => ?_); clear hK K)
          refine wpAnyH_ready (rs := [6]) (by kernel_rfl) (by simp) (AllReadyH.cons rfl (fun K hK => ?_) AllReadyH.nil)
          · go_simp; replace HS := HS.out.a7; (try simp only [alloc_sz] at HS); replace HS := Lib.hid HS; refine hK.out _ _ HS.out.bel (fun _ => ?_); clear hK K
            refine wpAnyH_ready (rs := [8]) (by kernel_rfl) (by simp) (AllReadyH.cons rfl (fun K hK => ?_) AllReadyH.nil)
            rw [if_pos (by rfl)]
            refine wp_store_row 25 (.tmp 7) (.tmp 11) rfl _ (cellsOf m) rfl rfl _ (cellsOf fun _ => false) (HS.out.s7 _ rfl).2.2 (by rw [infoSet, cellsOf_size]) (by rw [cellsOf_size, cellsOf_size]) (cellsOf_one m) ?_
            refine hK.out _ _ (below_setRow HS.out.bel (HS.out.s7 _ rfl).1 _) (fun _ => ?_)
            clear hK K
            refine wpAnyH_ready (rs := [9]) (by kernel_rfl) (by simp) (AllReadyH.cons rfl (fun K hK => ?_) AllReadyH.nil)
            rw [if_pos (by rfl)]
            refine wp_store_row 25 (.tmp 8) (.tmp 14) rfl _ (cellsOf o) rfl rfl _ (cellsOf fun _ => false) ((setRow_other _ _ _ _ (HS.out.ne _ _ rfl rfl).symm).trans (HS.out.s8 _ rfl).2.2) (by rw [infoSet, cellsOf_size]) (by rw [cellsOf_size, cellsOf_size]) (cellsOf_one o) ?_
            refine hK.out _ _ (HS.out.fin m o).bel (fun _ => ?_)
            clear hK K
            refine wpAnyH_done (by kernel_rfl) ?_ _
            exact ⟨rfl, _, _, rfl, HS.out.fin m o⟩
        · go_simp; replace HS := HS.out.a7; (try simp only [alloc_sz] at HS); replace HS := Lib.hid HS; refine hK.out _ _ HS.out.bel (fun _ => ?_); clear hK K
          refine wpAnyH_ready (rs := [5]) (by kernel_rfl) (by simp) (AllReadyH.cons rfl (fun K hK => ?_) AllReadyH.nil)
          · go_simp
            first
              | (refine (HA.out _).mono ?_; rintro e W' ⟨rfl, h⟩; replace HS := Lib.hid (HS.out.call h); clear h; refine hK.out _ _ HS.out.bel (fun _ => ?_); clear hK K)
              | (refine (HO.out _).mono ?_; rintro e W' ⟨rfl, h⟩; replace HS := Lib.hid (HS.out.call h); clear h; refine hK.out _ _ HS.out.bel (fun _ => ?_); clear hK K)
            refine wpAnyH_ready (rs := [8]) (by kernel_rfl) (by simp) (AllReadyH.cons rfl (fun K hK => ?_) AllReadyH.nil)
            rw [if_pos (by rfl)]
            refine wp_store_row 25 (.tmp 7) (.tmp 11) rfl _ (cellsOf m) rfl rfl _ (cellsOf fun _ => false) (HS.out.s7 _ rfl).2.2 (by rw [infoSet, cellsOf_size]) (by rw [cellsOf_size, cellsOf_size]) (cellsOf_one m) ?_
            refine hK.out _ _ (below_setRow HS.out.bel (HS.out.s7 _ rfl).1 _) (fun _ => ?_)
            clear hK K
            refine wpAnyH_ready (rs := [9]) (by kernel_rfl) (by simp) (AllReadyH.cons rfl (fun K hK => ?_) AllReadyH.nil)
            rw [if_pos (by rfl)]
            refine wp_store_row 25 (.tmp 8) (.tmp 14) rfl _ (cellsOf o) rfl rfl _ (cellsOf fun _ => false) ((setRow_other _ _ _ _ (HS.out.ne _ _ rfl rfl).symm).trans (HS.out.s8 _ rfl).2.2) (by rw [infoSet, cellsOf_size]) (by rw [cellsOf_size, cellsOf_size]) (cellsOf_one o) ?_
            refine hK.out _ _ (HS.out.fin m o).bel (fun _ => ?_)
            clear hK K
            refine wpAnyH_done (by kernel_rfl) ?_ _
            exact ⟨rfl, _, _, rfl, HS.out.fin m o⟩
      · go_simp; replace HS := HS.out.a7; (try simp only [alloc_sz] at HS); replace HS := Lib.hid HS; refine hK.out _ _ HS.out.bel (fun _ => ?_); clear hK K
        refine wpAnyH_ready (rs := [2]) (by kernel_rfl) (by simp) (AllReadyH.cons rfl (fun K hK => ?_) AllReadyH.nil)
        · go_simp
          first
            | (refine (HA.out _).mono ?_; rintro e W' ⟨rfl, h⟩; replace HS := Lib.hid (HS.out.call h); clear h; refine hK.out _ _ HS.out.bel (fun _ => ?_); clear hK K)
            | (refine (HO.out _).mono ?_; rintro e W' ⟨rfl, h⟩; replace HS := Lib.hid (HS.out.call h); clear h; refine hK.out _ _ HS.out.bel (fun _ => ?_); clear hK K)
          refine wpAnyH_ready (rs := [5]) (by kernel_rfl) (by simp) (AllReadyH.cons rfl (fun K hK => ?_) AllReadyH.nil)
          · go_simp
            first
              | (refine (HA.out _).mono ?_; rintro e W' ⟨rfl, h⟩; replace HS := Lib.hid (HS.out.call h); clear h; refine hK.out _ _ HS.out.bel (fun _ => ?_); clear hK K)
              | (refine (HO.out _).mono ?_; rintro e W' ⟨rfl, h⟩; replace HS := Lib.hid (HS.out.call h); clear h; refine hK.out _ _ HS.out.bel (fun _ => ?_); clear hK K)
            refine wpAnyH_ready (rs := [8]) (by kernel_rfl) (by simp) (AllReadyH.cons rfl (fun K hK => ?_) AllReadyH.nil)
            rw [if_pos (by rfl)]
            refine wp_store_row 25 (.tmp 7) (.tmp 11) rfl _ (cellsOf m) rfl rfl _ (cellsOf fun _ => false) (HS.out.s7 _ rfl).2.2 (by rw [infoSet, cellsOf_size]) (by rw [cellsOf_size, cellsOf_size]) (cellsOf_one m) ?_
            refine hK.out _ _ (below_setRow HS.out.bel (HS.out.s7 _ rfl).1 _) (fun _ => ?_)
            clear hK K
            refine wpAnyH_ready (rs := [9]) (by kernel_rfl) (by simp) (AllReadyH.cons rfl (fun K hK => ?_) AllReadyH.nil)
            rw [if_pos (by rfl)]
            refine wp_store_row 25 (.tmp 8) (.tmp 14) rfl _ (cellsOf o) rfl rfl _ (cellsOf fun _ => false) ((setRow_other _ _ _ _ (HS.out.ne _ _ rfl rfl).symm).trans (HS.out.s8 _ rfl).2.2) (by rw [infoSet, cellsOf_size]) (by rw [cellsOf_size, cellsOf_size]) (cellsOf_one o) ?_
            refine hK.out _ _ (HS.out.fin m o).bel (fun _ => ?_)
            clear hK K
            refine wpAnyH_done (by kernel_rfl) ?_ _
            exact ⟨rfl, _, _, rfl, HS.out.fin m o⟩
end Go.Proofs.YtcnpcokddlkcaaaDoor
