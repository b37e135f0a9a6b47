/- An event that no task has: a tick, a worker that comes or goes, a task more (layer 19): printed by wip/src19/gen_ko.py. -/
import Derived.Test.YtilaalleiiakoaaDoorKn
import Derived.Deep.AppendLies
namespace Go.Proofs.YtilaalleiiakoaaDoor
open Go.RowKit
set_option maxRecDepth 100000

/-- A machine's box, and its result's. -/
structure FrT (w W : World) (F O : Value) (p : Nat → Bool) (t : Int) : Prop where
  bl : Below w.heap.size w W
  bf : BF W w.heap.size F O p t
  br : ∃ old, Blk W (w.heap.size + 1) 30 old ∧ old.size = 19
section
variable {w W W' : World} {F O : Value} {p : Nat → Bool} {t : Int} {B : Nat} {f : Fl}
theorem FrT.new (w : World) (F O : Value) (p : Nat → Bool) (t : Int) (old : Array Value) (h : old.size = 19) : FrT w ((w.alloc (.cells (flL F O p t).toArray 30)).alloc (.cells old 30)) F O p t where
  bl := ((Below.refl _ _).alloc (Nat.le_refl _) _).alloc (by simp) _
  bf := (Blk.new w _ _).alloc _
  br := ⟨old, by have := Blk.new (w.alloc (.cells (flL F O p t).toArray 30)) 30 old; simpa using this, h⟩
theorem FrT.on (h : FrT w W F O p t) (hb : Below W.heap.size W W') : FrT w W' F O p t := by
  obtain ⟨old, h1, h2⟩ := h.br
  exact ⟨h.bl.trans (hb.mono h.bl.size), Blk.below h.bf hb (Blk.lt h.bf), old, h1.below hb h1.lt, h2⟩
theorem FlG.keep (h : OwnF w B F O f.ts f.ow) (g : Fl) (R : Option Fl) (hR : R.getD f = g) (hts : g.ts = f.ts) (how : g.ow = f.ow) {w' : World} (hb : Below w.heap.size w w') : FlG w B F O f R (.returned (.tuple #[flV F O g.p g.tm, .bool R.isSome])) w' := by
  subst hR
  exact ⟨F, rfl, by rw [hts, how]; exact h.below hb, But.of_below hb, fun k hk => .inl hk⟩
end
section
variable {w : World} {B : Nat} {F O : Value} {f : Fl}
set_option maxHeartbeats 2000000 in
theorem tick_any (h : OwnF w B F O f.ts f.ow) (a : Int) (ht : In64F f.tm) (ha : In64F a) :
    Calls Tryd.prog 40 #[flV F O f.p f.tm, .int .i64 a] w (FlG w B F O f (if 1 ≤ a ∧ a = f.tm + 1 then some { f with tm := a } else none)) := by
  have hfr := FrT.new w F O f.p f.tm #[.slice none 0 0, .int .u64 0, .int .u64 0, .int .u64 0, .int .u64 0, .int .u64 0, .int .u64 0, .int .u64 0, .int .u64 0, .int .u64 0, .int .u64 0, .int .u64 0, .int .u64 0, .int .u64 0, .int .u64 0, .int .u64 0, .int .u64 0, .slice none 0 0, .int .i64 0] rfl
  obtain ⟨oF, oO⟩ := h.one
  have HH := Lib.hid h
  obtain ⟨R, hR⟩ : ∃ R, (if 1 ≤ a ∧ a = f.tm + 1 then some { f with tm := a } else none) = R := ⟨_, rfl⟩
  have HR := Lib.hid hR
  rw [hR]
  clear h hR
  go_enter Tryd.func40, Tryd.ntmps40
  go_upto_region 1 with fail
  generalize (w.alloc (.cells (flL F O f.p f.tm).toArray 30)).alloc (.cells #[.slice none 0 0, .int .u64 0, .int .u64 0, .int .u64 0, .int .u64 0, .int .u64 0, .int .u64 0, .int .u64 0, .int .u64 0, .int .u64 0, .int .u64 0, .int .u64 0, .int .u64 0, .int .u64 0, .int .u64 0, .int .u64 0, .int .u64 0, .slice none 0 0, .int .i64 0] 30) = W at *
  have c18 := BF.c18 hfr.bf
  have f18 := BF.free hfr.bf 18
  obtain ⟨old, hbr, hold⟩ := hfr.br
  have HBR := Lib.hid hbr; have HBF := Lib.hid hfr.bf; have HB := Lib.hid hfr.bl; have HOL := Lib.hid hold
  clear hbr hold hfr
  by_cases h0 : 1 ≤ a ∧ a = f.tm + 1
  · have e := HR.out
    rw [if_pos h0] at e
    subst e
    obtain ⟨h1, h2⟩ := h0
    have t0 : decide (a < 1) = false := by simp; omega
    have t1 : wrap64 (f.tm + 1) = a := by unfold wrap64; unfold In64F at ht ha; omega
    have t2 : (a != a) = false := by simp
    have hbw : BF (W.setCell ⟨w.heap.size, 18, none⟩ (.int .i64 a)) w.heap.size F O f.p a := by
      have := Blk.set_ HBF.out 18 (.int .i64 a)
      rw [List.setIfInBounds_toArray, flL_set18] at this
      exact this
    have hbq : Blk (W.setCell ⟨w.heap.size, 18, none⟩ (.int .i64 a)) (w.heap.size + 1) 30 old := HBR.out.far (by simp) _
    have HBW := Lib.hid hbw; have HBQ := Lib.hid hbq
    clear hbw hbq h1 h2 HR ht ha
    go_wp2_with (first
      | (with_reducible (show wpList _ _ _ _ _ _); refine ld_flat rfl (.tmp 2) rfl w.heap.size rfl HBW.out ?_)
      | (with_reducible (show wpList _ _ _ _ _ _); refine st_flat rfl (.tmp 4) (.tmp 18) rfl (w.heap.size + 1) rfl rfl oF oO old HBQ.out HOL.out ?_))
    refine ret_flat2 rfl (w.heap.size + 1) rfl (BF.row HBQ.out) rfl ?_
    refine FlG.keep HH.out { f with tm := a } (some { f with tm := a }) rfl rfl rfl ?_
    exact ((((But.of_below (X := fun k => w.heap.size ≤ k) HB.out).set _ _ (.inr (Nat.le_refl _)))).row _ _ (.inr (by simp))).below (Nat.le_refl _) fun k _ q => q
  · have e := HR.out
    rw [if_neg h0] at e
    subst e
    have hfin : FlG w B F O f none (.returned (.tuple #[flV F O f.p f.tm, .bool false])) (W.setRow (w.heap.size + 1) (flL F O f.p f.tm).toArray) := FlG.keep HH.out f none rfl rfl rfl (((But.of_below (X := fun k => w.heap.size ≤ k) HB.out).row _ _ (.inr (by simp))).below (Nat.le_refl _) fun k _ q => q)
    have HFIN := Lib.hid hfin
    clear hfin HR
    by_cases h1 : a < 1
    · have t0 : decide (a < 1) = true := by simpa using h1
      clear h0 ht ha
      go_wp2_with (first
        | (with_reducible (show wpList _ _ _ _ _ _); refine ld_flat rfl (.tmp 2) rfl w.heap.size rfl HBF.out ?_)
        | (with_reducible (show wpList _ _ _ _ _ _); refine st_flat rfl (.tmp 4) (.tmp 15) rfl (w.heap.size + 1) rfl rfl oF oO old HBR.out HOL.out ?_))
      exact ret_flat2 rfl (w.heap.size + 1) rfl (BF.row HBR.out) rfl HFIN.out
    · have t0 : decide (a < 1) = false := by simpa using h1
      have t1 : (a != wrap64 (f.tm + 1)) = true := by
        have : a ≠ wrap64 (f.tm + 1) := fun e => h0 (by unfold wrap64 at e; unfold In64F at ht ha; omega)
        simpa using this
      clear h0 ht ha
      go_wp2_with (first
        | (with_reducible (show wpList _ _ _ _ _ _); refine ld_flat rfl (.tmp 2) rfl w.heap.size rfl HBF.out ?_)
        | (with_reducible (show wpList _ _ _ _ _ _); refine st_flat rfl (.tmp 4) (.tmp 15) rfl (w.heap.size + 1) rfl rfl oF oO old HBR.out HOL.out ?_))
      exact ret_flat2 rfl (w.heap.size + 1) rfl (BF.row HBR.out) rfl HFIN.out
set_option maxHeartbeats 2000000 in
theorem leave_any (h : OwnF w B F O f.ts f.ow) (cpu : Int) (hl : f.ts.length ≤ 1000) :
    Calls Tryd.prog 39 #[flV F O f.p f.tm, .int .i64 cpu] w (FlG w B F O f (if hasP f.p cpu = true ∧ busyP f.ts cpu = false then some { f with p := dropP f.p cpu } else none)) := by
  have hfr := FrT.new w F O f.p f.tm #[.slice none 0 0, .int .u64 0, .int .u64 0, .int .u64 0, .int .u64 0, .int .u64 0, .int .u64 0, .int .u64 0, .int .u64 0, .int .u64 0, .int .u64 0, .int .u64 0, .int .u64 0, .int .u64 0, .int .u64 0, .int .u64 0, .int .u64 0, .slice none 0 0, .int .i64 0] rfl
  obtain ⟨oF, oO⟩ := h.one
  have HH := Lib.hid h
  obtain ⟨R, hR⟩ : ∃ R, (if hasP f.p cpu = true ∧ busyP f.ts cpu = false then some { f with p := dropP f.p cpu } else none) = R := ⟨_, rfl⟩
  obtain ⟨b, hb⟩ : ∃ b, (hasP f.p cpu && !busyP f.ts cpu) = b := ⟨_, rfl⟩
  have hRb : R = if b = true then some { f with p := dropP f.p cpu } else none := by
    rw [← hR, ← hb]; congr 1; simp
  have HR := Lib.hid hRb; have HBB := Lib.hid hb
  rw [hR]
  clear h hR hRb hb
  go_enter Tryd.func39, Tryd.ntmps39
  go_upto_region 1 with fail
  generalize (w.alloc (.cells (flL F O f.p f.tm).toArray 30)).alloc (.cells #[.slice none 0 0, .int .u64 0, .int .u64 0, .int .u64 0, .int .u64 0, .int .u64 0, .int .u64 0, .int .u64 0, .int .u64 0, .int .u64 0, .int .u64 0, .int .u64 0, .int .u64 0, .int .u64 0, .int .u64 0, .int .u64 0, .int .u64 0, .slice none 0 0, .int .i64 0] 30) = W at *
  have HIF : Hid (Calls Tryd.prog 50 #[flV F O f.p f.tm, .int .i64 cpu] W (GotB W.heap.size (.bool b) W)) := by
    have ho := HH.out.below hfr.bl
    obtain ⟨A, cap, hA, hT⟩ := own_tsIn ho.tk
    rw [← HBB.out, hA]
    exact isFree_any A f.ts cap O f.p f.tm cpu hl hT
  have HFR := Lib.hid hfr
  have HFB := Lib.hid hfr.bf
  clear hfr HBB
  cases b with
  | false =>
    have e := HR.out
    rw [if_neg (by simp)] at e
    subst e
    clear HR
    go_upto_region 2 with (first
      | (with_reducible (show wpList _ _ _ _ _ _); refine ld_flat rfl (.tmp 2) rfl w.heap.size rfl HFB.out ?_)
      | (go_at_call 50; (with_reducible refine HIF.out.mono ?_); rintro e w3 ⟨rfl, h3⟩; have HFR3 := Lib.hid (HFR.out.on h3); clear h3))
    obtain ⟨old, hbr, hold⟩ := HFR3.out.br
    have HBR := Lib.hid hbr; have HBF := Lib.hid HFR3.out.bf; have HOL := Lib.hid hold
    clear hbr hold
    go_wp2_with (first
      | (with_reducible (show wpList _ _ _ _ _ _); refine ld_flat rfl (.tmp 2) rfl w.heap.size rfl HBF.out ?_)
      | (with_reducible (show wpList _ _ _ _ _ _); refine st_flat rfl (.tmp 4) (.tmp 10) rfl (w.heap.size + 1) rfl rfl oF oO old HBR.out HOL.out ?_))
    refine ret_flat2 rfl (w.heap.size + 1) rfl (BF.row HBR.out) rfl ?_
    exact FlG.keep HH.out f none rfl rfl rfl (((But.of_below (X := fun k => w.heap.size ≤ k) HFR3.out.bl).row _ _ (.inr (by simp))).below (Nat.le_refl _) fun k _ q => q)
  | true =>
    have e := HR.out
    rw [if_pos rfl] at e
    subst e
    clear HR
    go_upto_region 3 with (first
      | (with_reducible (show wpList _ _ _ _ _ _); refine ld_flat rfl (.tmp 2) rfl w.heap.size rfl HFB.out ?_)
      | (go_at_call 50; (with_reducible refine HIF.out.mono ?_); rintro e w3 ⟨rfl, h3⟩; have HFR3 := Lib.hid (HFR.out.on h3); clear h3))
    have HDR := Lib.hid (drop_any f.p cpu w3)
    have HB3 := Lib.hid HFR3.out.bf
    go_upto_region 4 with (first
      | (with_reducible (show wpList _ _ _ _ _ _); refine ld_on rfl (.tmp 11) rfl w.heap.size rfl HB3.out ?_)
      | (go_at_call 51; (with_reducible refine HDR.out.mono ?_); rintro e w4 ⟨rfl, h4⟩; have HFR4 := Lib.hid (HFR3.out.on h4); have HB4 := Lib.hid HFR4.out.bf; clear h4)
      | (with_reducible (show wpList _ _ _ _ _ _); refine st_on rfl (.tmp 15) (.tmp 14) rfl (dropP f.p cpu) w.heap.size rfl rfl HB4.out ?_))
    obtain ⟨old, hbr, hold⟩ := HFR4.out.br
    obtain ⟨o1, o2⟩ := BF.online HB4.out (dropP f.p cpu)
    have HBR := Lib.hid (hbr.but o2 (by simp)); have HBF := Lib.hid o1; have HOL := Lib.hid hold; have HO2 := Lib.hid o2
    clear hbr hold o1 o2
    go_wp2_with (first
      | (with_reducible (show wpList _ _ _ _ _ _); refine ld_flat rfl (.tmp 2) rfl w.heap.size rfl HBF.out ?_)
      | (with_reducible (show wpList _ _ _ _ _ _); refine st_flat rfl (.tmp 4) (.tmp 16) rfl (w.heap.size + 1) rfl rfl oF oO old HBR.out HOL.out ?_))
    refine ret_flat2 rfl (w.heap.size + 1) rfl (BF.row HBR.out) rfl ?_
    refine FlG.keep HH.out { f with p := dropP f.p cpu } (some { f with p := dropP f.p cpu }) rfl rfl rfl ?_
    exact (((But.of_below (X := fun k => w.heap.size ≤ k) HFR4.out.bl).trans (HO2.out.mono fun k _ q => by omega)).row _ _ (.inr (by simp))).below (Nat.le_refl _) fun k _ q => q
end

set_option maxRecDepth 100000

theorem eqP_put (p : Nat → Bool) (n : Int) : eqP (putP p n) p = !decide (0 ≤ n ∧ n < 1024 ∧ hasP p n = false) := by
  by_cases h : 0 ≤ n ∧ n < 1024
  · obtain ⟨k, rfl⟩ := Int.eq_ofNat_of_zero_le h.1
    have hk : k < 1024 := by omega
    rw [hasP_yes p k hk]
    cases hp : p k with
    | true =>
      rw [show decide (0 ≤ (k : Int) ∧ (k : Int) < 1024 ∧ true = false) = false by simp]
      rw [Bool.not_false, eqP_true]
      intro m hm
      unfold putP
      by_cases e : m = k
      · subst e; rw [hp]; rfl
      · rw [show decide ((m : Int) = (k : Int)) = false by simp; omega, Bool.or_false]
    | false =>
      rw [show decide (0 ≤ (k : Int) ∧ (k : Int) < 1024 ∧ false = false) = true by simp; omega]
      cases hq : eqP (putP p k) p with
      | false => rfl
      | true =>
        have := eqP_true.1 hq k hk
        unfold putP at this
        rw [hp] at this; simp at this
  · rw [show decide (0 ≤ n ∧ n < 1024 ∧ hasP p n = false) = false by simp; omega, Bool.not_false, eqP_true]
    intro m hm
    unfold putP
    rw [show decide ((m : Int) = n) = false by simp; omega, Bool.or_false]
section
variable {w : World} {B : Nat} {F O : Value} {f : Fl}
set_option maxHeartbeats 2000000 in
theorem come_any (h : OwnF w B F O f.ts f.ow) (cpu : Int) :
    Calls Tryd.prog 38 #[flV F O f.p f.tm, .int .i64 cpu] w (FlG w B F O f (if 0 ≤ cpu ∧ cpu < 1024 ∧ hasP f.p cpu = false then some { f with p := putP f.p cpu } else none)) := by
  have hfr := FrT.new w F O f.p f.tm #[.slice none 0 0, .int .u64 0, .int .u64 0, .int .u64 0, .int .u64 0, .int .u64 0, .int .u64 0, .int .u64 0, .int .u64 0, .int .u64 0, .int .u64 0, .int .u64 0, .int .u64 0, .int .u64 0, .int .u64 0, .int .u64 0, .int .u64 0, .slice none 0 0, .int .i64 0] rfl
  obtain ⟨oF, oO⟩ := h.one
  have HH := Lib.hid h
  obtain ⟨R, hR⟩ : ∃ R, (if 0 ≤ cpu ∧ cpu < 1024 ∧ hasP f.p cpu = false then some { f with p := putP f.p cpu } else none) = R := ⟨_, rfl⟩
  obtain ⟨b, hb⟩ : ∃ b, eqP (putP f.p cpu) f.p = b := ⟨_, rfl⟩
  have hRb : R = if b = true then none else some { f with p := putP f.p cpu } := by
    rw [← hR, ← hb, eqP_put]
    by_cases q : 0 ≤ cpu ∧ cpu < 1024 ∧ hasP f.p cpu = false
    · rw [if_pos q, if_neg (by simp; omega)]
    · rw [if_neg q, if_pos (by simp only [not_and] at q; simp only [Bool.not_eq_true', decide_eq_false_iff_not, not_and]; exact q)]
  have HR := Lib.hid hRb; have HBB := Lib.hid hb
  rw [hR]
  clear h hR hRb hb
  go_enter Tryd.func38, Tryd.ntmps38
  go_upto_region 1 with fail
  generalize (w.alloc (.cells (flL F O f.p f.tm).toArray 30)).alloc (.cells #[.slice none 0 0, .int .u64 0, .int .u64 0, .int .u64 0, .int .u64 0, .int .u64 0, .int .u64 0, .int .u64 0, .int .u64 0, .int .u64 0, .int .u64 0, .int .u64 0, .int .u64 0, .int .u64 0, .int .u64 0, .int .u64 0, .int .u64 0, .slice none 0 0, .int .i64 0] 30) = W at *
  have HFR := Lib.hid hfr
  have HFB := Lib.hid hfr.bf
  have HPT := Lib.hid (put_any f.p cpu W)
  clear hfr
  go_upto_region 2 with (first
    | (with_reducible (show wpList _ _ _ _ _ _); refine ld_on rfl (.tmp 7) rfl w.heap.size rfl HFB.out ?_)
    | (go_at_call 27; (with_reducible refine HPT.out.mono ?_); rintro e w4 ⟨rfl, h4⟩; have HFR4 := Lib.hid (HFR.out.on h4); have HB4 := Lib.hid HFR4.out.bf; clear h4)
    | (with_reducible (show wpList _ _ _ _ _ _); refine st_set rfl (.tmp 6) (.tmp 10) rfl w4.heap.size _ rfl rfl _ (heap_alloc_new w4 _) rfl ?_))
  have HS4 : Hid (((w4.alloc (.cells #[.int .u64 0, .int .u64 0, .int .u64 0, .int .u64 0, .int .u64 0, .int .u64 0, .int .u64 0, .int .u64 0, .int .u64 0, .int .u64 0, .int .u64 0, .int .u64 0, .int .u64 0, .int .u64 0, .int .u64 0, .int .u64 0] 24)).setRow w4.heap.size (cellsOf (putP f.p cpu))).heap[w4.heap.size]? = some (.cells (cellsOf (putP f.p cpu)) 24 (0, 0))) := setRow_heap _ _ _ _ _ _ (heap_alloc_new w4 _)
  have HF5 : Hid (FrT w ((w4.alloc (.cells #[.int .u64 0, .int .u64 0, .int .u64 0, .int .u64 0, .int .u64 0, .int .u64 0, .int .u64 0, .int .u64 0, .int .u64 0, .int .u64 0, .int .u64 0, .int .u64 0, .int .u64 0, .int .u64 0, .int .u64 0, .int .u64 0] 24)).setRow w4.heap.size (cellsOf (putP f.p cpu))) F O f.p f.tm) := HFR4.out.on (((But.of_below (X := fun k => w4.heap.size ≤ k) ((Below.refl w4.heap.size w4).alloc (Nat.le_refl _) _)).row _ _ (.inr (Nat.le_refl _))).below (Nat.le_refl _) fun k _ q => q)
  have HQ : Hid (w4.heap.size ≠ w.heap.size ∧ w4.heap.size ≠ w.heap.size + 1 ∧ w.heap.size ≤ w4.heap.size) := by
    have h1 := (Blk.lt HB4.out)
    obtain ⟨old, h2, -⟩ := HFR4.out.br
    have := h2.lt
    exact ⟨by omega, by omega, by omega⟩
  generalize (w4.alloc (.cells #[.int .u64 0, .int .u64 0, .int .u64 0, .int .u64 0, .int .u64 0, .int .u64 0, .int .u64 0, .int .u64 0, .int .u64 0, .int .u64 0, .int .u64 0, .int .u64 0, .int .u64 0, .int .u64 0, .int .u64 0, .int .u64 0] 24)).setRow w4.heap.size (cellsOf (putP f.p cpu)) = W5 at *
  generalize w4.heap.size = q5 at *
  obtain ⟨old, hbr, hold⟩ := HF5.out.br
  have HBR := Lib.hid hbr; have HBF := Lib.hid HF5.out.bf; have HOL := Lib.hid hold
  clear hbr hold HFR4 HB4 HFR HFB HPT
  cases b with
  | true =>
    have e := HR.out
    rw [if_pos rfl] at e
    subst e
    clear HR
    go_upto_region 3 with (first
      | (with_reducible (show wpList _ _ _ _ _ _); refine ld_on rfl (.tmp 12) rfl w.heap.size rfl HBF.out ?_)
      | (with_reducible (show wpList _ _ _ _ _ _); refine ld_set rfl (.tmp 6) rfl q5 rfl _ HS4.out ?_)
      | (with_reducible (show wpList _ _ _ _ _ _); refine eql_set rfl (.tmp 11) (.tmp 13) _ rfl (putP f.p cpu) f.p rfl rfl ?_; rw [HBB.out]))
    go_wp2_with (first
      | (with_reducible (show wpList _ _ _ _ _ _); refine ld_flat rfl (.tmp 2) rfl w.heap.size rfl HBF.out ?_)
      | (with_reducible (show wpList _ _ _ _ _ _); refine st_flat rfl (.tmp 4) (.tmp 15) rfl (w.heap.size + 1) rfl rfl oF oO old HBR.out HOL.out ?_))
    refine ret_flat2 rfl (w.heap.size + 1) rfl (BF.row HBR.out) rfl ?_
    exact FlG.keep HH.out f none rfl rfl rfl (((But.of_below (X := fun k => w.heap.size ≤ k) HF5.out.bl).row _ _ (.inr (by simp))).below (Nat.le_refl _) fun k _ q => q)
  | false =>
    have e := HR.out
    rw [if_neg (by simp)] at e
    subst e
    clear HR
    go_upto_region 5 with (first
      | (with_reducible (show wpList _ _ _ _ _ _); refine ld_on rfl (.tmp 12) rfl w.heap.size rfl HBF.out ?_)
      | (with_reducible (show wpList _ _ _ _ _ _); refine ld_set rfl (.tmp 6) rfl q5 rfl _ HS4.out ?_)
      | (with_reducible (show wpList _ _ _ _ _ _); refine eql_set rfl (.tmp 11) (.tmp 13) _ rfl (putP f.p cpu) f.p rfl rfl ?_; rw [HBB.out])
      | (with_reducible (show wpList _ _ _ _ _ _); refine st_on rfl (.tmp 17) (.tmp 16) rfl (putP f.p cpu) w.heap.size rfl rfl HBF.out ?_))
    obtain ⟨o1, o2⟩ := BF.online HBF.out (putP f.p cpu)
    have HBR6 := Lib.hid (Blk.but HBR.out o2 (by simp)); have HBF6 := Lib.hid o1; have HO2 := Lib.hid o2
    clear o1 o2
    go_wp2_with (first
      | (with_reducible (show wpList _ _ _ _ _ _); refine ld_flat rfl (.tmp 2) rfl w.heap.size rfl HBF6.out ?_)
      | (with_reducible (show wpList _ _ _ _ _ _); refine st_flat rfl (.tmp 4) (.tmp 18) rfl (w.heap.size + 1) rfl rfl oF oO old HBR6.out HOL.out ?_))
    refine ret_flat2 rfl (w.heap.size + 1) rfl (BF.row HBR6.out) rfl ?_
    refine FlG.keep HH.out { f with p := putP f.p cpu } (some { f with p := putP f.p cpu }) rfl rfl rfl ?_
    exact (((But.of_below (X := fun k => w.heap.size ≤ k) HF5.out.bl).trans (HO2.out.mono fun k _ q => by omega)).row _ _ (.inr (by simp))).below (Nat.le_refl _) fun k _ q => q
set_option maxHeartbeats 2000000 in
theorem add_no (h : OwnF w B F O f.ts f.ow) (A : Option Addr) (n cap : Nat) (tk a : Int) (hn : ¬ (tk = (f.ts.length : Int) ∧ 0 ≤ a ∧ a < (n : Int))) :
    Calls Tryd.prog 37 #[flV F O f.p f.tm, .slice A n cap, .int .i64 tk, .int .i64 a] w (FlG w B F O f none) := by
  have hfr := FrT.new w F O f.p f.tm #[.slice none 0 0, .int .u64 0, .int .u64 0, .int .u64 0, .int .u64 0, .int .u64 0, .int .u64 0, .int .u64 0, .int .u64 0, .int .u64 0, .int .u64 0, .int .u64 0, .int .u64 0, .int .u64 0, .int .u64 0, .int .u64 0, .int .u64 0, .slice none 0 0, .int .i64 0] rfl
  obtain ⟨oF, oO⟩ := h.one
  obtain ⟨FA, fc, hFA⟩ : ∃ FA fc, F = .slice FA f.ts.length fc := by
    obtain ⟨FA, fc, e, -⟩ := own_tsIn h.tk
    exact ⟨FA, fc, e⟩
  have HH := Lib.hid h
  obtain ⟨m, hm⟩ : ∃ m, f.ts.length = m := ⟨_, rfl⟩
  rw [hm] at hFA hn
  clear h hm
  subst hFA
  go_enter Tryd.func37, Tryd.ntmps37
  go_upto_region 1 with fail
  generalize (w.alloc (.cells (flL (.slice FA m fc) O f.p f.tm).toArray 30)).alloc (.cells #[.slice none 0 0, .int .u64 0, .int .u64 0, .int .u64 0, .int .u64 0, .int .u64 0, .int .u64 0, .int .u64 0, .int .u64 0, .int .u64 0, .int .u64 0, .int .u64 0, .int .u64 0, .int .u64 0, .int .u64 0, .int .u64 0, .int .u64 0, .slice none 0 0, .int .i64 0] 30) = W at *
  have c0 := BF.c0 hfr.bf
  obtain ⟨old, hbr, hold⟩ := hfr.br
  have HBR := Lib.hid hbr; have HBF := Lib.hid hfr.bf; have HOL := Lib.hid hold
  have HFIN : Hid (FlG w B (.slice FA m fc) O f none (.returned (.tuple #[flV (.slice FA m fc) O f.p f.tm, .bool false])) (W.setRow (w.heap.size + 1) (flL (.slice FA m fc) O f.p f.tm).toArray)) := FlG.keep HH.out f none rfl rfl rfl (((But.of_below (X := fun k => w.heap.size ≤ k) hfr.bl).row _ _ (.inr (by simp))).below (Nat.le_refl _) fun k _ q => q)
  clear hbr hold hfr
  by_cases h0 : tk = (m : Int)
  · subst h0
    have t0 : ((m : Int) != (m : Int)) = false := by simp
    by_cases h1 : a < 0
    · have t1 : decide (a < 0) = true := by simpa using h1
      go_wp2_with (first
        | (with_reducible (show wpList _ _ _ _ _ _); refine ld_flat rfl (.tmp 4) rfl w.heap.size rfl HBF.out ?_)
        | (with_reducible (show wpList _ _ _ _ _ _); refine st_flat rfl (.tmp 8) (.tmp 25) rfl (w.heap.size + 1) rfl rfl oF oO old HBR.out HOL.out ?_))
      exact ret_flat2 rfl (w.heap.size + 1) rfl (BF.row HBR.out) rfl HFIN.out
    · have t1 : decide (a < 0) = false := by simpa using h1
      have t2 : decide ((n : Int) ≤ a) = true := by simp; omega
      go_wp2_with (first
        | (with_reducible (show wpList _ _ _ _ _ _); refine ld_flat rfl (.tmp 4) rfl w.heap.size rfl HBF.out ?_)
        | (with_reducible (show wpList _ _ _ _ _ _); refine st_flat rfl (.tmp 8) (.tmp 25) rfl (w.heap.size + 1) rfl rfl oF oO old HBR.out HOL.out ?_))
      exact ret_flat2 rfl (w.heap.size + 1) rfl (BF.row HBR.out) rfl HFIN.out
  · have t0 : (tk != (m : Int)) = true := by simpa using h0
    go_wp2_with (first
      | (with_reducible (show wpList _ _ _ _ _ _); refine ld_flat rfl (.tmp 4) rfl w.heap.size rfl HBF.out ?_)
      | (with_reducible (show wpList _ _ _ _ _ _); refine st_flat rfl (.tmp 8) (.tmp 25) rfl (w.heap.size + 1) rfl rfl oF oO old HBR.out HOL.out ?_))
    exact ret_flat2 rfl (w.heap.size + 1) rfl (BF.row HBR.out) rfl HFIN.out
set_option maxHeartbeats 2000000 in
theorem add_yes (h : OwnF w B F O f.ts f.ow) (A : Option Addr) (n cap : Nat) (tk a : Int) (hl : f.ts.length ≤ 1000) (hBw : B ≤ w.heap.size) (hn : tk = (f.ts.length : Int) ∧ 0 ≤ a ∧ a < (n : Int)) :
    Calls Tryd.prog 37 #[flV F O f.p f.tm, .slice A n cap, .int .i64 tk, .int .i64 a] w (FlG w B F O f (some { f with ts := f.ts ++ [FT.new a] })) := by
  have hfr := FrT.new w F O f.p f.tm #[.slice none 0 0, .int .u64 0, .int .u64 0, .int .u64 0, .int .u64 0, .int .u64 0, .int .u64 0, .int .u64 0, .int .u64 0, .int .u64 0, .int .u64 0, .int .u64 0, .int .u64 0, .int .u64 0, .int .u64 0, .int .u64 0, .int .u64 0, .slice none 0 0, .int .i64 0] rfl
  obtain ⟨oF, oO⟩ := h.one
  obtain ⟨FA, fc, hFA⟩ : ∃ FA fc, F = .slice FA f.ts.length fc := by
    obtain ⟨FA, fc, e, -⟩ := own_tsIn h.tk
    exact ⟨FA, fc, e⟩
  have HH := Lib.hid h
  obtain ⟨m, hm⟩ : ∃ m, f.ts.length = m := ⟨_, rfl⟩
  rw [hm] at hFA hn hl
  have HM := Lib.hid hm
  clear h hm
  subst hFA
  obtain ⟨rfl, ha0, ha1⟩ := hn
  have t0 : ((m : Int) != (m : Int)) = false := by simp
  have t1 : decide (a < 0) = false := by simp; omega
  have t2 : decide ((n : Int) ≤ a) = false := by simp; omega
  go_enter Tryd.func37, Tryd.ntmps37
  go_upto_region 1 with fail
  generalize (w.alloc (.cells (flL (.slice FA m fc) O f.p f.tm).toArray 30)).alloc (.cells #[.slice none 0 0, .int .u64 0, .int .u64 0, .int .u64 0, .int .u64 0, .int .u64 0, .int .u64 0, .int .u64 0, .int .u64 0, .int .u64 0, .int .u64 0, .int .u64 0, .int .u64 0, .int .u64 0, .int .u64 0, .int .u64 0, .int .u64 0, .slice none 0 0, .int .i64 0] 30) = W at *
  have c0 := BF.c0 hfr.bf
  obtain ⟨old, hbr, hold⟩ := hfr.br
  have HBR := Lib.hid hbr; have HBF := Lib.hid hfr.bf; have HOL := Lib.hid hold; have HB := Lib.hid hfr.bl
  clear hbr hold hfr
  obtain ⟨i0, hi0, hz0, hz1, hz2⟩ := info_parts infoTaskZ
  have HROW : Hid ((W.alloc (.cells (taskC (FT.new a)).toArray 45)).ownsRow B 45 8 (.slice FA m fc) m (tsC f.ts)) := by
    have := ((HH.out.below HB.out).below ((Below.refl _ _).alloc (Nat.le_refl _) (.cells (taskC (FT.new a)).toArray 45))).tk
    rw [HM.out] at this
    exact this
  have HNEW : Hid (∀ j u, (taskC (FT.new a))[j]? = some u → (W.alloc (.cells (taskC (FT.new a)).toArray 45)).cell? ((⟨W.heap.size, 0, none⟩ : Addr).add j) = some u) := fun j u hu => by
    rw [Addr.add_mid, (Blk.new W 45 (taskC (FT.new a)).toArray).cell, Nat.zero_add, List.getElem?_toArray]; exact hu
  have HLT : Hid (∀ k, OwnB (.slice FA m fc) O k → k < w.heap.size) := fun k hk => (HH.out.lt hk).2
  have c0B : (W.alloc (.cells (taskC (FT.new a)).toArray 45)).cell? ⟨w.heap.size, 0, none⟩ = some (.slice FA m fc) := BF.c0 (Blk.alloc HBF.out _)
  go_upto_region 4 with (first
    | (at_builtin; go_loud (refine wpList_append_own_at _ rfl (.tmp 27) (.tmp 30) 27 rfl B 45 i0 _ 8 48 Tryd.underlying27 hi0 hz0 hz1 hz2 rfl (by decide) (.slice FA m fc) m (tsC f.ts) rfl HROW.out ⟨W.heap.size, 0, none⟩ 1 1 (taskC (FT.new a)) rfl rfl HNEW.out (taskC_one _) (by unfold maxLen; omega) (by omega) (by have := HB.out.size; simp; omega) ?_); intro F' w' own gr hnil hown; obtain ⟨g5, cap5, rfl⟩ : ∃ g5 cap5, F' = .slice (some ⟨g5, 0, none⟩) (m + 1) cap5 := (rowForm own).resolve_left (fun z => by have := z.2; omega); have HGR := Lib.hid gr; have HOW := Lib.hid own; have HON := Lib.hid hown; clear hnil gr own hown; have hb5 := (But.refl (fun k => (Value.slice FA m fc).ownBlock = some k) (W.alloc (.cells (taskC (FT.new a)).toArray 45))).grown HGR.out (fun k hk => .inl hk); have HB5 := Lib.hid hb5; have hbf5 := Blk.but (Blk.alloc HBF.out (.cells (taskC (FT.new a)).toArray 45)) hb5 (fun q => by have := HLT.out _ (.inl q); omega); have cc5 := BF.c0 hbf5; have ff5 := BF.free hbf5 0; have HBF5 := Lib.hid hbf5; clear hb5 hbf5))
  have HQ0 : Hid (Blk W (w.heap.size + 1) 30 old) := HBR
  have hgb : (Value.slice (some ⟨g5, 0, none⟩) (m + 1) cap5).ownBlock = (Value.slice FA m fc).ownBlock ∨ W.heap.size ≤ g5 := by
    rcases HON.out with q | q
    · exact .inl q
    · simp only [Value.ownBlock, Option.some.injEq] at q
      right; rw [q]; simp
  have hg0 : g5 ≠ w.heap.size ∧ g5 ≠ w.heap.size + 1 := by
    have h2 := HBR.out.lt
    rcases hgb with q | q
    · have := HLT.out g5 (.inl q.symm); omega
    · omega
  have hb6 : But (OwnB (.slice FA m fc) O) w w' := by
    have h1 := But.of_below (X := OwnB (.slice FA m fc) O) HB.out
    refine (h1.alloc (.cells (taskC (FT.new a)).toArray 45)).step HB5.out fun i hi q => .inl q
  have hbf6 : BF (w'.setCell ⟨w.heap.size, 0, none⟩ (.slice (some ⟨g5, 0, none⟩) (m + 1) cap5)) w.heap.size (.slice (some ⟨g5, 0, none⟩) (m + 1) cap5) O f.p f.tm := by
    have := HBF5.out.set_ 0 (.slice (some ⟨g5, 0, none⟩) (m + 1) cap5)
    rw [List.setIfInBounds_toArray, flL_set0] at this
    exact this
  have hbr6 : Blk (w'.setCell ⟨w.heap.size, 0, none⟩ (.slice (some ⟨g5, 0, none⟩) (m + 1) cap5)) (w.heap.size + 1) 30 old := (Blk.but (HBR.out.alloc (.cells (taskC (FT.new a)).toArray 45)) HB5.out fun q => by have := HLT.out _ (.inl q); omega).far (by simp) _
  have HBF6 := Lib.hid hbf6; have HBR6 := Lib.hid hbr6; have HB6 := Lib.hid hb6; have HG0 := Lib.hid hg0; have HGB := Lib.hid hgb
  clear hbf6 hbr6 hb6 hg0 hgb
  go_wp2_with (first
    | (with_reducible (show wpList _ _ _ _ _ _); refine ld_flat rfl (.tmp 4) rfl w.heap.size rfl HBF6.out ?_)
    | (with_reducible (show wpList _ _ _ _ _ _); refine st_flat rfl (.tmp 8) (.tmp 33) rfl (w.heap.size + 1) rfl rfl rfl oO old HBR6.out HOL.out ?_))
  refine ret_flat2 rfl (w.heap.size + 1) rfl (BF.row HBR6.out) rfl ?_
  refine ⟨.slice (some ⟨g5, 0, none⟩) (m + 1) cap5, rfl, ⟨?_, ?_⟩, ?_, fun k hk => ?_⟩
  · show World.ownsRow _ _ _ _ _ (f.ts ++ [FT.new a]).length (tsC (f.ts ++ [FT.new a]))
    rw [List.length_append, tsC_app, tsC_one, HM.out]
    refine row_but (row_but HOW.out (((But.refl (fun k => k = w.heap.size) w').set _ _ (.inl rfl))) fun k hk q => ?_) ((But.refl (fun k => k = w.heap.size + 1) _).row _ _ (.inl rfl)) fun k hk q => ?_
    · simp only [Value.ownBlock, Option.some.injEq] at hk; have := HG0.out; omega
    · simp only [Value.ownBlock, Option.some.injEq] at hk; have := HG0.out; omega
  · have h0 : w'.ownsRow B 3 1 O f.ow.length (numC f.ow) := row_but HH.out.ow (HB5.out.mono (fun _ _ q => q) |> fun z => (But.of_below (X := fun k => (Value.slice FA m fc).ownBlock = some k) HB.out).trans (((But.refl _ _).alloc _).trans z)) fun k hk q => by
      rcases HH.out.tk.2 with ⟨e, _⟩ | ⟨g', cap', cur, e, _, hgg, _⟩
      · rw [e] at q; cases q
      · rw [e] at q
        simp only [Value.ownBlock, Option.some.injEq] at q
        subst q
        exact absurd (row_type HH.out.ow hk hgg) (by decide)
    refine row_but (row_but h0 (((But.refl (fun k => k = w.heap.size) w').set _ _ (.inl rfl))) fun k hk q => ?_) ((But.refl (fun k => k = w.heap.size + 1) _).row _ _ (.inl rfl)) fun k hk q => ?_
    · have := HLT.out k (.inr hk); omega
    · have := HLT.out k (.inr hk); omega
  · exact (HB6.out.set _ _ (.inr (Nat.le_refl _))).row _ _ (.inr (by simp))
  · simp only [Value.ownBlock, Option.some.injEq] at hk
    subst hk
    rcases HGB.out with q | q
    · left; rw [← q]; rfl
    · right; have := HB.out.size; omega
end
end Go.Proofs.YtilaalleiiakoaaDoor
