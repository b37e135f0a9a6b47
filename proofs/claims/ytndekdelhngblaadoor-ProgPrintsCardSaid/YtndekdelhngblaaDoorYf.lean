/- ProgPrints' walk. -/
import Derived.Test.YtndekdelhngblaaDoorYe
import Derived.Deep.Quiet
import Derived.RegionCalls
import Derived.Deep.RegionHeld3
import Derived.Deep.DeepCutAuto
import Derived.Laws.Rows
import Derived.BigQuiet
namespace Go.Proofs.YtndekdelhngblaaDoor
open Go.RowKit

/-- Both programs in their boxes. -/
structure PP (w : World) (p q : Int) (A A' : Option Addr) (k j cap cap' : Nat) (W : World) : Prop where
  b0 : Blk W w.heap.size 24 #[.int .i64 p, .slice A k cap]
  b1 : Blk W (w.heap.size + 1) 24 #[.int .i64 q, .slice A' j cap']
  old : Below w.heap.size w W
theorem PP.below {w : World} {p q : Int} {A A' : Option Addr} {k j cap cap' : Nat} {W W' : World} (h : PP w p q A A' k j cap cap' W) (hb : Below W.heap.size W W') : PP w p q A A' k j cap cap' W' :=
  ⟨h.b0.below hb h.b0.lt, h.b1.below hb h.b1.lt, h.old.trans (hb.mono h.old.size)⟩
theorem PP.cells {w : World} {p q : Int} {A A' : Option Addr} {k j cap cap' : Nat} {W : World} (h : PP w p q A A' k j cap cap' W) : W.cell? ⟨w.heap.size, 0, none⟩ = some (.int .i64 p) ∧ W.cell? ⟨w.heap.size, 1, none⟩ = some (.slice A k cap) ∧ W.cell? ⟨w.heap.size + 1, 0, none⟩ = some (.int .i64 q) ∧ W.cell? ⟨w.heap.size + 1, 1, none⟩ = some (.slice A' j cap') ∧
    W.frozen? ⟨w.heap.size, 0, none⟩ = false ∧ W.frozen? ⟨w.heap.size, 1, none⟩ = false ∧ W.frozen? ⟨w.heap.size + 1, 0, none⟩ = false ∧ W.frozen? ⟨w.heap.size + 1, 1, none⟩ = false :=
  ⟨h.b0.cell 0, h.b0.cell 1, h.b1.cell 0, h.b1.cell 1, h.b0.free 0, h.b0.free 1, h.b1.free 0, h.b1.free 1⟩
theorem PP.set0 {w : World} {p q : Int} {A A' : Option Addr} {k j cap cap' : Nat} {W : World} (k2 : Nat) (h : PP w p q A A' k j cap cap' W) : PP w p q A A' k2 j cap cap' ((W.setCell ⟨w.heap.size, 0, none⟩ (.int .i64 p)).setCell ⟨w.heap.size, 1, none⟩ (.slice A k2 cap)) :=
  ⟨(h.b0.set_ 0 _).set_ 1 _, (h.b1.far (by show w.heap.size + 1 ≠ w.heap.size; omega) _).far (by show w.heap.size + 1 ≠ w.heap.size; omega) _,
    (((But.of_below h.old).set (X := Nob) _ _ (.inr (Nat.le_refl _))).set _ _ (.inr (Nat.le_refl _))).below (Nat.le_refl _) fun _ _ q => q.elim⟩
theorem PP.set1 {w : World} {p q : Int} {A A' : Option Addr} {k j cap cap' : Nat} {W : World} (j2 : Nat) (h : PP w p q A A' k j cap cap' W) : PP w p q A A' k j2 cap cap' ((W.setCell ⟨w.heap.size + 1, 0, none⟩ (.int .i64 q)).setCell ⟨w.heap.size + 1, 1, none⟩ (.slice A' j2 cap')) :=
  ⟨(h.b0.far (by show w.heap.size ≠ w.heap.size + 1; omega) _).far (by show w.heap.size ≠ w.heap.size + 1; omega) _, (h.b1.set_ 0 _).set_ 1 _,
    (((But.of_below h.old).set (X := Nob) _ _ (.inr (by show w.heap.size ≤ w.heap.size + 1; omega))).set _ _ (.inr (by show w.heap.size ≤ w.heap.size + 1; omega))).below (Nat.le_refl _) fun _ _ q => q.elim⟩
/-- Nothing that was there in w has turned. -/
def Cls (w : World) : World → Prop := fun w' => Below w.heap.size w w'
theorem wp_region_cls {id : Nat} {Q : Exit → Act → World → Prop} {a : Act} {w : World} {l : List Oper} (hm : Tryd.prog.follows .mixedOrders = true) (hB : Region.lexB .any l.toArray = true)
    (h : wpQuiet Tryd.prog l.toArray (Cls w) (fun a' => ∀ w', Cls w w' → Q .normal a' w') l a) : (Code.region id l.toArray true).wp Tryd.prog Q a w :=
  wp_region_quiet (C := Cls w) hm hB ((Below.refl _ _).drew) (by simpa only using h)
theorem quiet_call {f : FuncId} {args : Array Value} {w w' : World} {v : Value} (hw : Cls w w') (h : Calls Tryd.prog f args w' (GotB w'.heap.size v w')) : Calls Tryd.prog f args w' fun e w'' => e = .returned v ∧ Cls w w'' :=
  h.mono fun _ _ ⟨he, hb⟩ => ⟨he, Below.trans hw (hb.mono (Below.size hw))⟩
theorem progUnder : Tryd.prog.underlying 24 = some (.struct (Tryd.prog.fieldsOf 24)) := by kernel_rfl
theorem progSize : (Tryd.prog.info? 24).map (·.size) = some 2 := by kernel_rfl
theorem quiet_load_prog {C : World → Prop} {o : Oper} {a : Act} {K : Act → Prop} (x : Operand) (ho : o.op = .load 24 x) (g : Nat) (v0 v1 : Value) (hx : a.eval x = .pointer (some ⟨g, 0, none⟩))
    (hC : ∀ w', C w' → Blk w' g 24 #[v0, v1]) (hk : K (a.put o.dst (.agg #[v0, v1]))) : o.quiet Tryd.prog a C K :=
  ⟨_, fun w' h => by
    unfold Oper.quietAt execOp
    simp only [ho, hx, Instr.loadAt, Instr.sureAddr, Sem.run_bind, Sem.run_pure, Result.andThen_ok, run_loadVar_row w' g 24 24 _ (0, 0) _ (hC w' h) progUnder rfl (by rw [progSize]; rfl)]
    exact ⟨rfl, rfl⟩, hk⟩
set_option maxRecDepth 100000 in
set_option maxHeartbeats 8000000 in
theorem prints9_any (p q : Int) (A A' : Option Addr) (l m : List I4) (cap cap' : Nat) (w : World) (hT : Tabs w) (hp : In64 p) (hq : In64 q) (hc : l.length ≤ cap) (hc' : m.length ≤ cap') (hI : InsIn w A l) (hJ : InsIn w A' m) :
    Calls Tryd.prog 4 #[.agg #[.int .i64 p, .slice A l.length cap], .agg #[.int .i64 q, .slice A' m.length cap']] w (GotB w.heap.size (.bool true) w) := by
  have h1 := Blk.new (w.alloc (.cells #[.int .i64 p, .slice A l.length cap] 24)) 24 #[.int .i64 q, .slice A' m.length cap']
  rw [World.size_alloc] at h1
  have hP : PP w p q A A' l.length m.length cap cap' ((w.alloc (.cells #[.int .i64 p, .slice A l.length cap] 24)).alloc (.cells #[.int .i64 q, .slice A' m.length cap'] 24)) :=
    ⟨(Blk.new _ _ _).alloc _, h1, ((Below.refl _ _).alloc (Nat.le_refl _) _).alloc (by simp) _⟩
  have HC1 : Hid (∀ W, Calls Tryd.prog 6 #[.agg #[.int .i64 p, .slice A l.length cap]] W (GotB W.heap.size (.agg #[.int .i64 p, .slice A (l.take 80).length cap]) W)) := fun W => cut9_any p A l cap W hc
  have HC2 : Hid (∀ W, Calls Tryd.prog 6 #[.agg #[.int .i64 q, .slice A' m.length cap']] W (GotB W.heap.size (.agg #[.int .i64 q, .slice A' (m.take 80).length cap']) W)) := fun W => cut9_any q A' m cap' W hc'
  have HP := Lib.hid hP; have HT := Lib.hid hT; have HI := Lib.hid (hI.less 80); have HJ := Lib.hid (hJ.less 80)
  have HL : Hid ((l.take 80).length ≤ 80) := by show _ ≤ _; rw [List.length_take]; omega
  have HM : Hid ((m.take 80).length ≤ 80) := by show _ ≤ _; rw [List.length_take]; omega
  have HIp := Lib.hid hp; have HIq := Lib.hid hq
  clear h1 hP hT hI hJ hc hc' hp hq
  generalize l.take 80 = l8 at *
  generalize m.take 80 = m8 at *
  generalize l.length = n at *
  generalize m.length = o at *
  go_enter Tryd.func4, Tryd.ntmps4
  go_upto_region 1 with fail
  generalize (w.alloc (.cells #[.int .i64 p, .slice A n cap] 24)).alloc (.cells #[.int .i64 q, .slice A' o cap'] 24) = W0 at *
  go_cut [] (fun wx => PP w p q A A' l8.length m8.length cap cap' wx)
  case first =>
    obtain ⟨x0, x1, y0, y1, -, -, -, -⟩ := HP.out.cells
    go_region_with (first
      | (go_at_call 6; (with_reducible refine (HC1.out _).mono ?_); rintro e w5 ⟨rfl, h5⟩
         have H5 := Lib.hid (HP.out.below ((Below.refl W0.heap.size W0).drew.trans h5))
         obtain ⟨u0, u1, u2, u3, -, -, -, -⟩ := H5.out.cells
         clear h5)
      | (go_at_call 6; (with_reducible refine (HC2.out _).mono ?_); rintro e w6 ⟨rfl, h6⟩
         have H6 := Lib.hid (H5.out.below h6)
         obtain ⟨v0, v1, v2, v3, g0, g1, g2, g3⟩ := H6.out.cells
         clear h6))
    all_goals
      go_wp2_with fail
      go_meet
      exact (H6.out.set0 _).set1 _
  case rest =>
    have HW := Lib.hid hcut
    clear hcut HP HC1 HC2
    generalize wc = W at *
    have HTW := Lib.hid (HT.out.on HW.out.old)
    have HIW := Lib.hid (HI.out.below HW.out.old); have HJW := Lib.hid (HJ.out.below HW.out.old)
    have hl80 := HL.out; have hm80 := HM.out
    obtain ⟨T, hTt⟩ : ∃ T, textL p l8 = T := ⟨_, rfl⟩
    obtain ⟨R, hR⟩ : ∃ R, decide (p = q ∧ l8 = m8) = R := ⟨_, rfl⟩
    have K1 : ∀ w', Cls W w' → Calls Tryd.prog 12 #[.agg #[.int .i64 p, .slice A l8.length cap]] w' (GotB w'.heap.size (.string ⟨T.toArray⟩) w') := fun w' h => by
      have := print_any p A l8 cap w' HIp.out (by omega) (HTW.out.on h) (HIW.out.below h)
      rw [hTt] at this; exact this
    have K2 : ∀ w', Cls W w' → Calls Tryd.prog 13 #[.agg #[.int .i64 p, .slice A l8.length cap]] w' (GotB w'.heap.size (.string ⟨T.toArray⟩) w') := fun w' h => by
      have := refPrint_any p A l8 cap w' HIp.out (by omega) (HIW.out.below h)
      rw [hTt] at this; exact this
    have K3 : ∀ w', Cls W w' → Calls Tryd.prog 14 #[.agg #[.int .i64 p, .slice A l8.length cap], .agg #[.int .i64 q, .slice A' m8.length cap']] w' (GotB w'.heap.size (.bool R) w') := fun w' h => by
      have := same_any p q A A' l8 m8 cap cap' w' (by omega) (by omega) (HIW.out.below h) (HJW.out.below h)
      rw [hR] at this; exact this
    have K4 : ∀ w', Cls W w' → Calls Tryd.prog 15 #[.agg #[.int .i64 p, .slice A l8.length cap], .agg #[.int .i64 q, .slice A' m8.length cap']] w' (GotB w'.heap.size (.bool R) w') := fun w' h => by
      have := refSame_any p q A A' l8 m8 cap cap' w' (by omega) (HIW.out.below h) (HJW.out.below h)
      rw [hR] at this; exact this
    have K5 : ∀ w', Cls W w' → Calls Tryd.prog 14 #[.agg #[.int .i64 p, .slice A l8.length cap], .agg #[.int .i64 p, .slice A l8.length cap]] w' (GotB w'.heap.size (.bool true) w') := fun w' h => by
      have := same_any p p A A l8 l8 cap cap w' (by omega) (by omega) (HIW.out.below h) (HIW.out.below h)
      rw [show decide (p = p ∧ l8 = l8) = true by simp] at this; exact this
    have K6 : ∀ w', Cls W w' → Calls Tryd.prog 11 #[] w' (GotB w'.heap.size (.bool true) w') := fun w' h => lives9_any w' (HTW.out.on h)
    have K1 := Lib.hid K1; have K2 := Lib.hid K2; have K3 := Lib.hid K3; have K4 := Lib.hid K4; have K5 := Lib.hid K5; have K6 := Lib.hid K6
    have L0 : Hid (∀ w', Cls W w' → Blk w' w.heap.size 24 #[.int .i64 p, .slice A l8.length cap]) := fun w' h => HW.out.b0.below h HW.out.b0.lt
    have L1 : Hid (∀ w', Cls W w' → Blk w' (w.heap.size + 1) 24 #[.int .i64 q, .slice A' m8.length cap']) := fun w' h => HW.out.b1.below h HW.out.b1.lt
    have tR : (R == R) = true := by simp
    clear hTt hR HI HJ HL HM HIp HIq HIW HJW HTW HT hl80 hm80
    generalize l8.length = k8 at *
    generalize m8.length = j8 at *
    go_wp2_with fail
    refine wp_region_cls (by kernel_rfl) (by kernel_rfl) ?_
    repeat
      first
      | go_big_quiet_skip
      | (go_big_quiet_want
         first
         | (refine quiet_load_prog _ rfl _ _ _ rfl L0.out ?_; go_simp; go_big_quiet_on)
         | (refine quiet_load_prog _ rfl _ _ _ rfl L1.out ?_; go_simp; go_big_quiet_on)
         | (go_big_quiet_op
            first
            | go_big_quiet_on
            | (refine ⟨_, fun _ _ => rfl, ?_⟩; go_big_quiet_on)
            | (apply Exists.intro
               refine ⟨fun w' h => ?_, ?_⟩
               · (first
                   | (go_at_call 12; with_reducible exact quiet_call h (K1.out w' h))
                   | (go_at_call 13; with_reducible exact quiet_call h (K2.out w' h))
                   | (go_at_call 14; first | with_reducible exact quiet_call h (K3.out w' h) | with_reducible exact quiet_call h (K5.out w' h))
                   | (go_at_call 15; with_reducible exact quiet_call h (K4.out w' h))
                   | (go_at_call 11; with_reducible exact quiet_call h (K6.out w' h)))
               go_big_quiet_on)))
    refine wpQuiet_nil ?_
    intro w9 h9
    go_wp2
    go_ret
    exact ⟨rfl, HW.out.old.trans (Below.mono h9 HW.out.old.size)⟩
end Go.Proofs.YtndekdelhngblaaDoor
