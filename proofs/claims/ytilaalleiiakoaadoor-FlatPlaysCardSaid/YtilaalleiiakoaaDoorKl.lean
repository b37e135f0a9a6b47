/- An event that does an instruction, stops a task or parks it (layer 19): printed by wip/src19/gen_ki.py. -/
import Derived.Test.YtilaalleiiakoaaDoorKg
import Derived.Deep.RegionHeld
import Derived.OrdersHeld
namespace Go.Proofs.YtilaalleiiakoaaDoor
open Go.RowKit
set_option maxRecDepth 100000

set_option maxHeartbeats 4000000 in
theorem tt_3 {w : World} {B g cap : Nat} {O : Value} {ts : List FT} {ow : List Int} {i : Nat} {x : FT} {PA : Option Addr} {ps : List PR} (h : OwnF w B (.slice (some ⟨g, 0, none⟩) ts.length cap) O ts ow) (hx : ts[i]? = some x) (pcap : Nat) (hG : Gnd w B PA ps) (p : Nat → Bool) (t cpu a b : Int) :
    Calls Tryd.prog 42 #[flV (.slice (some ⟨g, 0, none⟩) ts.length cap) O p t, .slice PA ps.length pcap, evV ⟨3, i, cpu, a, b⟩] w (TaskG w B g cap O ts ow i (taskP ⟨ts, p, ow, t⟩ ps ⟨3, i, cpu, a, b⟩ x)) := by
  have hF := Fro.new w (.slice (some ⟨g, 0, none⟩) ts.length cap) O p t ⟨3, i, cpu, a, b⟩ g (i * 8)
  obtain ⟨R, hR⟩ : ∃ R, taskP ⟨ts, p, ow, t⟩ ps ⟨3, i, cpu, a, b⟩ x = R := ⟨_, rfl⟩
  have HR := Lib.hid hR
  rw [hR]
  have hil := (List.getElem?_eq_some_iff.1 hx).1
  have c0 := BF.c0 ((Blk.new w 30 (flL (.slice (some ⟨g, 0, none⟩) ts.length cap) O p t).toArray).alloc (.cells #[.int .i64 3, .int .i64 i, .int .i64 cpu, .int .i64 a, .int .i64 b] 36))
  have i0 : (0 : Int) ≤ (i : Int) := by omega
  have i1 : (i : Int) < (ts.length : Int) := by omega
  have HH := Lib.hid h; have HX := Lib.hid hx
  obtain ⟨N, hN⟩ : ∃ N, ts.length = N := ⟨_, rfl⟩
  unfold flV
  obtain ⟨X, hX⟩ : ∃ X, flL (.slice (some ⟨g, 0, none⟩) ts.length cap) O p t = X := ⟨_, rfl⟩
  clear h hx hR
  have hF2 : Fro w (((w.alloc (.cells X.toArray 30)).alloc (.cells #[.int .i64 3, .int .i64 i, .int .i64 cpu, .int .i64 a, .int .i64 b] 36)).alloc (.cells #[.pointer (some ⟨g, i * 8, none⟩)] 91)) (.slice (some ⟨g, 0, none⟩) ts.length cap) O p t ⟨3, i, cpu, a, b⟩ g (i * 8) := by rw [← hX]; exact hF
  have HF := Lib.hid hF2
  rw [hX] at c0 ⊢
  rw [hN] at c0 i1
  have HXX := Lib.hid hX; have HNN := Lib.hid hN
  clear hX hN hF hF2
  go_enter Tryd.func42, Tryd.ntmps42
  go_upto_region 4 with fail
  generalize ((w.alloc (.cells X.toArray 30)).alloc (.cells #[.int .i64 3, .int .i64 i, .int .i64 cpu, .int .i64 a, .int .i64 b] 36)).alloc (.cells #[.pointer (some ⟨g, i * 8, none⟩)] 91) = W at *
  have HB := Lib.hid HF.out.bl
  have HO := Lib.hid (HH.out.below HF.out.bl)
  obtain ⟨e0, e1, e2, e3, e4⟩ := HF.out.ev
  have qp : W.cell? ⟨w.heap.size + 1 + 1, 0, none⟩ = some (.pointer (some ⟨g, i * 8, none⟩)) := HF.out.bp.cell 0
  have hc := HO.out.cells HX.out
  have n6 : W.cell? ⟨g, i * 8 + 6, none⟩ = some (.int .i64 x.st) := hc 6 _ rfl
  have n7 : W.cell? ⟨g, i * 8 + 7, none⟩ = some (.int .i64 x.on) := hc 7 _ rfl
  have HDO := Lib.hid (do_any HO.out HX.out pcap (hG.below (HB.out.mono hG.le)) a b)
  have hgl : g < w.heap.size := (HH.out.lt (.inl rfl)).2
  have hgq : w.heap.size + 1 ≠ g ∧ w.heap.size + 1 + 1 ≠ g := by omega
  have HGQ := Lib.hid hgq
  clear c0 i0 i1 hil HNN hc hgq hgl
  generalize w.heap.size + 1 + 1 = q2 at *
  generalize w.heap.size + 1 = q1 at *
  have HIS := Lib.hid (is_any x 2 cpu q2 g (i * 8) W qp n6 n7)
  obtain ⟨bi, hbi⟩ : ∃ bi, decide (x.st = 2 ∧ x.on = cpu) = bi := ⟨_, rfl⟩
  rw [hbi] at HIS
  have HRE : Hid (R = if bi = true then doP ps x a b else none) := by
    show _ = _
    rw [← HR.out, ← hbi]
    unfold taskP
    simp only [Int.reduceEq, ↓reduceIte, decide_eq_true_eq]
  clear hbi HR hG
  generalize ps.length = M at *
  cases bi with
  | false =>
    go_wp2_with (first
      | (go_at_call 52; (with_reducible refine HIS.out.mono ?_); rintro e w3 ⟨rfl, rfl⟩))
    go_ret
    have e := HRE.out
    simp only [Bool.false_eq_true, ↓reduceIte] at e
    subst e
    exact ⟨rfl, .inl ⟨rfl, HB.out⟩⟩
  | true =>
    go_wp2_with (first
      | (go_at_call 52; (with_reducible refine HIS.out.mono ?_); rintro e w3 ⟨rfl, rfl⟩)
      | (go_at_call 54; (with_reducible refine HDO.out.mono ?_); rintro e w5 ⟨rfl, h5⟩; have HT5 := Lib.hid h5; clear h5))
    go_ret
    have e := HRE.out
    simp only [↓reduceIte] at e
    subst e
    exact ⟨rfl, HT5.out.from HB.out⟩
set_option maxHeartbeats 4000000 in
theorem tt_4 {w : World} {B g cap : Nat} {O : Value} {ts : List FT} {ow : List Int} {i : Nat} {x : FT} {PA : Option Addr} {ps : List PR} (h : OwnF w B (.slice (some ⟨g, 0, none⟩) ts.length cap) O ts ow) (hx : ts[i]? = some x) (pcap : Nat) (p : Nat → Bool) (t cpu a b : Int) :
    Calls Tryd.prog 42 #[flV (.slice (some ⟨g, 0, none⟩) ts.length cap) O p t, .slice PA ps.length pcap, evV ⟨4, i, cpu, a, b⟩] w (TaskG w B g cap O ts ow i (taskP ⟨ts, p, ow, t⟩ ps ⟨4, i, cpu, a, b⟩ x)) := by
  have hF := Fro.new w (.slice (some ⟨g, 0, none⟩) ts.length cap) O p t ⟨4, i, cpu, a, b⟩ g (i * 8)
  obtain ⟨R, hR⟩ : ∃ R, taskP ⟨ts, p, ow, t⟩ ps ⟨4, i, cpu, a, b⟩ x = R := ⟨_, rfl⟩
  have HR := Lib.hid hR
  rw [hR]
  have hil := (List.getElem?_eq_some_iff.1 hx).1
  have c0 := BF.c0 ((Blk.new w 30 (flL (.slice (some ⟨g, 0, none⟩) ts.length cap) O p t).toArray).alloc (.cells #[.int .i64 4, .int .i64 i, .int .i64 cpu, .int .i64 a, .int .i64 b] 36))
  have i0 : (0 : Int) ≤ (i : Int) := by omega
  have i1 : (i : Int) < (ts.length : Int) := by omega
  have HH := Lib.hid h; have HX := Lib.hid hx
  obtain ⟨N, hN⟩ : ∃ N, ts.length = N := ⟨_, rfl⟩
  unfold flV
  obtain ⟨X, hX⟩ : ∃ X, flL (.slice (some ⟨g, 0, none⟩) ts.length cap) O p t = X := ⟨_, rfl⟩
  clear h hx hR
  have hF2 : Fro w (((w.alloc (.cells X.toArray 30)).alloc (.cells #[.int .i64 4, .int .i64 i, .int .i64 cpu, .int .i64 a, .int .i64 b] 36)).alloc (.cells #[.pointer (some ⟨g, i * 8, none⟩)] 91)) (.slice (some ⟨g, 0, none⟩) ts.length cap) O p t ⟨4, i, cpu, a, b⟩ g (i * 8) := by rw [← hX]; exact hF
  have HF := Lib.hid hF2
  rw [hX] at c0 ⊢
  rw [hN] at c0 i1
  have HXX := Lib.hid hX; have HNN := Lib.hid hN
  clear hX hN hF hF2
  go_enter Tryd.func42, Tryd.ntmps42
  go_upto_region 4 with fail
  generalize ((w.alloc (.cells X.toArray 30)).alloc (.cells #[.int .i64 4, .int .i64 i, .int .i64 cpu, .int .i64 a, .int .i64 b] 36)).alloc (.cells #[.pointer (some ⟨g, i * 8, none⟩)] 91) = W at *
  have HB := Lib.hid HF.out.bl
  have HO := Lib.hid (HH.out.below HF.out.bl)
  obtain ⟨e0, e1, e2, e3, e4⟩ := HF.out.ev
  have qp : W.cell? ⟨w.heap.size + 1 + 1, 0, none⟩ = some (.pointer (some ⟨g, i * 8, none⟩)) := HF.out.bp.cell 0
  have hc := HO.out.cells HX.out
  have n6 : W.cell? ⟨g, i * 8 + 6, none⟩ = some (.int .i64 x.st) := hc 6 _ rfl
  have n7 : W.cell? ⟨g, i * 8 + 7, none⟩ = some (.int .i64 x.on) := hc 7 _ rfl
  have hgl : g < w.heap.size := (HH.out.lt (.inl rfl)).2
  have hgq : w.heap.size + 1 ≠ g ∧ w.heap.size + 1 + 1 ≠ g := by omega
  have HGQ := Lib.hid hgq
  clear c0 i0 i1 hil HNN hc hgq hgl
  generalize w.heap.size + 1 + 1 = q2 at *
  generalize w.heap.size + 1 = q1 at *
  have HGO : Hid (∀ W' bq, Below W.heap.size W W' → Calls Tryd.prog 53 #[.bool bq, .int .i64 0, .int .i64 0, .pointer (some ⟨q2, 0, none⟩)] W' (TaskG W' B g cap O ts ow i (if bq = true then some { x with st := 0, on := 0 } else none))) := fun W' bq hb => goes_any (HO.out.below hb) HX.out bq (0) (0) q2 ((hb.cell (p := ⟨q2, 0, none⟩) (lt_of_cell qp)).trans qp)
  have HIS := Lib.hid (is_any x 2 cpu q2 g (i * 8) W qp n6 n7)
  obtain ⟨bi, hbi⟩ : ∃ bi, decide (x.st = 2 ∧ x.on = cpu) = bi := ⟨_, rfl⟩
  rw [hbi] at HIS
  have HRE : Hid (R = if bi = true then some { x with st := 0, on := 0 } else none) := by
    show _ = _
    rw [← HR.out]
    rw [← hbi]
    unfold taskP
    simp only [Int.reduceEq, ↓reduceIte, decide_eq_true_eq]
  clear hbi HR
  cases bi with
  | false =>
    go_wp2_with (first
      | (go_at_call 52; (with_reducible refine HIS.out.mono ?_); rintro e w3 ⟨rfl, rfl⟩)
      | (go_at_call 53; (with_reducible refine (HGO.out _ false (Below.refl _ _)).mono ?_); rintro e w5 ⟨rfl, h5⟩; have HT5 := Lib.hid h5; clear h5))
    go_ret
    have e := HRE.out
    simp only [Bool.false_eq_true, ↓reduceIte] at e
    have ht := HT5.out
    simp only [Bool.false_eq_true, ↓reduceIte] at ht
    subst e
    exact ⟨rfl, ht.from HB.out⟩
  | true =>
    go_wp2_with (first
      | (go_at_call 52; (with_reducible refine HIS.out.mono ?_); rintro e w3 ⟨rfl, rfl⟩)
      | (go_at_call 53; (with_reducible refine (HGO.out _ true (Below.refl _ _)).mono ?_); rintro e w5 ⟨rfl, h5⟩; have HT5 := Lib.hid h5; clear h5))
    go_ret
    have e := HRE.out
    simp only [↓reduceIte] at e
    have ht := HT5.out
    simp only [↓reduceIte] at ht
    subst e
    exact ⟨rfl, ht.from HB.out⟩
set_option maxHeartbeats 4000000 in
theorem tt_6 {w : World} {B g cap : Nat} {O : Value} {ts : List FT} {ow : List Int} {i : Nat} {x : FT} {PA : Option Addr} {ps : List PR} (h : OwnF w B (.slice (some ⟨g, 0, none⟩) ts.length cap) O ts ow) (hx : ts[i]? = some x) (pcap : Nat) (p : Nat → Bool) (t cpu a b : Int) :
    Calls Tryd.prog 42 #[flV (.slice (some ⟨g, 0, none⟩) ts.length cap) O p t, .slice PA ps.length pcap, evV ⟨6, i, cpu, a, b⟩] w (TaskG w B g cap O ts ow i (taskP ⟨ts, p, ow, t⟩ ps ⟨6, i, cpu, a, b⟩ x)) := by
  have hF := Fro.new w (.slice (some ⟨g, 0, none⟩) ts.length cap) O p t ⟨6, i, cpu, a, b⟩ g (i * 8)
  obtain ⟨R, hR⟩ : ∃ R, taskP ⟨ts, p, ow, t⟩ ps ⟨6, i, cpu, a, b⟩ x = R := ⟨_, rfl⟩
  have HR := Lib.hid hR
  rw [hR]
  have hil := (List.getElem?_eq_some_iff.1 hx).1
  have c0 := BF.c0 ((Blk.new w 30 (flL (.slice (some ⟨g, 0, none⟩) ts.length cap) O p t).toArray).alloc (.cells #[.int .i64 6, .int .i64 i, .int .i64 cpu, .int .i64 a, .int .i64 b] 36))
  have i0 : (0 : Int) ≤ (i : Int) := by omega
  have i1 : (i : Int) < (ts.length : Int) := by omega
  have HH := Lib.hid h; have HX := Lib.hid hx
  obtain ⟨N, hN⟩ : ∃ N, ts.length = N := ⟨_, rfl⟩
  unfold flV
  obtain ⟨X, hX⟩ : ∃ X, flL (.slice (some ⟨g, 0, none⟩) ts.length cap) O p t = X := ⟨_, rfl⟩
  clear h hx hR
  have hF2 : Fro w (((w.alloc (.cells X.toArray 30)).alloc (.cells #[.int .i64 6, .int .i64 i, .int .i64 cpu, .int .i64 a, .int .i64 b] 36)).alloc (.cells #[.pointer (some ⟨g, i * 8, none⟩)] 91)) (.slice (some ⟨g, 0, none⟩) ts.length cap) O p t ⟨6, i, cpu, a, b⟩ g (i * 8) := by rw [← hX]; exact hF
  have HF := Lib.hid hF2
  rw [hX] at c0 ⊢
  rw [hN] at c0 i1
  have HXX := Lib.hid hX; have HNN := Lib.hid hN
  clear hX hN hF hF2
  go_enter Tryd.func42, Tryd.ntmps42
  go_upto_region 4 with fail
  generalize ((w.alloc (.cells X.toArray 30)).alloc (.cells #[.int .i64 6, .int .i64 i, .int .i64 cpu, .int .i64 a, .int .i64 b] 36)).alloc (.cells #[.pointer (some ⟨g, i * 8, none⟩)] 91) = W at *
  have HB := Lib.hid HF.out.bl
  have HO := Lib.hid (HH.out.below HF.out.bl)
  obtain ⟨e0, e1, e2, e3, e4⟩ := HF.out.ev
  have qp : W.cell? ⟨w.heap.size + 1 + 1, 0, none⟩ = some (.pointer (some ⟨g, i * 8, none⟩)) := HF.out.bp.cell 0
  have hc := HO.out.cells HX.out
  have n6 : W.cell? ⟨g, i * 8 + 6, none⟩ = some (.int .i64 x.st) := hc 6 _ rfl
  have n7 : W.cell? ⟨g, i * 8 + 7, none⟩ = some (.int .i64 x.on) := hc 7 _ rfl
  have hgl : g < w.heap.size := (HH.out.lt (.inl rfl)).2
  have hgq : w.heap.size + 1 ≠ g ∧ w.heap.size + 1 + 1 ≠ g := by omega
  have HGQ := Lib.hid hgq
  clear c0 i0 i1 hil HNN hc hgq hgl
  generalize w.heap.size + 1 + 1 = q2 at *
  generalize w.heap.size + 1 = q1 at *
  have HGO : Hid (∀ W' bq, Below W.heap.size W W' → Calls Tryd.prog 53 #[.bool bq, .int .i64 7, .int .i64 0, .pointer (some ⟨q2, 0, none⟩)] W' (TaskG W' B g cap O ts ow i (if bq = true then some { x with st := 7, on := 0 } else none))) := fun W' bq hb => goes_any (HO.out.below hb) HX.out bq (7) (0) q2 ((hb.cell (p := ⟨q2, 0, none⟩) (lt_of_cell qp)).trans qp)
  obtain ⟨bh, hbh⟩ : ∃ bh, homeP x.st = bh := ⟨_, rfl⟩
  have HRE : Hid (R = if bh = true then some { x with st := 7, on := 0 } else none) := by
    show _ = _
    rw [← HR.out]
    rw [← hbh]
    unfold taskP
    simp only [Int.reduceEq, ↓reduceIte]
  have HHM : Hid (Calls Tryd.prog 55 #[.int .i64 x.st] W fun e w' => e = .returned (.bool bh) ∧ W = w') := by rw [← hbh]; exact mayGoHome_any _ _
  clear hbh HR
  cases bh with
  | false =>
    go_wp2_with (first
      | (go_at_call 55; (with_reducible refine HHM.out.mono ?_); rintro e w3 ⟨rfl, rfl⟩)
      | (go_at_call 53; (with_reducible refine (HGO.out _ false (Below.refl _ _)).mono ?_); rintro e w5 ⟨rfl, h5⟩; have HT5 := Lib.hid h5; clear h5))
    go_ret
    have e := HRE.out
    simp only [Bool.false_eq_true, ↓reduceIte] at e
    have ht := HT5.out
    simp only [Bool.false_eq_true, ↓reduceIte] at ht
    subst e
    exact ⟨rfl, ht.from HB.out⟩
  | true =>
    go_wp2_with (first
      | (go_at_call 55; (with_reducible refine HHM.out.mono ?_); rintro e w3 ⟨rfl, rfl⟩)
      | (go_at_call 53; (with_reducible refine (HGO.out _ true (Below.refl _ _)).mono ?_); rintro e w5 ⟨rfl, h5⟩; have HT5 := Lib.hid h5; clear h5))
    go_ret
    have e := HRE.out
    simp only [↓reduceIte] at e
    have ht := HT5.out
    simp only [↓reduceIte] at ht
    subst e
    exact ⟨rfl, ht.from HB.out⟩

set_option maxRecDepth 100000

set_option maxHeartbeats 4000000 in
theorem tt_12 {w : World} {B g cap : Nat} {O : Value} {ts : List FT} {ow : List Int} {i : Nat} {x : FT} {PA : Option Addr} {ps : List PR} (h : OwnF w B (.slice (some ⟨g, 0, none⟩) ts.length cap) O ts ow) (hx : ts[i]? = some x) (pcap : Nat) (p : Nat → Bool) (t cpu a b : Int) :
    Calls Tryd.prog 42 #[flV (.slice (some ⟨g, 0, none⟩) ts.length cap) O p t, .slice PA ps.length pcap, evV ⟨12, i, cpu, a, b⟩] w (TaskG w B g cap O ts ow i (taskP ⟨ts, p, ow, t⟩ ps ⟨12, i, cpu, a, b⟩ x)) := by
  have hF := Fro.new w (.slice (some ⟨g, 0, none⟩) ts.length cap) O p t ⟨12, i, cpu, a, b⟩ g (i * 8)
  obtain ⟨R, hR⟩ : ∃ R, taskP ⟨ts, p, ow, t⟩ ps ⟨12, i, cpu, a, b⟩ x = R := ⟨_, rfl⟩
  have HR := Lib.hid hR
  rw [hR]
  have hil := (List.getElem?_eq_some_iff.1 hx).1
  have c0 := BF.c0 ((Blk.new w 30 (flL (.slice (some ⟨g, 0, none⟩) ts.length cap) O p t).toArray).alloc (.cells #[.int .i64 12, .int .i64 i, .int .i64 cpu, .int .i64 a, .int .i64 b] 36))
  have i0 : (0 : Int) ≤ (i : Int) := by omega
  have i1 : (i : Int) < (ts.length : Int) := by omega
  have HH := Lib.hid h; have HX := Lib.hid hx
  obtain ⟨N, hN⟩ : ∃ N, ts.length = N := ⟨_, rfl⟩
  unfold flV
  obtain ⟨X, hX⟩ : ∃ X, flL (.slice (some ⟨g, 0, none⟩) ts.length cap) O p t = X := ⟨_, rfl⟩
  clear h hx hR
  have hF2 : Fro w (((w.alloc (.cells X.toArray 30)).alloc (.cells #[.int .i64 12, .int .i64 i, .int .i64 cpu, .int .i64 a, .int .i64 b] 36)).alloc (.cells #[.pointer (some ⟨g, i * 8, none⟩)] 91)) (.slice (some ⟨g, 0, none⟩) ts.length cap) O p t ⟨12, i, cpu, a, b⟩ g (i * 8) := by rw [← hX]; exact hF
  have HF := Lib.hid hF2
  rw [hX] at c0 ⊢
  rw [hN] at c0 i1
  have HXX := Lib.hid hX; have HNN := Lib.hid hN
  clear hX hN hF hF2
  go_enter Tryd.func42, Tryd.ntmps42
  go_upto_region 4 with fail
  generalize ((w.alloc (.cells X.toArray 30)).alloc (.cells #[.int .i64 12, .int .i64 i, .int .i64 cpu, .int .i64 a, .int .i64 b] 36)).alloc (.cells #[.pointer (some ⟨g, i * 8, none⟩)] 91) = W at *
  have HB := Lib.hid HF.out.bl
  have HO := Lib.hid (HH.out.below HF.out.bl)
  obtain ⟨e0, e1, e2, e3, e4⟩ := HF.out.ev
  have qp : W.cell? ⟨w.heap.size + 1 + 1, 0, none⟩ = some (.pointer (some ⟨g, i * 8, none⟩)) := HF.out.bp.cell 0
  have hc := HO.out.cells HX.out
  have n6 : W.cell? ⟨g, i * 8 + 6, none⟩ = some (.int .i64 x.st) := hc 6 _ rfl
  have n7 : W.cell? ⟨g, i * 8 + 7, none⟩ = some (.int .i64 x.on) := hc 7 _ rfl
  have hgl : g < w.heap.size := (HH.out.lt (.inl rfl)).2
  have hgq : w.heap.size + 1 ≠ g ∧ w.heap.size + 1 + 1 ≠ g := by omega
  have HGQ := Lib.hid hgq
  clear c0 i0 i1 hil HNN hc hgq hgl
  generalize w.heap.size + 1 + 1 = q2 at *
  generalize w.heap.size + 1 = q1 at *
  have HIS := Lib.hid (is_any x 2 cpu q2 g (i * 8) W qp n6 n7)
  obtain ⟨bi, hbi⟩ : ∃ bi, decide (x.st = 2 ∧ x.on = cpu) = bi := ⟨_, rfl⟩
  obtain ⟨bs, hbs⟩ : ∃ bs, (x.st == 0) = bs := ⟨_, rfl⟩
  rw [hbi] at HIS
  have HRE : Hid (R = if (bi || bs) = true then some x else none) := by
    show _ = _
    rw [← HR.out, ← hbi, ← hbs]
    unfold taskP
    simp only [Int.reduceEq, ↓reduceIte, Bool.or_eq_true, decide_eq_true_eq, beq_iff_eq]
  clear hbi HR
  have hset : Hid (OwnF W B (.slice (some ⟨g, 0, none⟩) ts.length cap) O (ts.set i x) ow) := by
    show OwnF _ _ _ _ _ _
    have : ts.set i x = ts := by
      apply List.ext_getElem?
      intro j
      rw [List.getElem?_set]
      split
      · rename_i e; subst e
        have hx := HX.out
        split
        · exact hx.symm
        · rename_i q; rw [List.getElem?_eq_none (by omega)]
      · rfl
    rw [this]; exact HO.out
  cases bi with
  | true =>
    go_wp2_with (go_at_call 52; (with_reducible refine HIS.out.mono ?_); rintro e w3 ⟨rfl, rfl⟩)
    go_ret
    have e := HRE.out
    simp only [Bool.true_or, ↓reduceIte] at e
    subst e
    exact ⟨rfl, .inr ⟨x, rfl, hset.out, But.of_below HB.out⟩⟩
  | false =>
    cases bs with
    | true =>
      go_wp2_with (go_at_call 52; (with_reducible refine HIS.out.mono ?_); rintro e w3 ⟨rfl, rfl⟩)
      go_ret
      have e := HRE.out
      simp only [Bool.or_true, ↓reduceIte] at e
      subst e
      exact ⟨rfl, .inr ⟨x, rfl, hset.out, But.of_below HB.out⟩⟩
    | false =>
      go_wp2_with (go_at_call 52; (with_reducible refine HIS.out.mono ?_); rintro e w3 ⟨rfl, rfl⟩)
      go_ret
      have e := HRE.out
      simp only [Bool.or_self, Bool.false_eq_true, ↓reduceIte] at e
      subst e
      exact ⟨rfl, .inl ⟨rfl, HB.out⟩⟩
set_option maxHeartbeats 4000000 in
theorem tt_21 {w : World} {B g cap : Nat} {O : Value} {ts : List FT} {ow : List Int} {i : Nat} {x : FT} {PA : Option Addr} {ps : List PR} (h : OwnF w B (.slice (some ⟨g, 0, none⟩) ts.length cap) O ts ow) (hx : ts[i]? = some x) (pcap : Nat) (p : Nat → Bool) (t cpu a b : Int) :
    Calls Tryd.prog 42 #[flV (.slice (some ⟨g, 0, none⟩) ts.length cap) O p t, .slice PA ps.length pcap, evV ⟨21, i, cpu, a, b⟩] w (TaskG w B g cap O ts ow i (taskP ⟨ts, p, ow, t⟩ ps ⟨21, i, cpu, a, b⟩ x)) := by
  have hF := Fro.new w (.slice (some ⟨g, 0, none⟩) ts.length cap) O p t ⟨21, i, cpu, a, b⟩ g (i * 8)
  obtain ⟨R, hR⟩ : ∃ R, taskP ⟨ts, p, ow, t⟩ ps ⟨21, i, cpu, a, b⟩ x = R := ⟨_, rfl⟩
  have HR := Lib.hid hR
  rw [hR]
  have hil := (List.getElem?_eq_some_iff.1 hx).1
  have c0 := BF.c0 ((Blk.new w 30 (flL (.slice (some ⟨g, 0, none⟩) ts.length cap) O p t).toArray).alloc (.cells #[.int .i64 21, .int .i64 i, .int .i64 cpu, .int .i64 a, .int .i64 b] 36))
  have i0 : (0 : Int) ≤ (i : Int) := by omega
  have i1 : (i : Int) < (ts.length : Int) := by omega
  have HH := Lib.hid h; have HX := Lib.hid hx
  obtain ⟨N, hN⟩ : ∃ N, ts.length = N := ⟨_, rfl⟩
  unfold flV
  obtain ⟨X, hX⟩ : ∃ X, flL (.slice (some ⟨g, 0, none⟩) ts.length cap) O p t = X := ⟨_, rfl⟩
  clear h hx hR
  have hF2 : Fro w (((w.alloc (.cells X.toArray 30)).alloc (.cells #[.int .i64 21, .int .i64 i, .int .i64 cpu, .int .i64 a, .int .i64 b] 36)).alloc (.cells #[.pointer (some ⟨g, i * 8, none⟩)] 91)) (.slice (some ⟨g, 0, none⟩) ts.length cap) O p t ⟨21, i, cpu, a, b⟩ g (i * 8) := by rw [← hX]; exact hF
  have HF := Lib.hid hF2
  rw [hX] at c0 ⊢
  rw [hN] at c0 i1
  have HXX := Lib.hid hX; have HNN := Lib.hid hN
  clear hX hN hF hF2
  go_enter Tryd.func42, Tryd.ntmps42
  go_upto_region 4 with fail
  generalize ((w.alloc (.cells X.toArray 30)).alloc (.cells #[.int .i64 21, .int .i64 i, .int .i64 cpu, .int .i64 a, .int .i64 b] 36)).alloc (.cells #[.pointer (some ⟨g, i * 8, none⟩)] 91) = W at *
  have HB := Lib.hid HF.out.bl
  have HO := Lib.hid (HH.out.below HF.out.bl)
  obtain ⟨e0, e1, e2, e3, e4⟩ := HF.out.ev
  have qp : W.cell? ⟨w.heap.size + 1 + 1, 0, none⟩ = some (.pointer (some ⟨g, i * 8, none⟩)) := HF.out.bp.cell 0
  have hc := HO.out.cells HX.out
  have n6 : W.cell? ⟨g, i * 8 + 6, none⟩ = some (.int .i64 x.st) := hc 6 _ rfl
  have n7 : W.cell? ⟨g, i * 8 + 7, none⟩ = some (.int .i64 x.on) := hc 7 _ rfl
  have HSR := Lib.hid (setReg_any HO.out HX.out a b)
  obtain ⟨R2, hR2⟩ : ∃ R2, (if 0 ≤ a ∧ a < 4 ∧ In32 b then some { x with r := x.r.put a.toNat b } else none) = R2 := ⟨_, rfl⟩
  rw [hR2] at HSR
  have hgl : g < w.heap.size := (HH.out.lt (.inl rfl)).2
  have hgq : w.heap.size + 1 ≠ g ∧ w.heap.size + 1 + 1 ≠ g := by omega
  have HGQ := Lib.hid hgq
  clear c0 i0 i1 hil HNN hc hgq hgl
  generalize w.heap.size + 1 + 1 = q2 at *
  generalize w.heap.size + 1 = q1 at *
  obtain ⟨bs, hbs⟩ : ∃ bs, (x.st != 8) = bs := ⟨_, rfl⟩
  have HRE : Hid (R = if bs = true then R2 else none) := by
    show _ = _
    rw [← HR.out, ← hbs, ← hR2]
    unfold taskP
    simp only [Int.reduceEq, ↓reduceIte, bne_iff_ne, ne_eq]
    by_cases q : x.st = 8
    · rw [if_neg (fun z => z.1 q), if_neg (by simp [q])]
    · rw [if_pos q]
      by_cases q2 : 0 ≤ a ∧ a < 4 ∧ In32 b
      · rw [if_pos q2, if_pos ⟨q, q2⟩]
      · rw [if_neg q2, if_neg (fun z => q2 z.2)]
  clear HR
  cases bs with
  | false =>
    go_wp2_with fail
    go_ret
    have e := HRE.out
    simp only [Bool.false_eq_true, ↓reduceIte] at e
    subst e
    exact ⟨rfl, .inl ⟨rfl, HB.out⟩⟩
  | true =>
    go_wp2_with (go_at_call 57; (with_reducible refine HSR.out.mono ?_); rintro e w5 ⟨rfl, h5⟩; have HT5 := Lib.hid h5; clear h5)
    go_ret
    have e := HRE.out
    simp only [↓reduceIte] at e
    rw [e]
    exact ⟨rfl, HT5.out.from HB.out⟩
set_option maxHeartbeats 4000000 in
theorem tt_none {w : World} {B g cap : Nat} {O : Value} {ts : List FT} {ow : List Int} {i : Nat} {x : FT} {PA : Option Addr} {ps : List PR} (h : OwnF w B (.slice (some ⟨g, 0, none⟩) ts.length cap) O ts ow) (hx : ts[i]? = some x) (pcap : Nat) (p : Nat → Bool) (t kd cpu a b : Int) (hk : kd ≠ 2 ∧ kd ≠ 3 ∧ kd ≠ 4 ∧ kd ≠ 5 ∧ kd ≠ 6 ∧ kd ≠ 7 ∧ kd ≠ 8 ∧ kd ≠ 11 ∧ kd ≠ 12 ∧ kd ≠ 13 ∧ kd ≠ 21) :
    Calls Tryd.prog 42 #[flV (.slice (some ⟨g, 0, none⟩) ts.length cap) O p t, .slice PA ps.length pcap, evV ⟨kd, i, cpu, a, b⟩] w (TaskG w B g cap O ts ow i (taskP ⟨ts, p, ow, t⟩ ps ⟨kd, i, cpu, a, b⟩ x)) := by
  have hF := Fro.new w (.slice (some ⟨g, 0, none⟩) ts.length cap) O p t ⟨kd, i, cpu, a, b⟩ g (i * 8)
  obtain ⟨R, hR⟩ : ∃ R, taskP ⟨ts, p, ow, t⟩ ps ⟨kd, i, cpu, a, b⟩ x = R := ⟨_, rfl⟩
  have HR := Lib.hid hR
  rw [hR]
  have hil := (List.getElem?_eq_some_iff.1 hx).1
  have c0 := BF.c0 ((Blk.new w 30 (flL (.slice (some ⟨g, 0, none⟩) ts.length cap) O p t).toArray).alloc (.cells #[.int .i64 kd, .int .i64 i, .int .i64 cpu, .int .i64 a, .int .i64 b] 36))
  have i0 : (0 : Int) ≤ (i : Int) := by omega
  have i1 : (i : Int) < (ts.length : Int) := by omega
  have HH := Lib.hid h; have HX := Lib.hid hx
  obtain ⟨N, hN⟩ : ∃ N, ts.length = N := ⟨_, rfl⟩
  unfold flV
  obtain ⟨X, hX⟩ : ∃ X, flL (.slice (some ⟨g, 0, none⟩) ts.length cap) O p t = X := ⟨_, rfl⟩
  clear h hx hR
  have hF2 : Fro w (((w.alloc (.cells X.toArray 30)).alloc (.cells #[.int .i64 kd, .int .i64 i, .int .i64 cpu, .int .i64 a, .int .i64 b] 36)).alloc (.cells #[.pointer (some ⟨g, i * 8, none⟩)] 91)) (.slice (some ⟨g, 0, none⟩) ts.length cap) O p t ⟨kd, i, cpu, a, b⟩ g (i * 8) := by rw [← hX]; exact hF
  have HF := Lib.hid hF2
  rw [hX] at c0 ⊢
  rw [hN] at c0 i1
  have HXX := Lib.hid hX; have HNN := Lib.hid hN
  clear hX hN hF hF2
  go_enter Tryd.func42, Tryd.ntmps42
  go_upto_region 4 with fail
  generalize ((w.alloc (.cells X.toArray 30)).alloc (.cells #[.int .i64 kd, .int .i64 i, .int .i64 cpu, .int .i64 a, .int .i64 b] 36)).alloc (.cells #[.pointer (some ⟨g, i * 8, none⟩)] 91) = W at *
  have HB := Lib.hid HF.out.bl
  have HO := Lib.hid (HH.out.below HF.out.bl)
  obtain ⟨e0, e1, e2, e3, e4⟩ := HF.out.ev
  have qp : W.cell? ⟨w.heap.size + 1 + 1, 0, none⟩ = some (.pointer (some ⟨g, i * 8, none⟩)) := HF.out.bp.cell 0
  have hc := HO.out.cells HX.out
  have n6 : W.cell? ⟨g, i * 8 + 6, none⟩ = some (.int .i64 x.st) := hc 6 _ rfl
  have n7 : W.cell? ⟨g, i * 8 + 7, none⟩ = some (.int .i64 x.on) := hc 7 _ rfl
  have hgl : g < w.heap.size := (HH.out.lt (.inl rfl)).2
  have hgq : w.heap.size + 1 ≠ g ∧ w.heap.size + 1 + 1 ≠ g := by omega
  have HGQ := Lib.hid hgq
  clear c0 i0 i1 hil HNN hc hgq hgl
  generalize w.heap.size + 1 + 1 = q2 at *
  generalize w.heap.size + 1 = q1 at *
  have HRE : Hid (R = none) := by
    show _ = _
    rw [← HR.out]
    unfold taskP
    dsimp only
    obtain ⟨a1, a2, a3, a4, a5, a6, a7, a8, a9, a10, a11⟩ := hk
    simp only [a1, a2, a3, a4, a5, a6, a7, a8, a9, a10, a11, ↓reduceIte]
  have k2 : (kd == 2) = false := by simpa using hk.1
  have k3 : (kd == 3) = false := by simpa using hk.2.1
  have k4 : (kd == 4) = false := by simpa using hk.2.2.1
  have k5 : (kd == 5) = false := by simpa using hk.2.2.2.1
  have k6 : (kd == 6) = false := by simpa using hk.2.2.2.2.1
  have k7 : (kd == 7) = false := by simpa using hk.2.2.2.2.2.1
  have k8 : (kd == 8) = false := by simpa using hk.2.2.2.2.2.2.1
  have k11 : (kd == 11) = false := by simpa using hk.2.2.2.2.2.2.2.1
  have k12 : (kd == 12) = false := by simpa using hk.2.2.2.2.2.2.2.2.1
  have k13 : (kd == 13) = false := by simpa using hk.2.2.2.2.2.2.2.2.2.1
  have k21 : (kd == 21) = false := by simpa using hk.2.2.2.2.2.2.2.2.2.2
  clear HR hk
  go_wp2_with fail
  go_ret
  have e := HRE.out
  subst e
  exact ⟨rfl, .inl ⟨rfl, HB.out⟩⟩
end Go.Proofs.YtilaalleiiakoaaDoor
