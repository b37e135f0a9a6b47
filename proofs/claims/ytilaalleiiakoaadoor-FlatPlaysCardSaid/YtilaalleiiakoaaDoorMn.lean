/- The code's Right, at a machine that is right (layer 19). -/
import Derived.Test.YtilaalleiiakoaaDoorLh
namespace Go.Proofs.YtilaalleiiakoaaDoor
open Go.RowKit
set_option maxRecDepth 100000

theorem loadN_halt {w : World} {ops : Array Oper} {rest : List Oper} {op : Oper} {a : Act} {Q : Exit → Act → World → Prop} {g : Nat × Bool} (_ : op.guard = some g) (x : Operand) (_ : op.op = .load 30 x) (h : Hid (wpList Tryd.prog ops Q (op :: rest) a w)) : wpList Tryd.prog ops Q (op :: rest) a w := h.out
theorem ld_flatN {F O : Value} {p : Nat → Bool} {t : Int} {w : World} {ops : Array Oper} {rest : List Oper} {o : Oper} {a : Act} {Q : Exit → Act → World → Prop} (hgd : Region.wanted o (yielded ops a.tmps) = true) (x : Operand) (ho : o.op = .load 30 x)
  (g : Nat) (hx : a.eval x = .pointer (some ⟨g, 0, none⟩)) (hb : BF w g F O p t) (h : wpList Tryd.prog ops Q rest (a.put o.dst (flV F O p t)) w) : wpList Tryd.prog ops Q (o :: rest) a w :=
 BigFrame.wpList_want hgd fun _ hK => wp_load_mid 30 x ho g 0 hx (flL F O p t) _ hb.all under30 rfl (by rw [infoFlat, flL_len]) (hK _ _ h)
theorem st_setB {ops : Array Oper} {rest : List Oper} {o : Oper} {a : Act} {w : World} {Q : Exit → Act → World → Prop} (hgd : o.guard = none) (x y : Operand) (ho : o.op = .store 24 x y)
  (g : Nat) (p : Nat → Bool) (hx : a.eval x = .pointer (some ⟨g, 0, none⟩)) (hy : a.eval y = .agg (cellsOf p)) (old : Array Value) (hg : Blk w g 24 old) (hold : old.size = 16)
  (h : wpList Tryd.prog ops Q rest (a.put o.dst undef) (w.setRow g (cellsOf p))) : wpList Tryd.prog ops Q (o :: rest) a w := st_set hgd x y ho g p hx hy old hg hold h
/-- An owner that may be. -/
def OwnOk (n : Nat) (z : Int) : Prop := -1 ≤ z ∧ z < (n : Int)
abbrev rRun (q : Nat) : Value := .func (.func 28) #[] #[.pointer (some ⟨q, 0, none⟩)]
section
variable {w : World} {A A2 : Option Addr} {n m c c2 : Nat} {p : Nat → Bool} {t : Int}
set_option maxHeartbeats 4000000 in
theorem right1_any {F O : Value} (hF : F = .slice A n c) (q : Nat) (hb : BF w q F O p t) (z : Int) (hz : OwnOk n z) :
  Calls Tryd.prog 28 #[.int .i64 z, .pointer (some ⟨q, 0, none⟩)] w (GotB w.heap.size (.bool false) w) := by
 subst hF
 have HB := Lib.hid hb
 have HIT : Hid (Calls Tryd.prog 29 #[.agg (flL (.slice A n c) O p t).toArray, .int .i64 z] w (GotB w.heap.size (.bool (decide (0 ≤ z ∧ z < (n : Int)))) w)) := isTask_any A n c O p t z w
 clear hb
 by_cases h : z = -1
 ·
  subst h
  go_enter Tryd.func28, Tryd.ntmps28
  go_wp2_with fail
  go_ret
  exact ⟨rfl, Below.refl _ _⟩
 ·
  have h1 : (z != -1) = true := by simpa using h
  have h2 : decide (0 ≤ z ∧ z < (n : Int)) = true := by unfold OwnOk at hz; simp; omega
  rw [h2] at HIT
  clear h h2 hz
  go_enter Tryd.func28, Tryd.ntmps28
  go_wp2_with (with_reducible (show wpList _ _ _ _ _ _); refine loadN_halt rfl (.tmp 1) rfl ?_)
  refine Lib.hid ?_
  refine ld_flatN (by rfl) (.tmp 1) rfl q rfl HB.out ?_
  go_wp2_with (first
   | (go_at_call 29; (with_reducible refine HIT.out.mono ?_); rintro e w3 ⟨rfl, h3⟩; have HB3 := Lib.hid h3; clear h3))
  go_ret
  exact ⟨rfl, HB3.out⟩
set_option maxHeartbeats 4000000 in
theorem idxR_any {F O : Value} (hF : F = .slice A n c) (q : Nat) (hb : BF w q F O p t) (L : List Int) (cap : Nat) (hl : L.length ≤ 1000) (h : NumsIn w A2 L) (hz : ∀ (i : Nat) (z : Int), L[i]? = some z → OwnOk n z) :
  Calls Tryd.prog 44 #[.slice A2 L.length cap, rRun q] w (GotB w.heap.size (.int .i64 (-1)) w) := by
 have HQ := Lib.hid hb; have HR := Lib.hid h; have HZ := Lib.hid hz; have HF := Lib.hid hF
 obtain ⟨N, hN⟩ : ∃ N, L.length = N := ⟨_, rfl⟩
 rw [hN] at hl ⊢
 have HN := Lib.hid hN
 clear hb h hz hN hF
 unfold rRun
 go_enter Tryd.func44, Tryd.ntmps44
 go_wp2_with fail
 go_loopw [8] (fun iv wr => ∃ k : Nat, iv = .int .i64 k ∧ k ≤ N ∧ Below w.heap.size w wr) (fun iv _ => N - (intOf iv).toNat)
 case atStart => exact ⟨0, rfl, Nat.zero_le _, Below.refl _ _⟩
 case round =>
  obtain ⟨k, rfl, hk, hb⟩ := hrel
  by_cases hlt : k < N
  ·
   have hn := HN.out
   obtain ⟨r, hr⟩ : ∃ r, L[k]? = some r := ⟨_, List.getElem?_eq_getElem (by omega)⟩
   obtain ⟨g, off, rfl, hg, hrow⟩ := (HR.out.below hb) k r hr
   have P : Hid (Calls Tryd.prog 28 #[.int .i64 r, .pointer (some ⟨q, 0, none⟩)] wr (GotB wr.heap.size (.bool false) wr)) := right1_any HF.out q (Blk.below HQ.out hb (Blk.lt HQ.out)) r (HZ.out k r hr)
   have HB := Lib.hid hb
   have k0 : (0 : Int) ≤ (k : Int) := by omega
   have k1 : (k : Int) < (N : Int) := by omega
   clear hr hb hg
   go_wp2_with (go_at_call 28; (with_reducible refine P.out.mono ?_); rintro e w3 ⟨rfl, h3⟩; have HB3 := Lib.hid (HB.out.trans (h3.mono HB.out.size)); clear h3)
   go_roundw
   case rel => exact ⟨k + 1, by go_num, by omega, HB3.out⟩
   case measure => simp [intOf]; omega
  ·
   obtain rfl : k = N := by omega
   have tk : ¬ (k : Int) < (k : Int) := by omega
   have HB := Lib.hid hb
   clear hb
   go_wp2_with fail
   go_ret
   exact ⟨rfl, HB.out⟩
set_option maxHeartbeats 4000000 in
theorem contR_any {F O : Value} (hF : F = .slice A n c) (q : Nat) (hb : BF w q F O p t) (L : List Int) (cap : Nat) (hl : L.length ≤ 1000) (h : NumsIn w A2 L) (hz : ∀ (i : Nat) (z : Int), L[i]? = some z → OwnOk n z) :
  Calls Tryd.prog 30 #[.slice A2 L.length cap, rRun q] w (GotB w.heap.size (.bool false) w) := by
 have P := Lib.hid (idxR_any hF q hb L cap hl h hz)
 generalize L.length = N at *
 clear h hb hz hF
 unfold rRun at *
 go_enter Tryd.func30, Tryd.ntmps30
 go_wp2_with fail
 refine P.out.mono ?_
 rintro e w2 ⟨rfl, h2⟩
 dsimp only
 go_wp2_with fail
 go_ret
 exact ⟨rfl, h2⟩
end
/-- Who is busy among the first k. -/
def busyK (ts : List FT) (k : Nat) (pb : Nat → Bool) : Prop := ∀ z, hasP pb z = true → ∃ (i : Nat) (x : FT), i < k ∧ ts[i]? = some x ∧ x.st = 2 ∧ x.on = z
theorem hasP_putP {p : Nat → Bool} {n z : Int} (h : hasP (putP p n) z = true) : hasP p z = true ∨ z = n := by
 unfold hasP putP at *
 simp only [Bool.and_eq_true, decide_eq_true_eq, Bool.or_eq_true] at h ⊢
 obtain ⟨h1, h2 | h2⟩ := h
 ·
  exact .inl ⟨h1, h2⟩
 ·
  exact .inr (by omega)
section
variable {w : World} {F O : Value} {f : Fl}
set_option maxHeartbeats 8000000 in
theorem cright_any (h : InF w F O f.ts f.ow) (hl : f.ts.length ≤ 1000) (hm : f.ow.length ≤ 1000) (hr : RightF f) :
  Calls Tryd.prog 13 #[flV F O f.p f.tm] w (GotB w.heap.size (.bool true) w) := by
 obtain ⟨⟨A, c, rfl, hT⟩, ⟨A2, c2, rfl, hO⟩⟩ := h
 have HT := Lib.hid hT; have HO := Lib.hid hO; have HR := Lib.hid hr
 obtain ⟨n, hn⟩ : ∃ n, f.ts.length = n := ⟨_, rfl⟩
 obtain ⟨m, hm'⟩ : ∃ m, f.ow.length = m := ⟨_, rfl⟩
 have HN := Lib.hid hn; have HM := Lib.hid hm'
 have hbf : BF ((w.alloc (.cells (flL (.slice A n c) (.slice A2 m c2) f.p f.tm).toArray 30)).alloc (.cells #[.int .u64 0, .int .u64 0, .int .u64 0, .int .u64 0, .int .u64 0, .int .u64 0, .int .u64 0, .int .u64 0, .int .u64 0, .int .u64 0, .int .u64 0, .int .u64 0, .int .u64 0, .int .u64 0, .int .u64 0, .int .u64 0] 24)) w.heap.size (.slice A n c) (.slice A2 m c2) f.p f.tm := (Blk.new w _ _).alloc _
 have hbs : Blk ((w.alloc (.cells (flL (.slice A n c) (.slice A2 m c2) f.p f.tm).toArray 30)).alloc (.cells #[.int .u64 0, .int .u64 0, .int .u64 0, .int .u64 0, .int .u64 0, .int .u64 0, .int .u64 0, .int .u64 0, .int .u64 0, .int .u64 0, .int .u64 0, .int .u64 0, .int .u64 0, .int .u64 0, .int .u64 0, .int .u64 0] 24)) (w.heap.size + 1) 24 (cellsOf fun _ => false) := by
  have := Blk.new (w.alloc (.cells (flL (.slice A n c) (.slice A2 m c2) f.p f.tm).toArray 30)) 24 (cellsOf fun _ => false)
  rw [cellsOf_zero] at this ⊢
  simpa using this
 have hbl : Below w.heap.size w ((w.alloc (.cells (flL (.slice A n c) (.slice A2 m c2) f.p f.tm).toArray 30)).alloc (.cells #[.int .u64 0, .int .u64 0, .int .u64 0, .int .u64 0, .int .u64 0, .int .u64 0, .int .u64 0, .int .u64 0, .int .u64 0, .int .u64 0, .int .u64 0, .int .u64 0, .int .u64 0, .int .u64 0, .int .u64 0, .int .u64 0] 24)) := ((Below.refl _ _).alloc (Nat.le_refl _) _).alloc (by simp) _
 rw [hn, hm']
 rw [hn] at hl; rw [hm'] at hm
 clear hT hO hr hn hm'
 go_enter Tryd.func13, Tryd.ntmps13
 go_upto_region 2 with fail
 generalize (w.alloc (.cells (flL (.slice A n c) (.slice A2 m c2) f.p f.tm).toArray 30)).alloc (.cells #[.int .u64 0, .int .u64 0, .int .u64 0, .int .u64 0, .int .u64 0, .int .u64 0, .int .u64 0, .int .u64 0, .int .u64 0, .int .u64 0, .int .u64 0, .int .u64 0, .int .u64 0, .int .u64 0, .int .u64 0, .int .u64 0] 24) = W at *
 have HBF := Lib.hid hbf; have HBS := Lib.hid hbs; have HBL := Lib.hid hbl
 have c0 := BF.c0 hbf
 clear hbf hbs hbl
 go_wp2_with fail
 clear c0
 go_loopw [10] (fun iv wr => ∃ (k : Nat) (pb : Nat → Bool), iv = .int .i64 k ∧ k ≤ n ∧ Below w.heap.size w wr ∧ BF wr w.heap.size (.slice A n c) (.slice A2 m c2) f.p f.tm ∧ Blk wr (w.heap.size + 1) 24 (cellsOf pb) ∧ busyK f.ts k pb) (fun iv _ => n - (intOf iv).toNat)
 case atStart => exact ⟨0, fun _ => false, rfl, Nat.zero_le _, HBL.out, HBF.out, HBS.out, fun z hz => by unfold hasP at hz; simp at hz⟩
 case round =>
  obtain ⟨k, pb, rfl, hk, hb, hbf, hbs, hbk⟩ := hrel
  have HBB := Lib.hid hb; have HBFk := Lib.hid hbf; have HBSk := Lib.hid hbs; have HBK := Lib.hid hbk
  by_cases hlt : k < n
  ·
   obtain ⟨x, hx⟩ : ∃ x, f.ts[k]? = some x := ⟨_, List.getElem?_eq_getElem (by rw [HN.out]; exact hlt)⟩
   have HX := Lib.hid hx
   obtain ⟨g, off, rfl, -, hrow⟩ := (HT.out.below hb) k x hx
   obtain ⟨d0, d1, d2, d3, d4, d5, d6, d7⟩ := task_cells hrow
   have k0 : (0 : Int) ≤ (k : Int) := by omega
   have k1 : (k : Int) < (n : Int) := by omega
   have hs := (HR.out.st k x hx).1
   obtain ⟨pg, pc, ⟨ra, rb, rc, rd⟩, st, on⟩ := x
   dsimp only at d0 d1 d2 d3 d4 d5 d6 d7 hs
   have hal : Below wr.heap.size wr (wr.alloc (.cells #[.int .i64 pg, .int .i64 pc, .int .i32 ra, .int .i32 rb, .int .i32 rc, .int .i32 rd, .int .i64 st, .int .i64 on] 45)) := (Below.refl _ _).alloc (Nat.le_refl _) _
   have hxb := Blk.new wr 45 #[.int .i64 pg, .int .i64 pc, .int .i32 ra, .int .i32 rb, .int .i32 rc, .int .i32 rd, .int .i64 st, .int .i64 on]
   clear hrow hx hb hbf hbs hbk
   go_upto_region 5 with fail
   generalize wr.alloc (.cells #[.int .i64 pg, .int .i64 pc, .int .i32 ra, .int .i32 rb, .int .i32 rc, .int .i32 rd, .int .i64 st, .int .i64 on] 45) = V at *
   have HXB := Lib.hid hxb
   have s6 := hxb.cell 6
   have s7 := hxb.cell 7
   simp only [List.getElem?_toArray, List.getElem?_cons_succ, List.getElem?_cons_zero] at s6 s7
   have HBV := Lib.hid (HBB.out.trans (hal.mono HBB.out.size))
   have HBFV : Hid (BF V w.heap.size (.slice (some ⟨g, off, none⟩) n c) (.slice A2 m c2) f.p f.tm) := Blk.below HBFk.out hal (Blk.lt HBFk.out)
   have HBSV := Lib.hid (HBSk.out.below hal HBSk.out.lt)
   have hq : wr.heap.size ≠ w.heap.size + 1 := by have := HBSk.out.lt; omega
   generalize wr.heap.size = q3 at *
   clear hxb hal d0 d1 d2 d3 d4 d5 d6 d7 HBFk HBSk HBB
   have t0 : decide (st < 0) = false := by simp; omega
   have t1 : decide (8 < st) = false := by simp; omega
   by_cases h2 : st = 2
   ·
    subst h2
    have hon := (HR.out.st k _ HX.out).2 rfl
    dsimp only at hon
    have hno : hasP pb on = false := by
     rcases hbb : hasP pb on with _ | _
     ·
      rfl
     ·
      obtain ⟨i, y, hi, hy, h3, h4⟩ := HBK.out on hbb
      exact absurd ⟨rfl, h3, h4.symm⟩ (HR.out.two k i _ y hi HX.out hy)
    have HHA : Hid (Calls Tryd.prog 26 #[.agg (cellsOf f.p), .int .i64 on] V fun e w' => e = .returned (.bool true) ∧ Below V.heap.size V w') := by rw [← hon]; exact shas_any f.p on V
    have HHB : Hid (∀ X, Calls Tryd.prog 26 #[.agg (cellsOf pb), .int .i64 on] X fun e w' => e = .returned (.bool false) ∧ Below X.heap.size X w') := fun X => by rw [← hno]; exact shas_any pb on X
    have HPU : Hid (∀ X, Calls Tryd.prog 27 #[.agg (cellsOf pb), .int .i64 on] X fun e w' => e = .returned (.agg (cellsOf (putP pb on))) ∧ Below X.heap.size X w') := fun X => put_any pb on X
    have HCS : Hid (∀ X, Blk X (w.heap.size + 1) 24 (cellsOf pb) → X.rangeAt (w.heap.size + 1) 0 (cellsOf pb).toList) := fun X hX j u hj => by
     rw [Nat.zero_add, hX.cell]; rw [Array.getElem?_toList] at hj; exact hj
    have HRS := Lib.hid (HCS.out V HBSV.out)
    clear hon hno hs
    go_upto_region 10 with (first
     | (with_reducible (show wpList _ _ _ _ _ _); refine ld_on rfl (.tmp 25) rfl w.heap.size rfl HBFV.out ?_)
     | (go_at_call 26; (with_reducible refine HHA.out.mono ?_); rintro e V1 ⟨rfl, h3⟩; have HBV1 := Lib.hid (HBV.out.trans (h3.mono HBV.out.size)); have HXB1 := Lib.hid (HXB.out.below h3 HXB.out.lt); have HBF1 := Lib.hid (Blk.below HBFV.out h3 (Blk.lt HBFV.out)); have HBS1 := Lib.hid (HBSV.out.below h3 HBSV.out.lt); have HRS1 := Lib.hid (HCS.out V1 HBS1.out); have r7 : V1.cell? ⟨q3, 7, none⟩ = some (.int .i64 on) := HXB1.out.cell 7; clear h3)
     | (with_reducible (show Oper.wp _ _ _ _ _ _); refine wp_load_mid 24 (.tmp 3) rfl (w.heap.size + 1) 0 rfl (cellsOf pb).toList _ HRS1.out underSet rfl (by rw [infoSetS]; simp [cellsOf]) ?_)
     | (go_at_call 26; (try rw [Array.toArray_toList]); (with_reducible refine (HHB.out _).mono ?_); rintro e V2 ⟨rfl, h4⟩; have HBV2 := Lib.hid (HBV1.out.trans (h4.mono HBV1.out.size)); have HXB2 := Lib.hid (HXB1.out.below h4 HXB1.out.lt); have HBF2 := Lib.hid (Blk.below HBF1.out h4 (Blk.lt HBF1.out)); have HBS2 := Lib.hid (HBS1.out.below h4 HBS1.out.lt); have HRS2 := Lib.hid (HCS.out V2 HBS2.out); have v7 : V2.cell? ⟨q3, 7, none⟩ = some (.int .i64 on) := HXB2.out.cell 7; clear h4))
    go_upto_region 11 with (first
     | (with_reducible (show wpList _ _ _ _ _ _); refine wpList_load_mid rfl 24 (.tmp 3) rfl (w.heap.size + 1) 0 rfl (cellsOf pb).toList _ HRS2.out underSet rfl (by rw [infoSetS]; simp [cellsOf]) ?_)
     | (go_at_call 27; (try rw [Array.toArray_toList]); (with_reducible refine (HPU.out _).mono ?_); rintro e V3 ⟨rfl, h5⟩; have HBV3 := Lib.hid (HBV2.out.trans (h5.mono HBV2.out.size)); have HBF3 := Lib.hid (Blk.below HBF2.out h5 (Blk.lt HBF2.out)); have HBS3 := Lib.hid (HBS2.out.below h5 HBS2.out.lt); clear h5)
     | (with_reducible (show wpList _ _ _ _ _ _); refine st_setB rfl (.tmp 3) (.tmp 40) rfl (w.heap.size + 1) (putP pb on) rfl rfl (cellsOf pb) HBS3.out (cellsOf_size _) ?_))
    have hb5 : Below w.heap.size w (V3.setRow (w.heap.size + 1) (cellsOf (putP pb on))) := ((But.of_below (X := fun k => w.heap.size ≤ k) HBV3.out).row _ _ (.inl (by show w.heap.size ≤ w.heap.size + 1; omega))).below (Nat.le_refl _) fun k _ z => z
    have hbf5 : BF (V3.setRow (w.heap.size + 1) (cellsOf (putP pb on))) w.heap.size (.slice (some ⟨g, off, none⟩) n c) (.slice A2 m c2) f.p f.tm := Blk.row_other HBF3.out (by omega) _
    have hbs5 : Blk (V3.setRow (w.heap.size + 1) (cellsOf (putP pb on))) (w.heap.size + 1) 24 (cellsOf (putP pb on)) := setRow_heap V3 _ _ _ _ _ HBS3.out
    have HB5 := Lib.hid hb5; have HBF5 := Lib.hid hbf5; have HBS5 := Lib.hid hbs5
    clear hb5 hbf5 hbs5
    generalize V3.setRow (w.heap.size + 1) (cellsOf (putP pb on)) = V4 at *
    go_wp2_with fail
    go_roundw
    case rel =>
     refine ⟨k + 1, putP pb on, by go_num, by omega, HB5.out, HBF5.out, HBS5.out, fun z hz => ?_⟩
     rcases hasP_putP hz with q | rfl
     ·
      obtain ⟨i, y, hi, hy, h3, h4⟩ := HBK.out z q
      exact ⟨i, y, by omega, hy, h3, h4⟩
     ·
      exact ⟨k, _, by omega, HX.out, rfl, rfl⟩
    case measure => simp [intOf]; omega
   ·
    have t2 : (st != 2) = true := by simpa using h2
    clear hs
    go_wp2_with fail
    go_roundw
    case rel =>
     refine ⟨k + 1, pb, by go_num, by omega, HBV.out, HBFV.out, HBSV.out, fun z hz => ?_⟩
     obtain ⟨i, y, hi, hy, h3, h4⟩ := HBK.out z hz
     exact ⟨i, y, by omega, hy, h3, h4⟩
    case measure => simp [intOf]; omega
  ·
   obtain rfl : k = n := by omega
   have tk : ¬ (k : Int) < (k : Int) := by omega
   have e17 := BF.c17 hbf
   have e18 := BF.c18 hbf
   have tt : decide (0 ≤ f.tm) = true := decide_eq_true HR.out.tm
   have HC : Hid (Calls Tryd.prog 30 #[.slice A2 m c2, rRun w.heap.size] wr (GotB wr.heap.size (.bool false) wr)) := by
    have := contR_any (n := k) rfl w.heap.size hbf f.ow c2 (by rw [HM.out]; exact hm) (HO.out.below hb) (fun i z hz => by have := HR.out.ow i z hz; rw [HN.out] at this; exact this)
    rw [HM.out] at this; exact this
   clear hb hbf hbs hbk
   unfold rRun at HC
   go_wp2_with (go_at_call 30; (with_reducible refine HC.out.mono ?_); rintro e V2 ⟨rfl, h4⟩; have HB4 := Lib.hid (HBB.out.trans (h4.mono HBB.out.size)); clear h4)
   go_ret
   exact ⟨rfl, HB4.out⟩
end
end Go.Proofs.YtilaalleiiakoaaDoor
