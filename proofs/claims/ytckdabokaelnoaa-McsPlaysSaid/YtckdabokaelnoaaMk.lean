/- McsPlays' walk. -/
import Derived.Test.YtckdabokaelnoaaMl
import Derived.Test.YtckdabokaelnoaaMz
import Derived.Test.YtckdabokaelnoaaMn
import Derived.Test.YtckdabokaelnoaaMb
import Derived.Test.YtckdabokaelnoaaMp
import Derived.Deep.CutBlock
namespace Go.Proofs.Ytckdabokaelnoaa
open Go.RowKit

/-- The code's lock and the document's, side by side. -/
structure BothM (w0 : World) (b rb gn gw gs ga gx : Nat) (D : Lk) (R : Rf) (w : World) : Prop where
  l : LdM w0 b D w
  r : RefM rb gn gw gs ga gx D.n R w
  rel : RelM D R
  new : ∀ k, OwnX rb gn gw gs ga gx k → w0.heap.size ≤ k
  sep : ¬ OwnX rb gn gw gs ga gx b
section
variable {w0 : World} {b rb gn gw gs ga gx : Nat} {D : Lk} {R : Rf} {w w' : World}
theorem BothM.nob (h : BothM w0 b rb gn gw gs ga gx D R w) (hb : But Nob w w') : BothM w0 b rb gn gw gs ga gx D R w' := ⟨h.l.nob hb, h.r.but hb (fun _ _ x => x), h.rel, h.new, h.sep⟩
/-- The code has done its part. -/
structure MidM (w0 : World) (b rb gn gw gs ga gx : Nat) (D D' : Lk) (R : Rf) (w : World) : Prop where
  l : LdM w0 b D' w
  r : RefM rb gn gw gs ga gx D.n R w
  rel : RelM D R
  new : ∀ k, OwnX rb gn gw gs ga gx k → w0.heap.size ≤ k
  sep : ¬ OwnX rb gn gw gs ga gx b
theorem BothM.mid {D' : Lk} (h : BothM w0 b rb gn gw gs ga gx D R w) (hl : LdM w0 b D' w') (hb : But (OneB b) w w') : MidM w0 b rb gn gw gs ga gx D D' R w' :=
  ⟨hl, h.r.but hb (fun k hk e => h.sep (by have : k = b := e; exact this ▸ hk)), h.rel, h.new, h.sep⟩
theorem MidM.done {D' : Lk} {R' : Rf} (h : MidM w0 b rb gn gw gs ga gx D D' R w) (hn : D'.n = D.n) (hr : RefM rb gn gw gs ga gx D.n R' w') (hb : But (OwnX rb gn gw gs ga gx) w w') (hrel : RelM D' R') : BothM w0 b rb gn gw gs ga gx D' R' w' :=
  ⟨⟨h.l.v.but hb h.sep, h.l.nice, h.l.old.step hb (fun k hk x => by have := h.new k x; omega), h.l.new⟩, hn ▸ hr, hrel, h.new, h.sep⟩
/-- The document's Step, when the code has stepped. -/
theorem MidM.step (k : Int) (hN : Nice D) (h : MidM w0 b rb gn gw gs ga gx D (stpT D k) R w) :
    Calls Try.prog 46 #[.pointer (some ⟨rb, 0, none⟩), .int .i64 k] w fun e w' => e = .returned (.tuple #[.bool (stpB D k), .int .i64 (stpE D k)]) ∧ ∃ R', BothM w0 b rb gn gw gs ga gx (stpT D k) R' w' := by
  by_cases hc : isN D k
  · obtain ⟨j, rfl⟩ : ∃ j : Nat, k = j := ⟨k.toNat, by unfold isN at hc; omega⟩
    have hj : j < D.n := by unfold isN at hc; omega
    by_cases ha : (D.cl j).st = 1 ∨ (D.cl j).st = 3
    · have ht : stpT D (j : Int) = stepL D j := by unfold stpT; rw [if_pos ⟨hc, by rw [Int.toNat_natCast]; exact ha⟩, Int.toNat_natCast]
      have he : stpE D (j : Int) = 0 := by unfold stpE; rw [if_pos hc, Int.toNat_natCast, if_pos ha]
      obtain ⟨R', hR', hcall⟩ := rstep_any j h.r hN h.rel hj ha
      rw [he]
      refine hcall.mono fun e w' ⟨e1, e2, e3⟩ => ⟨e1, R', ?_⟩
      exact h.done (stpT_n D _) e2 e3 (ht ▸ hR')
    · have ht : stpT D (j : Int) = D := by unfold stpT; rw [if_neg (fun x => ha (by have := x.2; rw [Int.toNat_natCast] at this; exact this))]
      have he : stpE D (j : Int) = 5 := by unfold stpE; rw [if_pos hc, Int.toNat_natCast, if_neg ha]
      have hb : stpB D (j : Int) = false := by unfold stpB; rw [ht]; simp
      have J := h.rel.each j hj
      have s3 := (hN.each j hj).st
      have js := J.st
      rw [he, hb]
      refine (rst_idle j h.r hj (by omega) J.lo).mono fun e w' ⟨e1, e2⟩ => ⟨e1, R, ?_⟩
      subst e2
      exact ⟨h.l, by rw [stpT_n]; exact h.r, by rw [ht]; exact h.rel, h.new, h.sep⟩
  · have ht : stpT D k = D := by unfold stpT; rw [if_neg (fun x => hc x.1)]
    have he : stpE D k = 1 := by unfold stpE; rw [if_neg hc]
    have hb : stpB D k = false := by unfold stpB; rw [ht]; simp
    rw [he, hb]
    refine (rst_no k h.r (by unfold isN at hc; omega)).mono fun e w' ⟨e1, e2⟩ => ⟨e1, R, ?_⟩
    subst e2
    exact ⟨h.l, by rw [stpT_n]; exact h.r, by rw [ht]; exact h.rel, h.new, h.sep⟩
/-- The document's Begin, when the code has begun. -/
theorem MidM.begin_ (k : Int) (fr q : Nat) (hf : fr = 0 ∧ q = 0 ∨ fr = 2 ∧ q = 5) (h : MidM w0 b rb gn gw gs ga gx D (begT D k fr q) R w) :
    Calls Try.prog 43 #[.pointer (some ⟨rb, 0, none⟩), .int .i64 k, .int .i64 (fr : Nat)] w fun e w' => e = .returned (.int .i64 (begE D k fr)) ∧ ∃ R', BothM w0 b rb gn gw gs ga gx (begT D k fr q) R' w' := by
  by_cases hc : isN D k
  · obtain ⟨j, rfl⟩ : ∃ j : Nat, k = j := ⟨k.toNat, by unfold isN at hc; omega⟩
    have hj : j < D.n := by unfold isN at hc; omega
    have J := h.rel.each j hj
    have js := J.st
    by_cases hs : (D.cl j).st = fr
    · have he : begE D (j : Int) fr = 0 := by unfold begE; rw [if_pos hc, Int.toNat_natCast, if_pos hs]
      have ht : begT D (j : Int) fr q = { D with cl := updF D.cl j ⟨fr + 1, q, 0⟩ } := by unfold begT; rw [if_pos ⟨hc, by rw [Int.toNat_natCast]; exact hs⟩, Int.toNat_natCast]
      rw [he]
      refine (rbeg_ok j fr (by omega) h.r hj (by rw [js, hs])).mono fun e w' ⟨e1, e2, e3⟩ => ⟨e1, _, h.done (begT_n D _ _ _) e2 e3 ?_⟩
      rw [ht]
      refine h.rel.upd rfl h.rel.tail (fun i hi => updF_other _ _ hi) (fun i hi => updF_other _ _ hi) (fun i hi => updF_other _ _ hi) (fun _ _ => rfl) (fun i hi => (h.rel.each i hi).nx) (fun i hi => (h.rel.each i hi).wt) ?_
      refine ⟨J.nx, J.wt, by simp [updF_same], by simp [updF_same], ?_, ?_, ?_, ?_⟩ <;> simp only [updF_same] <;> omega
    · have he : begE D (j : Int) fr = 5 := by unfold begE; rw [if_pos hc, Int.toNat_natCast, if_neg hs]
      have ht : begT D (j : Int) fr q = D := by unfold begT; rw [if_neg (fun x => hs (by have := x.2; rw [Int.toNat_natCast] at this; exact this))]
      rw [he]
      refine (rbeg_no j (fr : Nat) h.r hj (by rw [js]; omega)).mono fun e w' ⟨e1, e2⟩ => ⟨e1, R, ?_⟩
      subst e2
      exact ⟨h.l, by rw [begT_n]; exact h.r, by rw [ht]; exact h.rel, h.new, h.sep⟩
  · have he : begE D k fr = 1 := by unfold begE; rw [if_neg hc]
    have ht : begT D k fr q = D := by unfold begT; rw [if_neg (fun x => hc x.1)]
    rw [he]
    refine (rbeg_out k (fr : Nat) h.r (by unfold isN at hc; omega)).mono fun e w' ⟨e1, e2⟩ => ⟨e1, R, ?_⟩
    subst e2
    exact ⟨h.l, by rw [begT_n]; exact h.r, by rw [ht]; exact h.rel, h.new, h.sep⟩
end
theorem rel_new {n : Nat} : RelM (newL n) R0 := by
  refine ⟨rfl, fun k _ => ⟨rfl, rfl, rfl, by simp [R0], by simp [newL], by simp [newL], by simp [newL], by simp [newL]⟩⟩
/-- The first that is inside or giving, below a number; -1: none. -/
def fstN (D : Lk) : Nat → Int
  | 0 => -1
  | i + 1 => if 2 ≤ (D.cl i).st ∧ fstN D i < 0 then (i : Int) else fstN D i
theorem fst_stay {D : Lk} {i : Nat} (h : 0 ≤ fstN D i) : ∀ m, fstN D (i + m) = fstN D i
  | 0 => rfl
  | m + 1 => by
    have := fst_stay h m
    show fstN D ((i + m) + 1) = _
    rw [fstN, if_neg (by omega)]; exact this
theorem fst_hold (D : Lk) : ∀ (m i : Nat), fstN D i = -1 → (fstN D (i + m) = -1 ∧ holdR D i m = (0, false)) ∨ (∃ j : Nat, fstN D (i + m) = (j : Int) ∧ holdR D i m = ((j : Int), true))
  | 0, i, h => .inl ⟨h, rfl⟩
  | m + 1, i, h => by
    by_cases h2 : 2 ≤ (D.cl i).st
    · have e : fstN D (i + 1) = (i : Int) := by rw [fstN, if_pos ⟨h2, by omega⟩]
      have := fst_stay (D := D) (i := i + 1) (by omega) m
      exact .inr ⟨i, by rw [show i + (m + 1) = i + 1 + m by omega, this, e], by rw [holdR, if_pos h2]⟩
    · have e : fstN D (i + 1) = -1 := by rw [fstN, if_neg (by omega)]; exact h
      have := fst_hold D m (i + 1) e
      rw [holdR, if_neg h2, show i + (m + 1) = i + 1 + m by omega]
      exact this
set_option maxRecDepth 100000 in
set_option maxHeartbeats 16000000 in
theorem plays29_any (p : Int) (A : Option Addr) (len cap : Nat) (K : Nat → Nat) (I : Nat → Int) (w : World) (hcap : len ≤ cap) (hI : OpsM w A len K I) :
    Calls Try.prog 11 #[.int .i64 p, .slice A len cap] w fun e w' => e = .returned (.bool true) ∧ Below w.heap.size w w' := by
  obtain ⟨n, hn⟩ : ∃ n : Nat, min (max p 1) 16 = (n : Int) := ⟨(min (max p 1) 16).toNat, by omega⟩
  have P := Lib.hid (new_ldm p n hn w)
  have P2 := Lib.hid (fun w => rnew_any p n hn w)
  clear hn
  go_enter Try.func11, Try.ntmps11
  go_upto_region 1 with fail
  go_cut [1] (fun t wx => ∃ N : Nat, N ≤ 200 ∧ N ≤ len ∧ t = .slice A N cap ∧ w = wx)
  case first =>
    by_cases h60 : len ≤ 200
    · have t0 : ¬ (200 : Int) < len := by omega
      have t1 : (0 : Int) ≤ len := by omega
      have t2 : (len : Int) ≤ cap := by omega
      go_wp2_with fail
      go_meet
      exact ⟨len, h60, Nat.le_refl _, rfl, rfl⟩
    · have t0 : (200 : Int) < len := by omega
      have t2 : (200 : Int) ≤ cap := by omega
      have t3 : 200 ≤ cap := by omega
      go_wp2_with fail
      go_meet
      exact ⟨200, Nat.le_refl _, by omega, rfl, rfl⟩
  case rest =>
    obtain ⟨N, hN1, hN2, rfl, rfl⟩ := hcut
    have HI := Lib.hid (hI.less hN2)
    clear hI hcap hN2
    go_wp2_with fail
    refine P.out.mono ?_
    rintro e w1 ⟨b, rfl, h1⟩
    clear P
    have H1 := Lib.hid h1; clear h1
    go_wp2_with fail
    refine (P2.out w1).mono ?_
    rintro e w2 ⟨rb, gn, gw, gs, ga, gx, rfl, hR, hG, hnew⟩
    have hB : BothM w b rb gn gw gs ga gx (newL n) R0 w2 := ⟨H1.out.nob hG, hR, rel_new, fun k hk => Nat.le_trans H1.out.old.size (hnew k hk), fun q => by have := hnew b q; have := H1.out.v.lt; omega⟩
    have HB := Lib.hid hB
    clear hR hG hnew hB H1 P2
    go_wp2_with fail
    go_loopw [31] (fun iv wr => ∃ (i : Nat) (D : Lk) (R : Rf), i ≤ N ∧ iv = .int .i64 i ∧ BothM w b rb gn gw gs ga gx D R wr) (fun iv _ => N - (intOf iv).toNat)
    case atStart => exact ⟨0, _, _, Nat.zero_le _, rfl, HB.out⟩
    case round =>
      obtain ⟨i, D, R, hi, rfl, hS⟩ := hrel
      by_cases hlt : i < N
      · obtain ⟨bb, off, rfl, hbb, hc0, hc1⟩ := (HI.out.below hS.l.below) i hlt
        generalize I i = who at hc1
        have k0 : (0 : Int) ≤ (i : Int) := by omega
        have k1 : (i : Int) < (N : Int) := by omega
        have hal : But Nob wr (wr.alloc (.cells #[.int .u64 (K i), .int .i64 who] 87)) := (But.refl Nob wr).alloc _
        have hA := hS.nob hal
        have hX := Blk.new wr 87 #[.int .u64 (K i), .int .i64 who]
        have x0 := hX.cell 0; have x1 := hX.cell 1
        simp only [List.getElem?_toArray, List.getElem?_cons_zero, List.getElem?_cons_succ] at x0 x1
        have hbw : b < wr.heap.size := hS.l.v.lt
        have hrw : ∀ k, OwnX rb gn gw gs ga gx k → k < wr.heap.size := fun k hk => hS.r.lt hk
        have HA := Lib.hid hA; have HX := Lib.hid hX; have HRW := Lib.hid hrw
        obtain ⟨r, hr⟩ : ∃ r, K i % 6 = r := ⟨_, rfl⟩
        have hr6 : r < 6 := by omega
        have e1 : (K i : Int) % 6 = (r : Int) := by omega
        clear hS hX hA hal HB HI hrw
        go_upto_block 2 with fail
        go_cut [9, 10, 11, 12, 37] (fun av bv ev fv _ wx => ∃ (D' : Lk) (R' : Rf) (a : Bool) (c : Int), av = .bool a ∧ bv = .bool a ∧ ev = .int .i64 c ∧ fv = .int .i64 c ∧ BothM w b rb gn gw gs ga gx D' R' wx)
        case first =>
          rcases (by omega : r = 0 ∨ r = 1 ∨ 2 ≤ r) with rfl | rfl | h2
          · have PM := Lib.hid (fun w' (q : LdM w b (begT D who 0 0) w' ∧ But (OneB b) (wr.alloc (.cells #[.int .u64 (K i), .int .i64 who] 87)) w') => (HA.out.mid q.1 q.2).begin_ who 0 0 (.inl ⟨rfl, rfl⟩))
            have P := Lib.hid (take_ldm who HA.out.l)
            have hxw : Hid (∀ w', But (OneB b) (wr.alloc (.cells #[.int .u64 (K i), .int .i64 who] 87)) w' → w'.cell? ⟨wr.heap.size, 1, none⟩ = some (.int .i64 who)) := fun w' hb => ((HX.out.but hb (show ¬ wr.heap.size = b by omega)).cell 1)
            go_upto_region 15 with (first
              | (go_at_call 42; (with_reducible refine P.out.mono ?_); rintro e w5 ⟨rfl, h5, hb5⟩; have H5 := Lib.hid h5; have HB5 := Lib.hid hb5; clear h5 hb5))
            clear x0 x1
            have x1 := hxw.out _ HB5.out
            have PB := Lib.hid (PM.out _ ⟨H5.out, HB5.out⟩)
            clear hxw PM P
            go_wp2_with (first
              | (go_at_call 43; (refine PB.out.mono ?_); rintro e w6 ⟨rfl, R', h6⟩; have H6 := Lib.hid h6; clear h6))
            go_meet
            exact ⟨_, R', false, begE D who 0, rfl, rfl, rfl, rfl, H6.out⟩
          · have PM := Lib.hid (fun w' (q : LdM w b (begT D who 2 5) w' ∧ But (OneB b) (wr.alloc (.cells #[.int .u64 (K i), .int .i64 who] 87)) w') => (HA.out.mid q.1 q.2).begin_ who 2 5 (.inr ⟨rfl, rfl⟩))
            have P := Lib.hid (give_ldm who HA.out.l)
            have hxw : Hid (∀ w', But (OneB b) (wr.alloc (.cells #[.int .u64 (K i), .int .i64 who] 87)) w' → w'.cell? ⟨wr.heap.size, 1, none⟩ = some (.int .i64 who)) := fun w' hb => ((HX.out.but hb (show ¬ wr.heap.size = b by omega)).cell 1)
            go_upto_region 18 with (first
              | (go_at_call 44; (with_reducible refine P.out.mono ?_); rintro e w5 ⟨rfl, h5, hb5⟩; have H5 := Lib.hid h5; have HB5 := Lib.hid hb5; clear h5 hb5))
            clear x0 x1
            have x1 := hxw.out _ HB5.out
            have PB := Lib.hid (PM.out _ ⟨H5.out, HB5.out⟩)
            clear hxw PM P
            go_wp2_with (first
              | (go_at_call 43; (refine PB.out.mono ?_); rintro e w6 ⟨rfl, R', h6⟩; have H6 := Lib.hid h6; clear h6))
            go_meet
            exact ⟨_, R', false, begE D who 2, rfl, rfl, rfl, rfl, H6.out⟩
          · have r0 : (r == 0) = false := by simp; omega
            have r1 : (r == 1) = false := by simp; omega
            have r2 : ((r : Int) == 0) = false := by simp; omega
            have r3 : ((r : Int) == 1) = false := by simp; omega
            have PM := Lib.hid (fun w' (q : LdM w b (stpT D who) w' ∧ But (OneB b) (wr.alloc (.cells #[.int .u64 (K i), .int .i64 who] 87)) w') => (HA.out.mid q.1 q.2).step who HA.out.l.nice)
            have P := Lib.hid (step_ldm who HA.out.l)
            have hxw : Hid (∀ w', But (OneB b) (wr.alloc (.cells #[.int .u64 (K i), .int .i64 who] 87)) w' → w'.cell? ⟨wr.heap.size, 1, none⟩ = some (.int .i64 who)) := fun w' hb => ((HX.out.but hb (show ¬ wr.heap.size = b by omega)).cell 1)
            go_upto_region 12 with (first
              | (go_at_call 45; (with_reducible refine P.out.mono ?_); rintro e w5 ⟨rfl, h5, hb5⟩; have H5 := Lib.hid h5; have HB5 := Lib.hid hb5; clear h5 hb5))
            clear x0 x1
            have x1 := hxw.out _ HB5.out
            have PB := Lib.hid (PM.out _ ⟨H5.out, HB5.out⟩)
            clear hxw PM P
            go_wp2_with (first
              | (go_at_call 46; (with_reducible refine PB.out.mono ?_); rintro e w6 ⟨rfl, R', h6⟩; have H6 := Lib.hid h6; clear h6))
            go_meet
            exact ⟨stpT D who, R', stpB D who, stpE D who, rfl, rfl, rfl, rfl, H6.out⟩
        case rest =>
          obtain ⟨D', R', av, ev, rfl, rfl, rfl, rfl, h5⟩ := hcut
          rename World => w5
          have H5 := Lib.hid h5; clear h5 HA HX HRW x0 x1 hc0 hc1 hbb
          have n1 := H5.out.l.nice.n1
          have n2 := H5.out.l.nice.n2
          obtain ⟨nn, hnn⟩ : ∃ nn, D'.n = nn := ⟨_, rfl⟩
          have hr5 := H5.out.r
          rw [hnn] at n1 n2 hr5
          have HR5 := Lib.hid hr5
          obtain ⟨c, hc, b0, b1, b2, b3, b4, b5, bf⟩ := hr5.cells
          have S1 : Hid (Calls Try.prog 47 #[.pointer (some ⟨b, 0, none⟩), .int .i64 (-1)] w5 fun e w' => e = .returned (.int .i64 (-1)) ∧ w5 = w') := by
            have := state_ldm (-1) H5.out.l
            rw [show stI D' (-1) = -1 by unfold stI; rw [if_neg (by unfold isN; omega)]] at this
            exact Lib.hid this
          have S2 : Hid (Calls Try.prog 47 #[.pointer (some ⟨b, 0, none⟩), .int .i64 (nn : Nat)] w5 fun e w' => e = .returned (.int .i64 (-1)) ∧ w5 = w') := by
            have := state_ldm (nn : Int) H5.out.l
            rw [show stI D' (nn : Int) = -1 by unfold stI; rw [if_neg (by unfold isN; omega)]] at this
            exact Lib.hid this
          have ta : (av != av) = false := by simp
          have te : (ev != ev) = false := by simp
          clear hr5 hc
          go_wp2_with (first
            | (go_at_call 47; (first | (with_reducible refine S1.out.mono ?_) | (with_reducible refine S2.out.mono ?_)); rintro e wq ⟨rfl, rfl⟩))
          clear S1 S2
          go_loopw [13, 14, 15, 100] (fun fv s1 s2 iv wr => ∃ (m : Nat) (u1 u2 : Value), m ≤ nn ∧ fv = .int .i64 (fstN D' m) ∧ u1 = s1 ∧ u2 = s2 ∧ iv = .int .i64 m ∧ w5 = wr) (fun _ _ _ iv _ => nn - (intOf iv).toNat)
          case atStart => exact ⟨0, _, _, by omega, rfl, rfl, rfl, rfl, rfl⟩
          case round =>
            obtain ⟨m, us1, us2, hm, rfl, rfl, rfl, rfl, rfl⟩ := hrel
            by_cases hlt2 : m < nn
            · have k2 : (0 : Int) ≤ (m : Int) := by omega
              have k3 : (m : Int) < (nn : Int) := by omega
              have k4 : decide (m < nn) = true := by simpa using hlt2
              have J := H5.out.rel.each m (by omega)
              have cm : w5.cell? ⟨gs, m, none⟩ = some (.int .i64 ((D'.cl m).st : Nat)) := by rw [← J.st]; exact HR5.out.st.at_ hlt2
              have PS := state_ldm (m : Int) H5.out.l
              rw [show stI D' (m : Int) = ((D'.cl m).st : Int) by unfold stI; rw [if_pos (by unfold isN; omega), Int.toNat_natCast]] at PS
              have HPS := Lib.hid PS
              have hf : Hid (fstN D' (m + 1) = if 2 ≤ (D'.cl m).st ∧ fstN D' m < 0 then (m : Int) else fstN D' m) := rfl
              clear PS J
              generalize (D'.cl m).st = z at *
              have tz : ((z : Int) != (z : Int)) = false := by simp
              by_cases h2 : 2 ≤ z
              · have d2 : decide ((2 : Int) ≤ (z : Int)) = true := by simp; omega
                have d3 : decide (2 ≤ z) = true := by simpa using h2
                by_cases h3 : fstN D' m < 0
                · have hf2 := hf.out
                  rw [if_pos ⟨h2, h3⟩] at hf2
                  have HF := Lib.hid hf2
                  have d4 : decide (fstN D' m < 0) = true := by simpa using h3
                  clear hf hf2
                  generalize fstN D' m = f at *
                  go_wp2_with (first
                    | (go_at_call 47; (with_reducible refine HPS.out.mono ?_); rintro e wq ⟨rfl, rfl⟩))
                  go_roundw
                  case rel => exact ⟨m + 1, _, _, by omega, by rw [HF.out], rfl, rfl, by go_num, by trivial⟩
                  case measure => simp [intOf]; omega
                · have hf2 := hf.out
                  rw [if_neg (fun x => h3 x.2)] at hf2
                  have HF := Lib.hid hf2
                  have d4 : decide (fstN D' m < 0) = false := by simpa using h3
                  clear hf hf2
                  generalize fstN D' m = f at *
                  go_wp2_with (first
                    | (go_at_call 47; (with_reducible refine HPS.out.mono ?_); rintro e wq ⟨rfl, rfl⟩))
                  go_roundw
                  case rel => exact ⟨m + 1, _, _, by omega, by rw [HF.out], rfl, rfl, by go_num, by trivial⟩
                  case measure => simp [intOf]; omega
              · have hf2 := hf.out
                rw [if_neg (fun x => h2 x.1)] at hf2
                have HF := Lib.hid hf2
                have d2 : decide ((2 : Int) ≤ (z : Int)) = false := by simp; omega
                have d3 : decide (2 ≤ z) = false := by simpa using h2
                clear hf hf2
                generalize fstN D' m = f at *
                go_wp2_with (first
                  | (go_at_call 47; (with_reducible refine HPS.out.mono ?_); rintro e wq ⟨rfl, rfl⟩))
                go_roundw
                case rel => exact ⟨m + 1, _, _, by omega, by rw [HF.out], rfl, rfl, by go_num, by trivial⟩
                case measure => simp [intOf]; omega
            · have hm2 : m = nn := by omega
              have k3 : ¬ (m : Int) < (nn : Int) := by omega
              have k4 : decide (m < nn) = false := by simpa using hlt2
              have PH := mhold_any H5.out.l.v H5.out.l.nice
              have hh := fst_hold D' nn 0 rfl
              rw [Nat.zero_add] at hh
              rw [hnn] at PH
              rw [← hm2] at hh PH
              rcases hh with ⟨e1, e2⟩ | ⟨j, e1, e2⟩
              · rw [e2] at PH
                have HPH := Lib.hid PH
                rw [e1]
                clear PH e1 e2 hm2
                go_wp2_with (first
                  | (go_at_call 48; (with_reducible refine HPH.out.mono ?_); rintro e wq ⟨rfl, rfl⟩))
                go_roundw
                case rel => exact ⟨i + 1, D', R', hlt, by go_num, H5.out⟩
                case measure => simp [intOf]; omega
              · rw [e2] at PH
                have HPH := Lib.hid PH
                rw [e1]
                have j0 : ¬ (j : Int) < 0 := by omega
                have j1 : (0 : Int) ≤ (j : Int) := by omega
                have j2 : ((j : Int) != (j : Int)) = false := by simp
                clear PH e1 e2 hm2
                go_wp2_with (first
                  | (go_at_call 48; (with_reducible refine HPH.out.mono ?_); rintro e wq ⟨rfl, rfl⟩))
                go_roundw
                case rel => exact ⟨i + 1, D', R', hlt, by go_num, H5.out⟩
                case measure => simp [intOf]; omega
      · obtain rfl : i = N := by omega
        have HBl : Hid (Below w.heap.size w wr) := hS.l.below
        clear hS HB
        go_wp2_with (first
          | (go_at_call 49; (with_reducible refine (lives29_any _).mono ?_); rintro e wl ⟨rfl, hl⟩; have HT3 := Lib.hid hl; clear hl))
        go_ret
        exact ⟨rfl, HBl.out.trans (HT3.out.mono HBl.out.size)⟩
end Go.Proofs.Ytckdabokaelnoaa
