/- lint's stops and onward. -/
import Derived.Test.YthoddoabcdbliaaPg
import Derived.Test.YthoddoabcdbliaaMh
import Derived.Deep.DeepCutAuto
namespace Go.Proofs.Ythoddoabcdbliaa
open Go.RowKit

set_option maxHeartbeats 4000000 in
theorem stops_any (op : Int) (w : World) (h : 1 ≤ op ∧ op ≤ 14) :
    Calls Try.prog 39 #[.int .i64 op] w fun e w' => e = .returned (.bool (decide (op = 6 ∨ (8 ≤ op ∧ op ≤ 11) ∨ op = 14))) ∧ w = w' := by
  have hl : op = 1 ∨ op = 2 ∨ op = 3 ∨ op = 4 ∨ op = 5 ∨ op = 6 ∨ op = 7 ∨ op = 8 ∨ op = 9 ∨ op = 10 ∨ op = 11 ∨ op = 12 ∨ op = 13 ∨ op = 14 := by omega
  clear h
  rcases hl with rfl | rfl | rfl | rfl | rfl | rfl | rfl | rfl | rfl | rfl | rfl | rfl | rfl | rfl
  all_goals
    go_enter Try.func39, Try.ntmps39
    go_wp2
    go_ret
    exact ⟨rfl, rfl⟩
theorem onT_row (l : List I4) (S : Nat → Bool) {k : Nat} {x : I4} (hx : l[k]? = some x) (j : Nat) : onT l S (k + 1) j = (onT l S k j || (S k && (!stopB x && decide ((j : Int) ∈ nextP x k)))) := by
  rw [onT, hx]
theorem take_more {ys : List Int} {z : Nat} {y : Int} (hy : ys[z]? = some y) (j : Int) : decide (j ∈ ys.take (z + 1)) = (decide (j ∈ ys.take z) || decide (j = y)) := by
  have hy' := (List.getElem?_eq_some_iff.1 hy).2
  rw [← List.take_append_getElem (List.getElem?_eq_some_iff.1 hy).1, hy']
  simp only [List.mem_append, List.mem_singleton, Bool.decide_or]
set_option maxRecDepth 100000 in
set_option maxHeartbeats 8000000 in
theorem onward_any (prio : Int) (A : Option Addr) (l : List I4) (cap : Nat) (S : Nat → Bool) (w : World) (hI : InsIn w A l) (hf : Fine prio l) :
    Calls Try.prog 33 #[.agg #[.int .i64 prio, .slice A l.length cap], .int .u64 (wordB S 64 : Nat)] w (GotB w.heap.size (.int .u64 (wordB (onT l S l.length) 64 : Nat)) w) := by
  have hlen := hf.len
  have hb := Blk.new w 24 #[.int .i64 prio, .slice A l.length cap]
  have hB1 : Below w.heap.size w (w.alloc (.cells #[.int .i64 prio, .slice A l.length cap] 24)) := (Below.refl _ _).alloc (Nat.le_refl _) _
  have HNX : Hid (∀ (W : World) (k : Nat) x, Below w.heap.size w W → l[k]? = some x → Calls Try.prog 12 #[.agg #[.int .i64 prio, .slice A l.length cap], .int .i64 k] W (NextP (nextP x k) W)) := fun W k x h hx => next_any x prio A l cap k W (hI.below h) hx hf
  have HOP : Hid (∀ (k : Nat) x, l[k]? = some x → (1 ≤ x.op ∧ x.op ≤ 14) ∧ (∀ y ∈ nextP x k, 0 ≤ y ∧ y < (l.length : Int)) ∧ (nextP x k).length ≤ 2) := fun k x hx => ⟨(hf.may hx (hI k x hx).1.n).op, nextP_in hf hx (hI k x hx).1.n, nextP_len x k⟩
  have HB := Lib.hid hb; have HB1 := Lib.hid hB1; have HI := Lib.hid hI
  obtain ⟨N, hN⟩ : ∃ N, l.length = N := ⟨_, rfl⟩
  have HN := Lib.hid hN
  rw [hN] at HB HB1 hlen HNX HOP ⊢
  have x0 := HB.out.cell 0; have x1 := HB.out.cell 1
  simp only [List.getElem?_toArray, List.getElem?_cons_zero, List.getElem?_cons_succ] at x0 x1
  clear hI hf hb hB1 hN
  go_enter Try.func33, Try.ntmps33
  go_wp2_with fail
  clear x0 x1
  have HW1 : Hid (Below w.heap.size w (w.alloc (.cells #[.int .i64 prio, .slice A N cap] 24)) ∧ Blk (w.alloc (.cells #[.int .i64 prio, .slice A N cap] 24)) w.heap.size 24 #[.int .i64 prio, .slice A N cap]) := ⟨HB1.out, HB.out⟩
  go_loopw [5, 13] (fun tv i wr => ∃ (k : Nat), tv = .int .u64 (wordB (onT l S k) 64 : Nat) ∧ i = .int .i64 k ∧ k ≤ N ∧ Below w.heap.size w wr ∧ Blk wr w.heap.size 24 #[.int .i64 prio, .slice A N cap]) (fun _ i _ => N - (intOf i).toNat)
  case atStart => exact ⟨0, by rw [show onT l S 0 = fun _ => false from rfl, show wordB (fun _ => false) 64 = 0 from by decide]; rfl, rfl, Nat.zero_le _, HW1.out⟩
  case round =>
    obtain ⟨k, rfl, rfl, hk, hbw, hbp⟩ := hrel
    have HBW := Lib.hid hbw; have HBP := Lib.hid hbp
    clear hbw hbp HW1 HB1 HB
    by_cases hlt : k < N
    · obtain ⟨x, hx⟩ : ∃ x, l[k]? = some x := ⟨_, List.getElem?_eq_getElem (by rw [HN.out]; exact hlt)⟩
      obtain ⟨ft, bb, off, rfl, hbb, c0, c1, c2, c3⟩ := (HI.out.below HBW.out) k x hx
      have k0 : (0 : Int) ≤ (k : Int) := by omega
      have k1 : (k : Int) < (N : Int) := by omega
      have HX := Lib.hid hx; have HON := Lib.hid (onT_row l S hx)
      obtain ⟨hop, hin, hl2⟩ := HOP.out k x hx
      have HST := Lib.hid (fun W => stops_any x.op W hop)
      have HHS := Lib.hid (has64_any S k)
      obtain ⟨xo, xa, xb, xn⟩ := x
      dsimp only at c0 c1 c2 c3 HST
      have HB2 : Hid (Below w.heap.size w (wr.alloc (.cells #[.int .i64 xo, .int .i64 xa, .int .i64 xb, .int .i32 xn] 41))) := HBW.out.alloc HBW.out.size _
      have HP2 : Hid (Blk (wr.alloc (.cells #[.int .i64 xo, .int .i64 xa, .int .i64 xb, .int .i32 xn] 41)) w.heap.size 24 #[.int .i64 prio, .slice (some ⟨bb, off, none⟩) N cap]) := HBP.out.alloc _
      have x0 := HP2.out.cell 0; have x1 := HP2.out.cell 1
      simp only [List.getElem?_toArray, List.getElem?_cons_zero, List.getElem?_cons_succ] at x0 x1
      have hxb := (Blk.new wr 41 #[.int .i64 xo, .int .i64 xa, .int .i64 xb, .int .i32 xn]).cell 0
      simp only [List.getElem?_toArray, List.getElem?_cons_zero] at hxb
      obtain ⟨b1, hb1⟩ : ∃ b, S k = b := ⟨_, rfl⟩
      obtain ⟨b2, hb2⟩ : ∃ b, stopB ⟨xo, xa, xb, xn⟩ = b := ⟨_, rfl⟩
      rw [show decide (xo = 6 ∨ 8 ≤ xo ∧ xo ≤ 11 ∨ xo = 14) = b2 from hb2] at HST
      rw [hb1, hb2] at HON
      have HS1 : Hid (∀ W : World, Calls Try.prog 22 #[.int .u64 (wordB S 64 : Nat), .int .i64 k] W fun e w' => e = .returned (.bool b1) ∧ W = w') := fun W => by rw [← hb1]; exact HHS.out W (by omega)
      have HNX2 := Lib.hid (HNX.out _ k _ HB2.out hx)
      clear hx ft hb1 hb2 HHS hop
      by_cases hgo : b1 = true ∧ b2 = false
      · obtain ⟨rfl, rfl⟩ := hgo
        obtain ⟨ys, hys⟩ : ∃ ys, nextP ⟨xo, xa, xb, xn⟩ k = ys := ⟨_, rfl⟩
        rw [hys] at HNX2 hin hl2 HON
        have HIN := Lib.hid hin
        clear hys hin
        go_wp2_with (first | (go_at_call 22; (with_reducible refine (HS1.out _).mono ?_); rintro e wq ⟨rfl, rfl⟩) | (go_at_call 39; (with_reducible refine (HST.out _).mono ?_); rintro e wq ⟨rfl, rfl⟩))
        refine HNX2.out.mono ?_
        rintro e w5 ⟨B5, cap5, rfl, hn5, hb5, -⟩
        dsimp only
        have HB5 := Lib.hid (HB2.out.trans (hb5.mono HB2.out.size)); have HP5 := Lib.hid (HP2.out.below hb5 HP2.out.lt); have HN5 := Lib.hid hn5
        clear hn5 hb5 HB2 HP2 HNX2 HNX x0 x1 hxb c0 c1 c2 c3 HBW HBP
        obtain ⟨m, hm⟩ : ∃ m, ys.length = m := ⟨_, rfl⟩
        have HM := Lib.hid hm
        rw [hm] at hl2 ⊢
        clear hm
        go_wp2_with fail
        go_loopw [5, 31] (fun tv i wx => ∃ (z : Nat), tv = .int .u64 (wordB (fun j => onT l S k j || decide ((j : Int) ∈ ys.take z)) 64 : Nat) ∧ i = .int .i64 z ∧ z ≤ m ∧ w5 = wx) (fun _ i _ => m - (intOf i).toNat)
        case atStart => exact ⟨0, by simp, rfl, Nat.zero_le _, rfl⟩
        case round =>
          obtain ⟨z, rfl, rfl, hz, rfl⟩ := hrel
          by_cases hzm : z < m
          · obtain ⟨y, hy⟩ : ∃ y, ys[z]? = some y := ⟨_, List.getElem?_eq_getElem (by rw [HM.out]; exact hzm)⟩
            obtain ⟨y0, y1⟩ := HIN.out y (List.mem_of_getElem? hy)
            obtain ⟨y, rfl⟩ : ∃ z : Nat, y = z := ⟨y.toNat, by omega⟩
            obtain ⟨bc, ofc, rfl, -, c0⟩ := HN5.out z _ hy
            have z0 : (0 : Int) ≤ (z : Int) := by omega
            have z1 : (z : Int) < (m : Int) := by omega
            have hy64 : y < 64 := by omega
            have H1 := Lib.hid (one_any y w5 hy64)
            have ho := or_one (fun j => onT l S k j || decide ((j : Int) ∈ ys.take z)) hy64
            have HNE : Hid ((fun n => (onT l S k n || decide ((n : Int) ∈ ys.take z)) || decide (n = y)) = fun j => onT l S k j || decide ((j : Int) ∈ ys.take (z + 1))) := by
              show _ = _
              funext j
              rw [take_more hy, Bool.or_assoc]
              congr 2
              rw [decide_eq_decide]; omega
            rw [HNE.out] at ho
            clear hy
            go_wp2_with (go_at_call 32; (with_reducible refine H1.out.mono ?_); rintro e wq ⟨rfl, rfl⟩)
            go_roundw
            case rel => exact ⟨z + 1, rfl, by go_num, by omega, trivial⟩
            case measure => simp [intOf]; omega
          · obtain rfl : z = m := by omega
            have tz : ¬ (z : Int) < (z : Int) := by omega
            have HRES : Hid (wordB (fun j => onT l S k j || decide ((j : Int) ∈ ys.take z)) 64 = wordB (onT l S (k + 1)) 64) := by
              show _ = _
              congr 1; funext j
              rw [HON.out j, List.take_of_length_le (by rw [HM.out]; exact Nat.le_refl _)]
              simp
            go_wp2_with fail
            go_roundw
            case rel => exact ⟨k + 1, by rw [← HRES.out], by go_num, by omega, HB5.out, HP5.out⟩
            case measure => simp [intOf]; omega
      · have hf : (b1 && (!b2)) = false := by cases b1 <;> cases b2 <;> simp_all
        have HON2 : Hid (wordB (onT l S k) 64 = wordB (onT l S (k + 1)) 64) := by
          show _ = _
          congr 1; funext j
          rw [HON.out j, ← Bool.and_assoc, hf, Bool.false_and, Bool.or_false]
        clear HNX2 HNX hin hl2
        cases b1 with
        | false =>
          go_wp2_with (go_at_call 22; (with_reducible refine (HS1.out _).mono ?_); rintro e wq ⟨rfl, rfl⟩)
          go_roundw
          case rel => exact ⟨k + 1, by rw [← HON2.out], by go_num, by omega, HB2.out, HP2.out⟩
          case measure => simp [intOf]; omega
        | true =>
          obtain rfl : b2 = true := by cases b2 <;> simp_all
          go_wp2_with (first | (go_at_call 22; (with_reducible refine (HS1.out _).mono ?_); rintro e wq ⟨rfl, rfl⟩) | (go_at_call 39; (with_reducible refine (HST.out _).mono ?_); rintro e wq ⟨rfl, rfl⟩))
          go_roundw
          case rel => exact ⟨k + 1, by rw [← HON2.out], by go_num, by omega, HB2.out, HP2.out⟩
          case measure => simp [intOf]; omega
    · obtain rfl : k = N := by omega
      have t : ¬ (k : Int) < (k : Int) := by omega
      go_wp2_with fail
      go_ret
      exact ⟨rfl, HBW.out⟩
set_option maxRecDepth 100000 in
set_option maxHeartbeats 8000000 in
theorem Straight_any (prio : Int) (A : Option Addr) (l : List I4) (cap pc : Nat) (w : World) (hI : InsIn w A l) (hf : Fine prio l) (hpc : pc < l.length) :
    Calls Try.prog 18 #[.agg #[.int .i64 prio, .slice A l.length cap], .int .i64 pc] w fun e w' => ∃ r, e = .returned (.int .i64 r) ∧ StrR l pc r ∧ Below w.heap.size w w' := by
  have hlen := hf.len
  have hb := Blk.new w 24 #[.int .i64 prio, .slice A l.length cap]
  have hB1 : Below w.heap.size w (w.alloc (.cells #[.int .i64 prio, .slice A l.length cap] 24)) := (Below.refl _ _).alloc (Nat.le_refl _) _
  have HP := isPlace_any prio A l.length cap pc (w.alloc (.cells #[.int .i64 prio, .slice A l.length cap] 24)) hlen.2
  rw [decide_eq_true (by omega)] at HP
  have HP := Lib.hid HP
  have HON : Hid (∀ (W : World) (S : Nat → Bool), Below w.heap.size w W → Calls Try.prog 33 #[.agg #[.int .i64 prio, .slice A l.length cap], .int .u64 (wordB S 64 : Nat)] W (GotB W.heap.size (.int .u64 (wordB (onT l S l.length) 64 : Nat)) W)) := fun W S h => onward_any prio A l cap S W (hI.below h) hf
  have HZ : Hid (∀ n, (wordB (itS l pc n) 64 = 0 ↔ ¬ Way l n pc)) := fun n => by
    rw [← itS_some l pc n]
    constructor
    · intro h0 ⟨j, hj⟩
      have hjl := itS_in hf (fun k x hx => (hI k x hx).1.n) hpc n hj
      have := congrArg (·.testBit j) h0
      simp only [wordB_testBit, hj, Nat.zero_testBit, Bool.and_true, decide_eq_false_iff_not] at this
      omega
    · intro h
      apply Nat.eq_of_testBit_eq; intro j
      rw [wordB_testBit, Nat.zero_testBit]
      cases e : itS l pc n j with
      | false => simp
      | true => exact absurd ⟨j, e⟩ h
  have H1 := Lib.hid (one_any pc · (show pc < 64 by omega))
  have HSR : Hid (∀ r, StrR l pc r ↔ ((∃ n : Nat, r = n ∧ n < l.length ∧ Way l n pc ∧ ¬ Way l (n + 1) pc) ∨ (r = -1 ∧ Way l l.length pc))) := fun r => Iff.rfl
  have HIT : Hid (∀ n, onT l (itS l pc n) l.length = itS l pc (n + 1)) := fun n => rfl
  have HB := Lib.hid hb; have HB1 := Lib.hid hB1
  clear hI hf hb hB1
  generalize l.length = N at *
  have x0 := HB.out.cell 0; have x1 := HB.out.cell 1
  simp only [List.getElem?_toArray, List.getElem?_cons_zero, List.getElem?_cons_succ] at x0 x1
  go_enter Try.func18, Try.ntmps18
  go_wp2_with fail
  refine HP.out.mono ?_
  rintro e w2 ⟨rfl, h2⟩
  dsimp only
  have HP2 := Lib.hid (HB.out.below h2 HB.out.lt); have HB2 := Lib.hid (HB1.out.trans (h2.mono HB1.out.size))
  clear h2 x0 x1 HB HB1 HP
  have x0 := HP2.out.cell 0; have x1 := HP2.out.cell 1
  simp only [List.getElem?_toArray, List.getElem?_cons_zero, List.getElem?_cons_succ] at x0 x1
  have hone : ((2 : Int) ^ pc) = ((wordB (itS l pc 0) 64 : Nat) : Int) := by
    rw [pow_cast, ← wordB_one (show pc < 64 by omega)]; rfl
  rw [hone] at H1
  clear hone
  go_wp2_with (go_at_call 32; (with_reducible refine (H1.out _).mono ?_); rintro e wq ⟨rfl, rfl⟩)
  clear x0 x1
  go_loopw [5, 16] (fun tv i wr => ∃ (n : Nat), tv = .int .u64 (wordB (itS l pc n) 64 : Nat) ∧ i = .int .i64 n ∧ n ≤ N ∧ Way l n pc ∧ Below w2.heap.size w2 wr) (fun _ i _ => N - (intOf i).toNat)
  case atStart => exact ⟨0, rfl, rfl, Nat.zero_le _, trivial, Below.refl _ _⟩
  case round =>
    obtain ⟨n, rfl, rfl, hn, hway, hbw⟩ := hrel
    have HWAY := Lib.hid hway
    have HBW := Lib.hid (HB2.out.trans (hbw.mono HB2.out.size)); have HPW := Lib.hid (HP2.out.below hbw HP2.out.lt); have HBR := Lib.hid hbw
    clear hway hbw
    by_cases hlt : n < N
    · have x0 := HPW.out.cell 0; have x1 := HPW.out.cell 1
      simp only [List.getElem?_toArray, List.getElem?_cons_zero, List.getElem?_cons_succ] at x0 x1
      have n0 : (0 : Int) ≤ (n : Int) := by omega
      have n1 : (n : Int) < (N : Int) := by omega
      have HO := HON.out wr (itS l pc n) HBW.out
      rw [HIT.out n] at HO
      have HO := Lib.hid HO
      have hz := HZ.out (n + 1)
      obtain ⟨u, hu⟩ : ∃ u, wordB (itS l pc (n + 1)) 64 = u := ⟨_, rfl⟩
      have HU := Lib.hid hu
      rw [hu] at HO hz
      have HZN := Lib.hid hz
      clear hz hu
      by_cases h0 : u = 0
      · subst h0
        go_wp2_with (go_at_call 33; (with_reducible refine HO.out.mono ?_); rintro e w4 ⟨rfl, h4⟩; have H4 := Lib.hid h4; clear h4)
        go_ret
        exact ⟨n, rfl, (HSR.out _).2 (.inl ⟨n, rfl, hlt, HWAY.out, HZN.out.1 trivial⟩), HBW.out.trans (H4.out.mono HBW.out.size)⟩
      · have t0 : ((u : Int) == 0) = false := by simpa using h0
        have HWN : Hid (Way l (n + 1) pc) := Classical.not_not.1 fun q => h0 (HZN.out.2 q)
        go_wp2_with (go_at_call 33; (with_reducible refine HO.out.mono ?_); rintro e w4 ⟨rfl, h4⟩; have H4 := Lib.hid h4; clear h4)
        go_roundw
        case rel => exact ⟨n + 1, by rw [HU.out], by go_num, by omega, HWN.out, HBR.out.trans (H4.out.mono HBR.out.size)⟩
        case measure => simp [intOf]; omega
    · obtain rfl : n = N := by omega
      have t : ¬ (n : Int) < (n : Int) := by omega
      go_wp2_with fail
      go_ret
      exact ⟨-1, rfl, (HSR.out _).2 (.inr ⟨rfl, HWAY.out⟩), HBW.out⟩
end Go.Proofs.Ythoddoabcdbliaa
