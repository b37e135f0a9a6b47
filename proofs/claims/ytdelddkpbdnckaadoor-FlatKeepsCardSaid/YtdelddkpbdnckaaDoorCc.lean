/- prog's Check. -/
import Derived.Test.YtdelddkpbdnckaaDoorCh
namespace Go.Proofs.YtdelddkpbdnckaaDoor
open Go.RowKit

def CheckP (prio : Int) (l : List I4) (w : World) (e : Ending) (w' : World) : Prop :=
  e = .returned (.tuple #[.int .i64 (progE prio l).1, .int .i64 ((progE prio l).2 : Nat)]) ∧ Below w.heap.size w w'
theorem CheckP.mk {prio : Int} {l : List I4} {w w' : World} {e : Ending} {a : Int} {k : Nat} (h : progE prio l = (a, k)) (he : e = .returned (.tuple #[.int .i64 a, .int .i64 (k : Nat)])) (hb : Below w.heap.size w w') : CheckP prio l w e w' := by
  unfold CheckP; rw [h]; exact ⟨he, hb⟩
set_option maxRecDepth 100000 in
set_option maxHeartbeats 8000000 in
theorem check_any (prio : Int) (A : Option Addr) (l : List I4) (cap : Nat) (w : World) (hT : Tabs w) (hI : InsIn w A l) :
    Calls Tryd.prog 64 #[.agg #[.int .i64 prio, .slice A l.length cap]] w (CheckP prio l w) := by
  have HB := Lib.hid ((Below.refl w.heap.size w).alloc (Nat.le_refl _) (.cells #[.int .i64 prio, .slice A l.length cap] 53))
  by_cases hp : prio < 0 ∨ 3 < prio
  · have hE := Lib.hid (progE_size (l := l) hp)
    rcases hp with hp | hp
    · clear hT hI
      go_enter Tryd.func64, Tryd.ntmps64
      go_wp2
      go_ret2
      exact CheckP.mk hE.out rfl HB.out
    · have h0 : decide (prio < 0) = false := by simp; omega
      clear hT hI
      go_enter Tryd.func64, Tryd.ntmps64
      go_wp2
      go_ret2
      exact CheckP.mk hE.out rfl HB.out
  · have p0 : decide (prio < 0) = false := by simp; omega
    have p1 : decide (3 < prio) = false := by simp; omega
    have HPR := Lib.hid hp
    obtain ⟨n, hn⟩ : ∃ n, l.length = n := ⟨_, rfl⟩
    have HN := Lib.hid hn
    rw [hn]
    rw [hn] at HB
    by_cases hl : n = 0 ∨ 64 < n
    · have hE := Lib.hid (progE_len (l := l) hp (by rw [hn]; exact hl))
      rcases hl with hl | hl
      · have l0 : ((n : Int) == 0) = true := by simp; omega
        clear hT hI hn hl hp
        go_enter Tryd.func64, Tryd.ntmps64
        go_wp2
        go_ret2
        exact CheckP.mk hE.out rfl HB.out
      · have l0 : ((n : Int) == 0) = false := by simp; omega
        have l1 : (64 : Int) < (n : Int) := by omega
        clear hT hI hn hl hp
        go_enter Tryd.func64, Tryd.ntmps64
        go_wp2
        go_ret2
        exact CheckP.mk hE.out rfl HB.out
    · have l0 : ((n : Int) == 0) = false := by simp; omega
      have l1 : decide ((64 : Int) < (n : Int)) = false := by simp; omega
      have HL := Lib.hid hl
      have n64 : n ≤ 64 := by omega
      have n1 : 1 ≤ n := by omega
      have HT := Lib.hid hT; have HI := Lib.hid hI
      have hbw : w.heap.size < (w.alloc (.cells #[.int .i64 prio, .slice A n cap] 53)).heap.size := by simp
      have hblk := Blk.new w 53 #[.int .i64 prio, .slice A n cap]
      have HBL := Lib.hid hblk; have HBW := Lib.hid hbw
      clear hT hI hn hl hp hblk hbw
      go_enter Tryd.func64, Tryd.ntmps64
      go_wp2_with fail
      go_loopw [30] (fun i wr => ∃ k : Nat, k ≤ n ∧ i = .int .i64 k ∧ (codeE n (l.take k) 0).1 = 0 ∧ Below w.heap.size w wr ∧ Blk wr w.heap.size 53 #[.int .i64 prio, .slice A n cap]) (fun i _ => n - (intOf i).toNat)
      case atStart => exact ⟨0, Nat.zero_le _, rfl, rfl, HB.out, HBL.out⟩
      case round =>
        obtain ⟨k, hk, rfl, hc, hbel, hbk⟩ := hrel
        have HC := Lib.hid hc; have HBE := Lib.hid hbel; have HBK := Lib.hid hbk
        have x1 := hbk.cell 1
        have hlt := hbk.lt
        simp only [List.getElem?_toArray, List.getElem?_cons_zero, List.getElem?_cons_succ] at x1
        clear hc hbel hbk HB HBL HBW
        by_cases hkn : k < n
        · obtain ⟨x, hx⟩ : ∃ x, l[k]? = some x := ⟨_, List.getElem?_eq_getElem (by rw [HN.out]; exact hkn)⟩
          obtain ⟨ft, bb, off, rfl, hbb, c0, c1, c2, c3⟩ := (HI.out.below HBE.out) k x hx
          have hT2 := (HT.out.on HBE.out).alloc (.cells #[.int .i64 x.op, .int .i64 x.a, .int .i64 x.b, .int .i32 x.n] 59)
          have CI := Lib.hid (checkIns_any x.op x.a x.b x.n n _ hT2 (by omega) ft.n)
          have hbx := Blk.new wr 59 #[.int .i64 x.op, .int .i64 x.a, .int .i64 x.b, .int .i32 x.n]
          have y0 := hbx.cell 0; have y1 := hbx.cell 1; have y2 := hbx.cell 2; have y3 := hbx.cell 3
          simp only [List.getElem?_toArray, List.getElem?_cons_zero, List.getElem?_cons_succ] at y0 y1 y2 y3
          have k0 : (0 : Int) ≤ (k : Int) := by omega
          have k1 : (k : Int) < (n : Int) := by omega
          have hB2 := Lib.hid (HBE.out.alloc (by omega) (.cells #[.int .i64 x.op, .int .i64 x.a, .int .i64 x.b, .int .i32 x.n] 59))
          have HK2 : Hid (Blk (wr.alloc (.cells #[.int .i64 x.op, .int .i64 x.a, .int .i64 x.b, .int .i32 x.n] 59)) w.heap.size 53 #[.int .i64 prio, .slice (some ⟨bb, off, none⟩) n cap]) := (Below.heap_alloc _ _ _ hlt).trans HBK.out
          have HX := Lib.hid hx
          obtain ⟨E, hE⟩ : ∃ E, insE x n = E := ⟨_, rfl⟩
          have HE := Lib.hid hE
          have hxe : (⟨x.op, x.a, x.b, x.n⟩ : I4) = x := rfl
          rw [hxe, hE] at CI
          clear hE hx hbx hT2 ft hxe
          by_cases he : E = 0
          · have e0 : (E != 0) = false := by simp [he]
            subst he
            go_wp2_with (go_at_call 65; (with_reducible refine CI.out.mono ?_); rintro e w4 ⟨rfl, h4⟩; have H4 := Lib.hid h4; clear h4)
            go_roundw
            case rel =>
              have hz : w.heap.size ≤ (wr.alloc (.cells #[.int .i64 x.op, .int .i64 x.a, .int .i64 x.b, .int .i32 x.n] 59)).heap.size := by simp; omega
              exact ⟨k + 1, by omega, by go_num, codeE_on HC.out HX.out HE.out, hB2.out.trans (H4.out.mono hz), (H4.out.block _ (by simp; omega)).trans HK2.out⟩
            case measure => simp [intOf]; omega
          · have e0 : (E != 0) = true := by simp [he]
            have HNE := Lib.hid he
            clear he
            go_wp2_with (go_at_call 65; (with_reducible refine CI.out.mono ?_); rintro e w4 ⟨rfl, h4⟩; have H4 := Lib.hid h4; clear h4)
            go_ret2
            have hz : w.heap.size ≤ (wr.alloc (.cells #[.int .i64 x.op, .int .i64 x.a, .int .i64 x.b, .int .i32 x.n] 59)).heap.size := by simp; omega
            refine CheckP.mk (progE_code HPR.out (by rw [HN.out]; exact HL.out) ?_ HNE.out) rfl (hB2.out.trans (H4.out.mono hz))
            have := codeE_hit HC.out HX.out (by rw [HE.out]; exact HNE.out)
            rw [HE.out] at this
            rw [HN.out]; exact this
        · obtain rfl : k = n := by omega
          obtain ⟨x, hx⟩ : ∃ x, l[k - 1]? = some x := ⟨_, List.getElem?_eq_getElem (by rw [HN.out]; omega)⟩
          obtain ⟨ft, bb, off, rfl, hbb, c0, c1, c2, c3⟩ := (HI.out.below HBE.out) (k - 1) x hx
          have hlo : lastOp l = x.op := lastOp_at (by rw [HN.out]; exact hx)
          have hce : (codeE l.length l 0).1 = 0 := by
            have := HC.out
            rw [show l.take k = l by rw [← HN.out]; exact List.take_length] at this
            rw [HN.out]; exact this
          have hPE := progE_last HPR.out (by rw [HN.out]; exact HL.out) hce
          rw [hlo] at hPE
          obtain ⟨m, hm⟩ : ∃ m, k - 1 = m := ⟨_, rfl⟩
          have hkm : (k : Int) - 1 = (m : Int) := by omega
          have m0 : (0 : Int) ≤ (m : Int) := by omega
          have m1 : (m : Int) < (k : Int) := by omega
          have hPE2 : progE prio l = if x.op = 4 ∨ x.op = 14 then (0, 0) else (32, m) := by rw [hPE, HN.out, hm]
          rw [hm] at c0 c1 c2 c3
          have HPE := Lib.hid hPE2
          obtain ⟨op, xa, xb, xn⟩ := x
          dsimp only at c0 c1 c2 c3 HPE
          clear hPE hPE2 hce hlo hx hm ft HC c1 c2 c3
          by_cases h4 : op = 4
          · subst h4
            rw [if_pos (.inl rfl)] at HPE
            go_wp2_with fail
            go_ret2
            exact CheckP.mk HPE.out rfl HBE.out
          · by_cases h14 : op = 14
            · subst h14
              rw [if_pos (.inr rfl)] at HPE
              go_wp2_with fail
              go_ret2
              exact CheckP.mk HPE.out rfl HBE.out
            · rw [if_neg (by omega)] at HPE
              have q4 : (op != 4) = true := by simp [h4]
              have q14 : (op != 14) = true := by simp [h14]
              clear h4 h14
              go_wp2_with fail
              go_ret2
              exact CheckP.mk HPE.out rfl HBE.out
end Go.Proofs.YtdelddkpbdnckaaDoor
