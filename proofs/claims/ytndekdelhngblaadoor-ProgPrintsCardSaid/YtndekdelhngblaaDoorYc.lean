/- prog's Same: slices.Equal at instructions. -/
import Derived.Test.YtndekdelhngblaaDoorWz
import Derived.BigQuiet
namespace Go.Proofs.YtndekdelhngblaaDoor
open Go.RowKit

set_option maxRecDepth 100000 in
set_option maxHeartbeats 8000000 in
theorem equal_any (A A' : Option Addr) (l m : List I4) (cap cap' : Nat) (w : World) (hl : l.length ≤ 1000) (hm : m.length ≤ 1000) (hI : InsIn w A l) (hJ : InsIn w A' m) :
    Calls Tryd.prog 26 #[.slice A l.length cap, .slice A' m.length cap'] w (GotB w.heap.size (.bool (decide (l = m))) w) := by
  obtain ⟨n, hn⟩ : ∃ n, l.length = n := ⟨_, rfl⟩
  obtain ⟨k, hk⟩ : ∃ k, m.length = k := ⟨_, rfl⟩
  have HN := Lib.hid hn; have HK := Lib.hid hk
  rw [hn] at hl; rw [hk] at hm
  have HI := Lib.hid hI; have HJ := Lib.hid hJ
  clear hI hJ
  by_cases hnk : n = k
  · subst hnk
    have t1 : ((n : Int) != (n : Int)) = false := by simp
    rw [hn, hk]
    clear hn hk
    obtain ⟨R, hR⟩ : ∃ R, decide (l = m) = R := ⟨_, rfl⟩
    rw [hR]
    have HR := Lib.hid hR; clear hR
    go_enter Tryd.func26, Tryd.ntmps26
    go_wp2_with fail
    clear t1
    go_loopw [13] (fun i wr => ∃ k : Nat, k ≤ n ∧ i = .int .i64 k ∧ But Nob w wr ∧ ∀ j, j < k → l[j]? = m[j]?) (fun i _ => n - (intOf i).toNat)
    case atStart => exact ⟨0, Nat.zero_le _, rfl, But.refl _ _, fun j hj => absurd hj (by omega)⟩
    case round =>
      obtain ⟨k, hk, rfl, hG, hS⟩ := hrel
      have HG := Lib.hid hG; have HS := Lib.hid hS
      have hb : Below w.heap.size w wr := hG.below (Nat.le_refl _) fun _ _ q => q.elim
      have HBB := Lib.hid hb
      clear hG hS
      by_cases hlt : k < n
      · obtain ⟨x, hx⟩ : ∃ x, l[k]? = some x := ⟨_, List.getElem?_eq_getElem (by rw [HN.out]; exact hlt)⟩
        obtain ⟨y, hy⟩ : ∃ y, m[k]? = some y := ⟨_, List.getElem?_eq_getElem (by rw [HK.out]; exact hlt)⟩
        obtain ⟨-, bb, off, rfl, -, c0, c1, c2, c3⟩ := (HI.out.below hb) k x hx
        obtain ⟨-, bd, ofd, rfl, -, d0, d1, d2, d3⟩ := (HJ.out.below hb) k y hy
        have k0 : (0 : Int) ≤ (k : Int) := by omega
        have k1 : (k : Int) < (n : Int) := by omega
        have hne := fun w' => ins_neq x y w'
        unfold insV at hne
        have hgd := insGuard
        have HX := Lib.hid hx; have HY := Lib.hid hy
        clear hx hy hb
        by_cases e : x = y
        · have E := Lib.hid e
          rw [decide_eq_false (fun q : x ≠ y => q e)] at hne
          clear e
          go_wp2_with fail
          go_quiet (fail)
          go_wp2_with fail
          go_roundw
          case rel => exact ⟨k + 1, by omega, by go_num, HG.out.drewN _, fun j hj => by
            by_cases q : j = k
            · rw [q, HX.out, HY.out, E.out]
            · exact HS.out j (by omega)⟩
          case measure => simp [intOf]; omega
        · rw [decide_eq_true e] at hne
          have hd : decide (l = m) = false := by
            rw [decide_eq_false_iff_not]; rintro rfl
            exact e (Option.some.inj (HX.out.symm.trans HY.out))
          rw [HR.out] at hd
          subst hd
          clear e
          go_wp2_with fail
          go_quiet (fail)
          go_wp2_with fail
          go_ret
          exact ⟨rfl, HBB.out.drewN_ _⟩
      · obtain rfl : k = n := by omega
        have hd : decide (l = m) = true := by
          rw [decide_eq_true_iff]
          refine List.ext_getElem? fun j => ?_
          by_cases q : j < k
          · exact HS.out j q
          · rw [List.getElem?_eq_none (by rw [HN.out]; omega), List.getElem?_eq_none (by rw [HK.out]; omega)]
        rw [HR.out] at hd
        subst hd
        have t : ¬ (k : Int) < (k : Int) := by omega
        go_wp2_with fail
        go_ret
        exact ⟨rfl, HBB.out⟩
  · have t1 : ((n : Int) != (k : Int)) = true := by simp; omega
    have hd : decide (l = m) = false := by rw [decide_eq_false_iff_not]; rintro rfl; exact hnk (hn.symm.trans hk)
    rw [hd, hn, hk]
    clear hd hn hk hnk
    go_enter Tryd.func26, Tryd.ntmps26
    go_wp2
    go_ret
    exact ⟨rfl, Below.refl _ _⟩
set_option maxRecDepth 100000 in
set_option maxHeartbeats 4000000 in
theorem same_any (p q : Int) (A A' : Option Addr) (l m : List I4) (cap cap' : Nat) (w : World) (hl : l.length ≤ 1000) (hm : m.length ≤ 1000) (hI : InsIn w A l) (hJ : InsIn w A' m) :
    Calls Tryd.prog 14 #[.agg #[.int .i64 p, .slice A l.length cap], .agg #[.int .i64 q, .slice A' m.length cap']] w (GotB w.heap.size (.bool (decide (p = q ∧ l = m))) w) := by
  have h0 := (Blk.new w 24 #[.int .i64 p, .slice A l.length cap]).alloc (.cells #[.int .i64 q, .slice A' m.length cap'] 24)
  have h1 := Blk.new (w.alloc (.cells #[.int .i64 p, .slice A l.length cap] 24)) 24 #[.int .i64 q, .slice A' m.length cap']
  rw [World.size_alloc] at h1
  have hB : Below w.heap.size w ((w.alloc (.cells #[.int .i64 p, .slice A l.length cap] 24)).alloc (.cells #[.int .i64 q, .slice A' m.length cap'] 24)) := ((Below.refl _ _).alloc (Nat.le_refl _) _).alloc (by simp) _
  have x0 := h0.cell 0; have x1 := h0.cell 1; have y0 := h1.cell 0; have y1 := h1.cell 1
  simp only [List.getElem?_toArray, List.getElem?_cons_zero, List.getElem?_cons_succ] at x0 x1 y0 y1
  have HE := Lib.hid (equal_any A A' l m cap cap' _ hl hm (hI.below hB) (hJ.below hB))
  have HB := Lib.hid hB
  clear h0 h1 hB hI hJ hl hm
  generalize l.length = n at *
  generalize m.length = k at *
  by_cases hp : p = q
  · subst hp
    have t0 : (p == p) = true := by simp
    obtain ⟨R, hR⟩ : ∃ R, decide (l = m) = R := ⟨_, rfl⟩
    rw [show decide (p = p ∧ l = m) = decide (l = m) by simp, hR]
    rw [hR] at HE
    clear hR
    go_enter Tryd.func14, Tryd.ntmps14
    go_wp2_with (go_at_call 26; (with_reducible refine HE.out.mono ?_); rintro e w4 ⟨rfl, h4⟩; have H4 := Lib.hid h4; clear h4)
    go_ret
    exact ⟨rfl, HB.out.trans (H4.out.mono HB.out.size)⟩
  · have t0 : (p == q) = false := by simpa using hp
    rw [show decide (p = q ∧ l = m) = false by simp [hp]]
    clear hp
    go_enter Tryd.func14, Tryd.ntmps14
    go_wp2
    go_ret
    exact ⟨rfl, HB.out⟩
end Go.Proofs.YtndekdelhngblaaDoor
