/- prog's parseHead at the example's first line; the document's Same. -/
import Derived.Test.YtndekdelhngblaaDoorWt
import Derived.Test.YtndekdelhngblaaDoorRi
import Derived.Test.YtndekdelhngblaaDoorEq
import Derived.BigQuiet
namespace Go.Proofs.YtndekdelhngblaaDoor
open Go.RowKit

set_option maxHeartbeats 4000000 in
theorem parseHead_1 (w : World) (hT : Tabs w) : Calls Tryd.prog 30 #[.string ⟨#[112, 114, 111, 103, 32, 49]⟩] w fun e w' => e = .returned (.tuple #[.int .i64 1, .bool true]) ∧ Below w.heap.size w w' := by
  have HP0 : Hid (∀ W, Tabs W → Calls Tryd.prog 22 #[.int .i64 0] W fun e w' => e = .returned (.string ⟨#[112, 114, 111, 103, 32, 48]⟩) ∧ Below W.heap.size W w') := fun W hW => by
    have := printHead_any 0 (by unfold In64; omega) W hW
    rw [show headL 0 = [112, 114, 111, 103, 32, 48] from by decide +kernel] at this; exact this
  have HP1 : Hid (∀ W, Tabs W → Calls Tryd.prog 22 #[.int .i64 1] W fun e w' => e = .returned (.string ⟨#[112, 114, 111, 103, 32, 49]⟩) ∧ Below W.heap.size W w') := fun W hW => by
    have := printHead_any 1 (by unfold In64; omega) W hW
    rw [show headL 1 = [112, 114, 111, 103, 32, 49] from by decide +kernel] at this; exact this
  have HT := Lib.hid hT
  clear hT
  go_enter Tryd.func30, Tryd.ntmps30
  go_wp2_with fail
  go_loopw [5] (fun i wr => (i = .int .i64 0 ∨ i = .int .i64 1) ∧ Below w.heap.size w wr) (fun i _ => 4 - (intOf i).toNat)
  case atStart => exact ⟨.inl rfl, Below.refl _ _⟩
  case round =>
    obtain ⟨h, hb⟩ := hrel
    have HT2 := Lib.hid (HT.out.on hb); have HB := Lib.hid hb
    clear hb
    rcases h with rfl | rfl
    · go_wp2_with (go_at_call 22; (with_reducible refine (HP0.out _ HT2.out).mono ?_); rintro e w4 ⟨rfl, h4⟩; have H4 := Lib.hid h4; clear h4)
      go_roundw
      case rel => exact ⟨.inr rfl, HB.out.trans (H4.out.mono HB.out.size)⟩
      case measure => decide
    · go_wp2_with (go_at_call 22; (with_reducible refine (HP1.out _ HT2.out).mono ?_); rintro e w4 ⟨rfl, h4⟩; have H4 := Lib.hid h4; clear h4)
      go_ret2
      exact ⟨rfl, HB.out.trans (H4.out.mono HB.out.size)⟩
set_option maxRecDepth 100000 in
set_option maxHeartbeats 8000000 in
theorem refSame_any (p q : Int) (A A' : Option Addr) (l m : List I4) (cap cap' : Nat) (w : World) (hl : l.length ≤ 1000) (hI : InsIn w A l) (hJ : InsIn w A' m) :
    Calls Tryd.prog 15 #[.agg #[.int .i64 p, .slice A l.length cap], .agg #[.int .i64 q, .slice A' m.length cap']] w (GotB w.heap.size (.bool (decide (p = q ∧ l = m))) w) := by
  have h0 := Blk.new w 24 #[.int .i64 p, .slice A l.length cap]
  have h1 := Blk.new (w.alloc (.cells #[.int .i64 p, .slice A l.length cap] 24)) 24 #[.int .i64 q, .slice A' m.length cap']
  rw [World.size_alloc] at h1
  have hB : Below w.heap.size w ((w.alloc (.cells #[.int .i64 p, .slice A l.length cap] 24)).alloc (.cells #[.int .i64 q, .slice A' m.length cap'] 24)) := ((Below.refl _ _).alloc (Nat.le_refl _) _).alloc (by simp) _
  have h0' := h0.alloc (.cells #[.int .i64 q, .slice A' m.length cap'] 24)
  have x0 := h0'.cell 0; have x1 := h0'.cell 1; have y0 := h1.cell 0; have y1 := h1.cell 1
  simp only [List.getElem?_toArray, List.getElem?_cons_zero, List.getElem?_cons_succ] at x0 x1 y0 y1
  have HB := Lib.hid hB; have HI := Lib.hid (hI.below hB); have HJ := Lib.hid (hJ.below hB)
  have H0 := Lib.hid h0'; have H1 := Lib.hid h1
  clear h0 h0' h1 hB hI hJ
  obtain ⟨n, hn⟩ : ∃ n, l.length = n := ⟨_, rfl⟩
  obtain ⟨k, hk⟩ : ∃ k, m.length = k := ⟨_, rfl⟩
  have HN := Lib.hid hn; have HK := Lib.hid hk
  rw [hn] at hl x1; rw [hk] at y1
  by_cases hp : p = q
  · subst hp
    have t0 : (p != p) = false := by simp
    by_cases hnk : n = k
    · subst hnk
      have t1 : ((n : Int) != (n : Int)) = false := by simp
      rw [hn, hk]
      rw [HN.out, HK.out] at HB H0 H1 HI HJ
      obtain ⟨R, hR⟩ : ∃ R, decide (l = m) = R := ⟨_, rfl⟩
      rw [show decide (p = p ∧ l = m) = decide (l = m) by simp, hR]
      have HR := Lib.hid hR; clear hR
      have HLM := Lib.hid (hn.trans hk.symm)
      clear hn hk
      go_enter Tryd.func15, Tryd.ntmps15
      go_wp2_with fail
      generalize (w.alloc (.cells #[.int .i64 p, .slice A n cap] 24)).alloc (.cells #[.int .i64 p, .slice A' n cap'] 24) = W at *
      clear x0 x1 y0 y1 t0 t1
      go_loopw [23] (fun i wr => ∃ k : Nat, k ≤ n ∧ i = .int .i64 k ∧ But Nob W wr ∧ ∀ j, j < k → l[j]? = m[j]?) (fun i _ => n - (intOf i).toNat)
      case atStart => exact ⟨0, Nat.zero_le _, rfl, But.refl _ _, fun j hj => absurd hj (by omega)⟩
      case round =>
        obtain ⟨k, hk, rfl, hG, hS⟩ := hrel
        have HG := Lib.hid hG; have HS := Lib.hid hS
        have hb : Below W.heap.size W wr := hG.below (Nat.le_refl _) fun _ _ q => q.elim
        have hBB : Below w.heap.size w wr := HB.out.trans (hb.mono HB.out.size)
        have HBB := Lib.hid hBB
        have x1 := (H0.out.but hG id).cell 1; have y1 := (H1.out.but hG id).cell 1
        simp only [List.getElem?_toArray, List.getElem?_cons_zero, List.getElem?_cons_succ] at x1 y1
        clear hG hS hBB
        by_cases hlt : k < n
        · obtain ⟨x, hx⟩ : ∃ x, l[k]? = some x := ⟨_, List.getElem?_eq_getElem (by rw [HN.out]; exact hlt)⟩
          obtain ⟨y, hy⟩ : ∃ y, m[k]? = some y := ⟨_, List.getElem?_eq_getElem (by rw [HK.out]; exact hlt)⟩
          obtain ⟨-, bb, off, rfl, -, c0, c1, c2, c3⟩ := (HI.out.below hb) k x hx
          obtain ⟨-, bd, ofd, rfl, -, d0, d1, d2, d3⟩ := (HJ.out.below hb) k y hy
          have k0 : (0 : Int) ≤ (k : Int) := by omega
          have k1 : (k : Int) < (n : Int) := by omega
          have hne := fun w' => ins_neq x y w'
          unfold insV at hne
          have hgd := insGuard
          have HX := Lib.hid hx; have HY := Lib.hid hy
          clear hx hy hb
          by_cases e : x = y
          · have E := Lib.hid e
            rw [decide_eq_false (fun q : x ≠ y => q e)] at hne
            clear e
            go_wp2_with fail
            go_quiet (fail)
            go_wp2_with fail
            go_roundw
            case rel => exact ⟨k + 1, by omega, by go_num, HG.out.drewN _, fun j hj => by
              by_cases q : j = k
              · rw [q, HX.out, HY.out, E.out]
              · exact HS.out j (by omega)⟩
            case measure => simp [intOf]; omega
          · rw [decide_eq_true e] at hne
            have hd : decide (l = m) = false := by
              rw [decide_eq_false_iff_not]; rintro rfl
              exact e (Option.some.inj (HX.out.symm.trans HY.out))
            rw [HR.out] at hd
            subst hd
            clear e
            go_wp2_with fail
            go_quiet (fail)
            go_wp2_with fail
            go_ret
            exact ⟨rfl, HBB.out.drewN_ _⟩
        · obtain rfl : k = n := by omega
          have hd : decide (l = m) = true := by
            rw [decide_eq_true_iff]
            refine List.ext_getElem? fun j => ?_
            by_cases q : j < k
            · exact HS.out j q
            · rw [List.getElem?_eq_none (by rw [HN.out]; omega), List.getElem?_eq_none (by rw [HK.out]; omega)]
          rw [HR.out] at hd
          subst hd
          have t : ¬ (k : Int) < (k : Int) := by omega
          go_wp2_with fail
          go_ret
          exact ⟨rfl, HBB.out⟩
    · have t1 : ((n : Int) != (k : Int)) = true := by simp; omega
      have hd : decide (p = p ∧ l = m) = false := by simp; rintro rfl; exact hnk (hn.symm.trans hk)
      rw [hd]
      have HD := Lib.hid hd
      rw [hn, hk]
      clear hd hn hk hnk
      rw [HN.out, HK.out] at HB
      go_enter Tryd.func15, Tryd.ntmps15
      go_wp2
      go_ret
      exact ⟨rfl, HB.out⟩
  · have t0 : (p != q) = true := by simpa using hp
    have hd : decide (p = q ∧ l = m) = false := by simp [hp]
    rw [hd, hn, hk]
    rw [HN.out, HK.out] at HB
    clear hd hn hk
    go_enter Tryd.func15, Tryd.ntmps15
    go_wp2
    go_ret
    exact ⟨rfl, HB.out⟩
end Go.Proofs.YtndekdelhngblaaDoor
