/- The document's SameWords; ExecRuns' walk. -/
import Derived.Test.YtdjdmkgiidbnnaaDoorR2
import Derived.Test.YtdjdmkgiidbnnaaDoorR3
import Derived.Test.YtdjdmkgiidbnnaaDoorH1
namespace Go.Proofs.YtdjdmkgiidbnnaaDoor
open Go.RowKit

set_option maxRecDepth 100000 in
set_option maxHeartbeats 8000000 in
theorem sameWords_any (A A' : Option Addr) (l m : List Int) (cap cap' : Nat) (w : World) (hl : l.length ≤ 100000) (hm : m.length ≤ 100000) (hI : WordsIn w A l) (hJ : WordsIn w A' m) :
    Calls Tryd.prog 14 #[.slice A l.length cap, .slice A' m.length cap'] w (GotB w.heap.size (.bool (decide (l = m))) w) := by
  obtain ⟨n, hn⟩ : ∃ n, l.length = n := ⟨_, rfl⟩
  obtain ⟨k, hk⟩ : ∃ k, m.length = k := ⟨_, rfl⟩
  have HN := Lib.hid hn; have HK := Lib.hid hk
  rw [hn] at hl; rw [hk] at hm
  have HI := Lib.hid hI; have HJ := Lib.hid hJ
  clear hI hJ
  by_cases hnk : n = k
  · subst hnk
    have t1 : ((n : Int) != (n : Int)) = false := by simp
    rw [hn, hk]
    clear hn hk
    obtain ⟨R, hR⟩ : ∃ R, decide (l = m) = R := ⟨_, rfl⟩
    rw [hR]
    have HR := Lib.hid hR; clear hR
    go_enter Tryd.func14, Tryd.ntmps14
    go_wp2_with fail
    clear t1
    go_loopw [13] (fun i wr => ∃ k : Nat, k ≤ n ∧ i = .int .i64 k ∧ But Nob w wr ∧ ∀ j, j < k → l[j]? = m[j]?) (fun i _ => n - (intOf i).toNat)
    case atStart => exact ⟨0, Nat.zero_le _, rfl, But.refl _ _, fun j hj => absurd hj (by omega)⟩
    case round =>
      obtain ⟨k, hk, rfl, hG, hS⟩ := hrel
      have HG := Lib.hid hG; have HS := Lib.hid hS
      have hb : Below w.heap.size w wr := hG.below (Nat.le_refl _) fun _ _ q => q.elim
      have HBB := Lib.hid hb
      clear hG hS
      by_cases hlt : k < n
      · obtain ⟨x, hx⟩ : ∃ x, l[k]? = some x := ⟨_, List.getElem?_eq_getElem (by rw [HN.out]; exact hlt)⟩
        obtain ⟨y, hy⟩ : ∃ y, m[k]? = some y := ⟨_, List.getElem?_eq_getElem (by rw [HK.out]; exact hlt)⟩
        obtain ⟨bb, off, rfl, -, c0⟩ := (HI.out.below hb) k x hx
        obtain ⟨bd, ofd, rfl, -, d0⟩ := (HJ.out.below hb) k y hy
        have k0 : (0 : Int) ≤ (k : Int) := by omega
        have k1 : (k : Int) < (n : Int) := by omega
        have HX := Lib.hid hx; have HY := Lib.hid hy
        clear hx hy hb
        by_cases e : x = y
        · have E := Lib.hid e
          have t : (x != y) = false := by simp [e]
          clear e
          go_wp2_with fail
          go_quiet (fail)
          go_wp2_with fail
          go_roundw
          case rel => exact ⟨k + 1, by omega, by go_num, HG.out.drewN _, fun j hj => by
            by_cases q : j = k
            · rw [q, HX.out, HY.out, E.out]
            · exact HS.out j (by omega)⟩
          case measure => simp [intOf]; omega
        · have t : (x != y) = true := by simpa using e
          have hd : decide (l = m) = false := by
            rw [decide_eq_false_iff_not]; rintro rfl
            exact e (Option.some.inj (HX.out.symm.trans HY.out))
          rw [HR.out] at hd
          subst hd
          clear e
          go_wp2_with fail
          go_quiet (fail)
          go_wp2_with fail
          go_ret
          exact ⟨rfl, HBB.out.drewN_ _⟩
      · obtain rfl : k = n := by omega
        have hd : decide (l = m) = true := by
          rw [decide_eq_true_iff]
          refine List.ext_getElem? fun j => ?_
          by_cases q : j < k
          · exact HS.out j q
          · rw [List.getElem?_eq_none (by rw [HN.out]; omega), List.getElem?_eq_none (by rw [HK.out]; omega)]
        rw [HR.out] at hd
        subst hd
        have t : ¬ (k : Int) < (k : Int) := by omega
        go_wp2_with fail
        go_ret
        exact ⟨rfl, HBB.out⟩
  · have t1 : ((n : Int) != (k : Int)) = true := by simp; omega
    have hd : decide (l = m) = false := by rw [decide_eq_false_iff_not]; rintro rfl; exact hnk (hn.symm.trans hk)
    rw [hd, hn, hk]
    clear hd hn hk hnk
    go_enter Tryd.func14, Tryd.ntmps14
    go_wp2
    go_ret
    exact ⟨rfl, Below.refl _ _⟩
theorem runF_len (prio : Int) (l : List I4) : ∀ (k : Nat) (pc : Int) (r : R4) (t : List Int), (runF prio l k pc r t).told.length ≤ t.length + k
  | 0, _, _, _ => Nat.le_refl _
  | k + 1, pc, r, t => by
    unfold runF
    split
    · have := runF_len prio l k (stepF prio l pc r).pc (stepF prio l pc r).r (t ++ [(stepF prio l pc r).e.n])
      simp at this ⊢; omega
    · split
      · have := runF_len prio l k (stepF prio l pc r).pc (stepF prio l pc r).r t
        omega
      · show t.length ≤ _; omega
/-- Two rows of words of a call's own. -/
theorem same_own {B B' : Nat} {u v : Value} {l : List Int} {w : World} (h : Mine B u l w) (h' : Mine B' v l w) (hl : l.length ≤ 100000) : Calls Tryd.prog 14 #[u, v] w (GotB w.heap.size (.bool true) w) := by
  obtain ⟨A, cap, rfl, hA⟩ := h.words
  obtain ⟨A', cap', rfl, hA'⟩ := h'.words
  have := sameWords_any A A' l l cap cap' w hl hl hA hA'
  rwa [decide_eq_true rfl] at this
end Go.Proofs.YtdjdmkgiidbnnaaDoor
