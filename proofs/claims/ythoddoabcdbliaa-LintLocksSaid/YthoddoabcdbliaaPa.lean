/- The document's Goes of layer 26, in a program. -/
import Derived.Test.YthoddoabcdbliaaLu
namespace Go.Proofs.Ythoddoabcdbliaa
open Go.RowKit

theorem mem_nextP (x : I4) (k : Nat) (tg : Int) : decide (tg ∈ nextP x k) = (if x.op = 14 then false else if x.op = 4 then (tg == x.n) else if x.op = 5 then ((tg == x.n) || (tg == (k : Int) + 1)) else (tg == (k : Int) + 1)) := by
  unfold nextP
  by_cases h14 : x.op = 14
  · simp [h14]
  · rw [if_neg h14, if_neg h14]
    by_cases h4 : x.op = 4
    · rw [if_pos h4, if_pos h4]; simp; rfl
    · rw [if_neg h4, if_neg h4]
      by_cases h5 : x.op = 5
      · rw [if_pos h5, if_pos h5]
        by_cases e : x.n = (k : Int) + 1
        · rw [if_pos e, Bool.eq_iff_iff]; simp [e]
        · rw [if_neg e, Bool.eq_iff_iff]; simp; omega
      · rw [if_neg h5, if_neg h5]; simp; rfl
set_option maxRecDepth 100000 in
set_option maxHeartbeats 4000000 in
theorem goes_in (x : I4) (prio : Int) (A : Option Addr) (l : List I4) (cap k : Nat) (tg : Int) (w : World) (hI : InsIn w A l) (hx : l[k]? = some x) (hl : l.length ≤ 64) :
    Calls Try.prog 8 #[.agg #[.int .i64 prio, .slice A l.length cap], .int .i64 k, .int .i64 tg] w (GotB w.heap.size (.bool (decide (tg ∈ nextP x k))) w) := by
  have kl : k < l.length := (List.getElem?_eq_some_iff.1 hx).1
  have hb := Blk.new w 24 #[.int .i64 prio, .slice A l.length cap]
  have hB : Below w.heap.size w (w.alloc (.cells #[.int .i64 prio, .slice A l.length cap] 24)) := (Below.refl _ _).alloc (Nat.le_refl _) _
  obtain ⟨ft, bb, off, rfl, -, c0, c1, c2, c3⟩ := (hI.below hB) k x hx
  obtain ⟨n0, n1⟩ := ft.n
  have x0 := hb.cell 0; have x1 := hb.cell 1
  simp only [List.getElem?_toArray, List.getElem?_cons_zero, List.getElem?_cons_succ] at x0 x1
  have k0 : (0 : Int) ≤ (k : Int) := by omega
  have k1 : (k : Int) < (l.length : Int) := by omega
  have t0 : decide ((k : Int) < 0) = false := by simp
  have t1 : decide ((l.length : Int) ≤ (k : Int)) = false := by simp; omega
  rw [mem_nextP]
  obtain ⟨op, a, b, n⟩ := x
  dsimp only at c0 c1 c2 c3 n0 n1 ⊢
  have HB : Hid (Below w.heap.size w ((w.alloc (.cells #[.int .i64 prio, .slice (some ⟨bb, off, none⟩) l.length cap] 24)).alloc (.cells #[.int .i64 op, .int .i64 a, .int .i64 b, .int .i32 n] 41))) := hB.alloc (Nat.le_of_lt (by simp)) _
  obtain ⟨e1, he1⟩ : ∃ e, (tg == n) = e := ⟨_, rfl⟩
  obtain ⟨e2, he2⟩ : ∃ e, (tg == (k : Int) + 1) = e := ⟨_, rfl⟩
  rw [he1, he2]
  clear hI hx hb hB ft
  generalize l.length = N at *
  by_cases h14 : op = 14
  · subst h14
    rw [if_pos rfl]
    go_enter Try.func8, Try.ntmps8
    go_wp2_with fail
    go_ret
    exact ⟨rfl, HB.out⟩
  · rw [if_neg h14]
    have q14 : (op != 14) = true := by simpa using h14
    by_cases h4 : op = 4
    · subst h4
      rw [if_pos rfl]
      clear h14
      cases e1 with
      | true =>
        go_enter Try.func8, Try.ntmps8
        go_wp2_with fail
        go_ret
        exact ⟨by simp, HB.out⟩
      | false =>
        go_enter Try.func8, Try.ntmps8
        go_wp2_with fail
        go_ret
        exact ⟨by simp, HB.out⟩
    · rw [if_neg h4]
      have q4 : (op != 4) = true := by simpa using h4
      have q4' : (op == 4) = false := by simpa using h4
      by_cases h5 : op = 5
      · subst h5
        rw [if_pos rfl]
        clear h4 h14
        cases e1 with
        | true =>
          go_enter Try.func8, Try.ntmps8
          go_wp2_with fail
          go_ret
          exact ⟨by simp, HB.out⟩
        | false =>
          go_enter Try.func8, Try.ntmps8
          go_wp2_with fail
          go_ret
          exact ⟨by simp, HB.out⟩
      · rw [if_neg h5]
        have q5 : (op == 5) = false := by simpa using h5
        clear h4 h5 h14
        go_enter Try.func8, Try.ntmps8
        go_wp2_with fail
        go_ret
        exact ⟨by simp, HB.out⟩
end Go.Proofs.Ythoddoabcdbliaa
