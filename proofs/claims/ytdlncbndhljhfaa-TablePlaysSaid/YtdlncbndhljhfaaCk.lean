/- chain.New: the rows as the laws see them (as XCk of tpl5, its first part). -/
import Derived.Test.YtdlncbndhljhfaaCn
import Derived.Test.YtdlncbndhljhfaaCt
namespace Go.Proofs.Ytdlncbndhljhfaa
open Go.RowKit

theorem pats_at (n i : Nat) (h : i < n) : (pats (n * 3))[i * 3]? = some (.int .i64 (-1)) ∧ (pats (n * 3))[i * 3 + 1]? = some (.int .i64 0) ∧ (pats (n * 3))[i * 3 + 2]? = some (.int .i64 0) := by
  refine ⟨?_, ?_, ?_⟩ <;> rw [pats_get (by omega)] <;> unfold pat
  · rw [if_pos (by omega)]
  · rw [if_neg (by omega)]
  · rw [if_neg (by omega)]
def newR (n : Nat) : Nat → Int := fun i => if i < n then -1 else ((i - n : Nat) : Int)
def newA (n : Nat) : Nat → Int := fun i => if i < n then 0 else (i : Int)
theorem new_chi (n m : Nat) : ChI n m (newR n) (newA n) (newA n) (fun _ => 0) (fun _ => []) := by
  refine ⟨fun k _ => ?_, fun k _ x hx => by simp at hx, fun x hx => .inl ⟨if_pos hx, fun _ _ h => by simp at h⟩, fun _ _ => by simp, fun _ _ => by simp⟩
  refine ⟨⟨?_, ?_⟩, trivial⟩ <;> exact if_neg (by omega)
theorem mk_ch {w W : World} {b gn n m : Nat} (hn : n ≤ 4096) (hm : m ≤ 4096) (h : Mk w b gn n m m W) : ∃ gl, Ch b gl gn n m (fun _ => []) W ∧ But Nob w W ∧ ∀ k, Own3 b gl gn k → w.heap.size ≤ k := by
  obtain ⟨g, cp, hown, hst, ⟨Z, z1, z2, z3⟩, e1, e2, e3, l1, l2, l3, hG⟩ := h
  refine ⟨g, ⟨cp, m, newR n, newA n, newA n, fun _ => 0, ?_, new_chi n m⟩, hG, ?_⟩
  · obtain ⟨hl, h0 | ⟨g2, cap2, cur, hv, hb, hh, hc1, hc2, hc3, hc4⟩⟩ := hown
    · simp at h0
    · cases hv
      have hsz : (n + m) * 3 ≤ cur.size := by
        have := congrArg List.length hc4
        rw [List.length_take, hl] at this
        have h2 : cur.toList.length = cur.size := rfl
        omega
      refine ⟨hn, hm, hc1, Nat.le_refl _, e1, e3, e2, hst, ⟨cur, hsz, hh, fun i hi => ?_⟩, ⟨Z.toArray, by simp [z2], z1, fun k hk => by simpa using z3 k hk⟩⟩
      have hget : ∀ j, j < (n + m) * 3 → cur[j]? = (pats (n * 3) ++ owns n m)[j]? := fun j hj => by
        rw [← hc4, List.getElem?_take, if_pos (by first | exact hj | (rw [Nat.mul_comm] at hj; exact hj))]; simp
      rw [hget _ (by omega), hget _ (by omega), hget _ (by omega)]
      by_cases q : i < n
      · obtain ⟨p0, p1, p2⟩ := pats_at n i q
        refine ⟨?_, ?_, ?_⟩ <;> rw [List.getElem?_append_left (by rw [pats_length]; omega)]
        · rw [p0]; unfold newR; rw [if_pos q]
        · rw [p1]; unfold newA; rw [if_pos q]
        · rw [p2]; unfold newA; rw [if_pos q]
      · obtain ⟨p0, p1, p2⟩ := owns_get n m (i - n) (by omega)
        have hi' : ((n + (i - n) : Nat) : Int) = (i : Int) := by omega
        refine ⟨?_, ?_, ?_⟩ <;> rw [List.getElem?_append_right (by rw [pats_length]; omega), pats_length]
        · rw [show i * 3 - n * 3 = (i - n) * 3 by omega, p0]; unfold newR; rw [if_neg q]
        · rw [show i * 3 + 1 - n * 3 = (i - n) * 3 + 1 by omega, p1, hi']; unfold newA; rw [if_neg q]
        · rw [show i * 3 + 2 - n * 3 = (i - n) * 3 + 2 by omega, p2, hi']; unfold newA; rw [if_neg q]
  · rintro k (rfl | rfl | rfl) <;> assumption
end Go.Proofs.Ytdlncbndhljhfaa
