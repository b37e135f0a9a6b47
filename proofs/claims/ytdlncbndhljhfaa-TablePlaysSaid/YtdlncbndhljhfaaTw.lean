/- What any call does to a table (layer 12), told loosely. -/
import Derived.Test.YtdlncbndhljhfaaTu
import Derived.Test.YtdlncbndhljhfaaTv
namespace Go.Proofs.Ytdlncbndhljhfaa
open Go.RowKit

section
variable {w W : World} {E : Nat → Prop} {b c gl gn r : Nat} {v : Value} {ts : List (List Value)} {ls : Nat → List Nat}
theorem sadd (cs : List Value) (ho : OkT cs) (h : Liv w E b c gl gn v r ts ls W) :
    Calls Try.prog 19 #[.pointer (some ⟨b, 0, none⟩), .agg cs.toArray] W fun e W' => ∃ (k f : Int) (v' : Value) (ts' : List (List Value)), e = .returned (.tuple #[.int .i64 k, .int .i64 f]) ∧ Liv w E b c gl gn v' r ts' ls W' ∧ But (Oth w E) W W' ∧ ((f = 0 ∧ k = ts.length ∧ ts' = ts ++ [cs]) ∨ (f ≠ 0 ∧ ts' = ts)) := by
  cases hm : mayT cs with
  | false => exact (ladd_bad cs ho hm h).mono fun _ _ ⟨he, hl, hb⟩ => ⟨0, 1, v, ts, he, hl, hb, .inr ⟨by decide, rfl⟩⟩
  | true =>
    by_cases hr : ts.length < r
    · exact (ladd_ok cs ho hm h hr).mono fun _ _ ⟨he, v', hl, hb⟩ => ⟨ts.length, 0, v', _, he, hl, hb, .inl ⟨rfl, rfl, rfl⟩⟩
    · exact (ladd_full cs ho hm h (by omega)).mono fun _ _ ⟨he, hl, hb⟩ => ⟨0, 4, v, ts, he, hl, hb, .inr ⟨by decide, rfl⟩⟩
theorem sset (i : Int) (cs : List Value) (ho : OkT cs) (h : Liv w E b c gl gn v r ts ls W) :
    Calls Try.prog 20 #[.pointer (some ⟨b, 0, none⟩), .int .i64 i, .agg cs.toArray] W fun e W' => ∃ (n : Int) (ts' : List (List Value)), e = .returned (.int .i64 n) ∧ Liv w E b c gl gn v r ts' ls W' ∧ But (Oth w E) W W' ∧ ts'.length = ts.length ∧ ∀ (j : Nat) (x : List Value), ts[j]? = some x → fld x 25 = 8 → ts'[j]? = some x := by
  by_cases hi : 0 ≤ i ∧ i < (ts.length : Int)
  · obtain ⟨k, rfl⟩ : ∃ k : Nat, i = k := ⟨i.toNat, by omega⟩
    have hk : k < ts.length := by omega
    cases hm : mayT cs with
    | false => exact (tset_bad k cs ho hm h.tab hk).mono fun _ _ ⟨he, hb⟩ => ⟨1, ts, he, (h.on hb).1, (h.on hb).2, rfl, fun _ _ q _ => q⟩
    | true =>
      obtain ⟨x, hx⟩ : ∃ x, ts[k]? = some x := ⟨_, List.getElem?_eq_getElem hk⟩
      refine (tset_at k cs x ho hm h.tab hx).mono fun e W' hq => ?_
      rcases hq with ⟨_, he, hb⟩ | ⟨h8, he, ht, hb⟩
      · exact ⟨5, ts, he, (h.on hb).1, (h.on hb).2, rfl, fun _ _ q _ => q⟩
      · have hs := h.step ht hb fun _ hg => .inl hg
        refine ⟨0, _, he, hs.1, hs.2, List.length_set .., fun j y hy hy8 => ?_⟩
        by_cases e : j = k
        · subst e; rw [hx] at hy; cases hy; exact absurd hy8 h8
        · rw [List.getElem?_set_ne (Ne.symm e)]; exact hy
  · refine (tset_none i ts.length cs W (inB_no (by omega)) fun W' hb => tlen_any (h.tab.below hb)).mono fun _ _ ⟨he, hb⟩ => ⟨3, ts, he, (h.on hb).1, (h.on hb).2, rfl, fun _ _ q _ => q⟩
theorem sjoin (i k : Int) (h : Liv w E b c gl gn v r ts ls W) :
    Calls Try.prog 21 #[.pointer (some ⟨b, 0, none⟩), .int .i64 i, .int .i64 k] W fun e W' => ∃ (n : Int) (ls' : Nat → List Nat), e = .returned (.int .i64 n) ∧ Liv w E b c gl gn v r ts ls' W' ∧ But (Oth w E) W W' := by
  have same : ∀ (n : Int), (Calls Try.prog 21 #[.pointer (some ⟨b, 0, none⟩), .int .i64 i, .int .i64 k] W fun e W' => e = .returned (.int .i64 n) ∧ W = W') → Calls Try.prog 21 #[.pointer (some ⟨b, 0, none⟩), .int .i64 i, .int .i64 k] W fun e W' => ∃ (n : Int) (ls' : Nat → List Nat), e = .returned (.int .i64 n) ∧ Liv w E b c gl gn v r ts ls' W' ∧ But (Oth w E) W W' := fun n hc => hc.mono fun _ _ ⟨he, hw⟩ => ⟨n, ls, he, hw ▸ h, hw ▸ But.refl _ _⟩
  by_cases hi : 0 ≤ i ∧ i < (ts.length : Int)
  · by_cases hk : 0 ≤ k ∧ k < (ts.length : Int)
    · obtain ⟨i, rfl⟩ : ∃ j : Nat, i = j := ⟨i.toNat, by omega⟩
      obtain ⟨k, rfl⟩ : ∃ j : Nat, k = j := ⟨k.toNat, by omega⟩
      by_cases hik : i = k
      · subst hik; exact same 1 (join_same i h.tab (by omega))
      · obtain ⟨x, hx⟩ : ∃ x, ts[k]? = some x := ⟨_, List.getElem?_eq_getElem (by omega)⟩
        by_cases h8 : fld x 25 = 8
        · exact same 5 (join_exited i k x h.tab (by omega) hx hik h8)
        · by_cases hm : ∃ j, j < r ∧ i ∈ ls j
          · obtain ⟨j, hj, hm⟩ := hm
            exact same 9 (join_twice i k j x h.tab (by omega) hx hik h8 hj hm)
          · exact (ljoin_ok i k x h (by omega) hx hik h8 fun j hj q => hm ⟨j, hj, q⟩).mono fun _ _ ⟨he, hl, hb⟩ => ⟨0, _, he, hl, hb⟩
    · exact same 3 (join_none i k ts.length (tlen_any h.tab) (.inr (inB_no (by omega))))
  · exact same 3 (join_none i k ts.length (tlen_any h.tab) (.inl (inB_no (by omega))))
end
/-- A thing to be done, as its cells. -/
def opL (o : OpR) : List Value := .int .u64 o.kind :: (o.x ++ [.int .i64 o.id, .int .i64 o.on])
theorem opL_len {o : OpR} (h : OkT o.x) : (opL o).length = 32 := by simp [opL, h.len]
theorem opL_one {o : OpR} (h : OkT o.x) : ∀ v ∈ opL o, v.oneCell' = true := fun v hv => by
  simp only [opL, List.mem_cons, List.mem_append, List.not_mem_nil, or_false] at hv
  rcases hv with rfl | hv | rfl | rfl
  · rfl
  · exact h.one v hv
  · rfl
  · rfl
theorem OpsT.range {w : World} {A : Option Addr} {l : List OpR} (h : OpsT w A l) {i : Nat} {o : OpR} (ho : l[i]? = some o) : OkT o.x ∧ ∃ b off, A = some ⟨b, off, none⟩ ∧ b < w.heap.size ∧ w.rangeAt b (off + i * 32) (opL o) := by
  obtain ⟨hok, b, off, e, hlt, h0, h1, h2, h3⟩ := h i o ho
  refine ⟨hok, b, off, e, hlt, fun j u hj => ?_⟩
  have hl := hok.len
  match j, hj with
  | 0, hj => simp [opL] at hj; subst hj; exact h0
  | j + 1, hj =>
    rw [opL, List.getElem?_cons_succ] at hj
    by_cases j1 : j < 29
    · rw [List.getElem?_append_left (by omega)] at hj
      rw [show off + i * 32 + (j + 1) = off + i * 32 + 1 + j by omega]; exact h1 j u hj
    · rw [List.getElem?_append_right (by omega), hl] at hj
      have hj3 : j < 31 := by
        have := (List.getElem?_eq_some_iff.1 hj).1
        simp at this; omega
      have : j = 29 ∨ j = 30 := by omega
      rcases this with rfl | rfl
      · cases hj; exact h2
      · cases hj; exact h3
/-- What a box has that holds such a thing. -/
theorem op_box {w : World} {b : Nat} {o : OpR} (hok : OkT o.x) (h : Blk w b 40 (opL o).toArray) : w.cell? ⟨b, 0, none⟩ = some (.int .u64 o.kind) ∧ w.rangeAt b 1 o.x ∧ w.cell? ⟨b, 30, none⟩ = some (.int .i64 o.id) ∧ w.cell? ⟨b, 31, none⟩ = some (.int .i64 o.on) := by
  have hl := hok.len
  have hc : ∀ j, w.cell? ⟨b, j, none⟩ = (opL o)[j]? := fun j => by rw [h.cell j]; simp
  refine ⟨by rw [hc]; rfl, fun j u hj => ?_, ?_, ?_⟩
  · have hj' : j < 29 := by have := (List.getElem?_eq_some_iff.1 hj).1; omega
    rw [hc, Nat.add_comm, opL, List.getElem?_cons_succ, List.getElem?_append_left (by omega)]; exact hj
  · rw [hc, opL, List.getElem?_cons_succ, List.getElem?_append_right (by omega), hl]; rfl
  · rw [hc, opL, List.getElem?_cons_succ, List.getElem?_append_right (by omega), hl]; rfl
theorem infoOp : (Try.prog.info? 40).map (·.size) = some 32 := by kernel_rfl
end Go.Proofs.Ytdlncbndhljhfaa
