/- lint.Leaks; layer 26's fine; rows of numbers held against each other. -/
import Derived.Test.YthoddoabcdbliaaMe
import Derived.Test.YthoddoabcdbliaaRi
namespace Go.Proofs.Ythoddoabcdbliaa
open Go.RowKit

/-- A row of numbers of the call's own, from block B on. -/
def MineN (B : Nat) (v : Value) (L : List Int) (W : World) : Prop := W.ownsRow B 3 1 v L.length (numC L)
theorem mineN_nil (B : Nat) (W : World) : MineN B (.slice none 0 0) [] W := ⟨rfl, .inl ⟨rfl, rfl⟩⟩
theorem MineN.on {B : Nat} {v : Value} {L : List Int} {w w' : World} (h : MineN B v L w) (hb : Below w.heap.size w w') : MineN B v L w' := by
  refine ⟨h.1, ?_⟩
  rcases h.2 with hn | ⟨g, cap, cur, rfl, hbb, hgg, rest⟩
  · exact .inl hn
  · exact .inr ⟨g, cap, cur, rfl, hbb, (hb.block g (Array.getElem?_eq_some_iff.1 hgg).1).trans hgg, rest⟩
theorem MineN.nums {B : Nat} {v : Value} {L : List Int} {w : World} (h : MineN B v L w) : ∃ A cap, v = .slice A L.length cap ∧ NumsIn w A L := by
  have hc := h
  rcases h.2 with ⟨rfl, hn⟩ | ⟨g, cap, cur, rfl, hg, hh, hcap, _⟩
  · have : L = [] := by simpa [numC] using hn
    subst this
    exact ⟨none, 0, rfl, fun i x hx => by simp at hx⟩
  · refine ⟨some ⟨g, 0, none⟩, cap, rfl, fun i x hx => ⟨g, 0, rfl, (hc.lt g rfl).2, ?_⟩⟩
    have := hc.cells (g := g) rfl i (.int .i64 x) (by simp [numC, hx])
    have hadd : (⟨g, 0, none⟩ : Addr).add i = ⟨g, 0 + i, none⟩ := by unfold Addr.add; split <;> simp_all
    rw [hadd] at this
    exact this
theorem app_mine {ops : Array Oper} {rest : List Oper} {o : Oper} {a : Act} {W : World} {Q : Exit → Act → World → Prop} (hgd : o.guard = none) (s x : Operand) (ho : o.op = .call { callee := .builtin .append, args := #[s, x], argTypes := #[27, 27] })
    (B : Nat) (v : Value) (L : List Int) (hs : a.eval s = v) (hown : MineN B v L W) (g1 : Nat) (y : Int) (hx : a.eval x = .slice (some ⟨g1, 0, none⟩) 1 1) (hb : W.cell? ⟨g1, 0, none⟩ = some (.int .i64 y)) (hl : L.length ≤ 10000) (hB : B ≤ W.heap.size)
    (h : ∀ v' w', MineN B v' (L ++ [y]) w' → Below B W w' → wpList Try.prog ops Q rest (a.put o.dst v') w') : wpList Try.prog ops Q (o :: rest) a W := by
  obtain ⟨i0, hi0, hz0, hz1, hz2⟩ := info_parts infoNum
  refine wpList_append_own W hgd s x 27 ho B 3 i0 _ 1 8 Try.underlying27 hi0 hz0 hz1 hz2 rfl (by decide) _ L.length (numC L) hs hown ⟨g1, 0, none⟩ 1 1 (numC [y]) hx (by simp [numC]) ?_ (by intro u hu; simp [numC] at hu; rcases hu with rfl; rfl) (by unfold maxLen; omega) (by omega) hB ?_
  · intro j u hu
    match j, hu with
    | 0, hu =>
      have hadd : (⟨g1, 0, none⟩ : Addr).add 0 = ⟨g1, 0, none⟩ := by unfold Addr.add; split <;> simp_all
      rw [hadd, hb]; simpa [numC] using hu
    | j + 1, hu => simp [numC] at hu
  · intro v' w' own gr _
    refine h v' w' ?_ ((Below.refl _ _).grown gr hB (fun k hk => (hown.lt k hk).1))
    unfold MineN
    rw [List.length_append, show numC (L ++ [y]) = numC L ++ numC [y] by simp [numC]]
    exact own
/-- The exits at which something may be had. -/
def leakL (F : Nat → Nat → Bool) (l : List I4) (n : Nat) : List Int := ((List.range n).filter fun i => decide (wordB (F i) 16 ≠ 0 ∧ (l[i]?.map I4.op) = some 14)).map fun i => ((i : Nat) : Int)
theorem leakL_succ (F : Nat → Nat → Bool) (l : List I4) (n : Nat) : leakL F l (n + 1) = leakL F l n ++ (if wordB (F n) 16 ≠ 0 ∧ (l[n]?.map I4.op) = some 14 then [(n : Int)] else []) := by
  unfold leakL
  rw [List.range_succ, List.filter_append, List.map_append]
  congr 1
  by_cases h : wordB (F n) 16 ≠ 0 ∧ (l[n]?.map I4.op) = some 14
  · rw [if_pos h, List.filter_cons, if_pos (by simpa using h)]; rfl
  · rw [if_neg h, List.filter_cons, if_neg (by simpa using h)]; rfl
theorem leakL_len (F : Nat → Nat → Bool) (l : List I4) (n : Nat) : (leakL F l n).length ≤ n := by
  unfold leakL; rw [List.length_map]
  exact Nat.le_trans (List.length_filter_le _ _) (by simp)
set_option maxRecDepth 100000 in
set_option maxHeartbeats 8000000 in
theorem fine26_any (prio : Int) (A : Option Addr) (l : List I4) (cap : Nat) (w : World) (hI : InsIn w A l) :
    Calls Try.prog 6 #[.agg #[.int .i64 prio, .slice A l.length cap]] w (GotB w.heap.size (.bool (decide (l.length ≤ 30 ∧ (progE prio l).1 = 0))) w) := by
  have hb := Blk.new w 24 #[.int .i64 prio, .slice A l.length cap]
  have hB : Below w.heap.size w (w.alloc (.cells #[.int .i64 prio, .slice A l.length cap] 24)) := (Below.refl _ _).alloc (Nat.le_refl _) _
  have HC := refCheck_any prio A l cap _ (hI.below hB)
  unfold CheckP at HC
  obtain ⟨e1, he1⟩ : ∃ e, (progE prio l).1 = e := ⟨_, rfl⟩
  obtain ⟨e2, he2⟩ : ∃ e, (progE prio l).2 = e := ⟨_, rfl⟩
  rw [he1, he2] at HC
  rw [he1]
  have HC := Lib.hid HC; have HB := Lib.hid hB
  have x0 := hb.cell 0; have x1 := hb.cell 1
  simp only [List.getElem?_toArray, List.getElem?_cons_zero, List.getElem?_cons_succ] at x0 x1
  clear he1 he2 hb hB hI
  generalize l.length = N at *
  by_cases h30 : N ≤ 30
  · have t : decide ((30 : Int) < (N : Int)) = false := by simp; omega
    obtain ⟨q, hq⟩ : ∃ q, decide (N ≤ 30 ∧ e1 = 0) = q := ⟨_, rfl⟩
    have te : (e1 == 0) = q := by rw [← hq]; simp [h30]; rfl
    rw [hq]
    clear hq h30
    go_enter Try.func6, Try.ntmps6
    go_wp2_with (go_at_call 20; (with_reducible refine HC.out.mono ?_); rintro e w2 ⟨rfl, h2⟩; have H2 := Lib.hid h2; clear h2)
    go_ret
    exact ⟨rfl, HB.out.trans (H2.out.mono HB.out.size)⟩
  · have t : decide ((30 : Int) < (N : Int)) = true := by simp; omega
    rw [show decide (N ≤ 30 ∧ e1 = 0) = false by simp [h30]]
    clear h30 HC
    go_enter Try.func6, Try.ntmps6
    go_wp2_with fail
    go_ret
    exact ⟨rfl, HB.out⟩
end Go.Proofs.Ythoddoabcdbliaa
