/- Rows of instructions of a call's own; prog's Parse at the laws' example. -/
import Derived.Test.YtndekdelhngblaaDoorWu
import Derived.Laws.AppendOwn
namespace Go.Proofs.YtndekdelhngblaaDoor
open Go.RowKit

def insC (x : I4) : List Value := [.int .i64 x.op, .int .i64 x.a, .int .i64 x.b, .int .i32 x.n]
theorem flat_len (xs : List I4) : (xs.flatMap insC).length = xs.length * 4 := by
  induction xs with
  | nil => rfl
  | cons x xs ih => rw [List.flatMap_cons, List.length_append, ih]; simp [insC]; omega
theorem flat_get : ∀ (xs : List I4) (i r : Nat) (x : I4), xs[i]? = some x → r < 4 → (xs.flatMap insC)[i * 4 + r]? = (insC x)[r]?
  | [], _, _, _, h, _ => by simp at h
  | y :: xs, 0, r, x, h, hr => by
    obtain rfl : y = x := by simpa using h
    rw [List.flatMap_cons, Nat.zero_mul, Nat.zero_add, List.getElem?_append_left (by simpa [insC] using hr)]
  | y :: xs, i + 1, r, x, h, hr => by
    rw [List.flatMap_cons, List.getElem?_append_right (by simp [insC]; omega), show (i + 1) * 4 + r - (insC y).length = i * 4 + r by simp [insC]; omega]
    exact flat_get xs i r x (by simpa using h) hr
theorem infoIns : (Tryd.prog.info? 38).map (fun i => (i.zero, i.size, i.bytes)) = some (some (.agg #[.int .i64 0, .int .i64 0, .int .i64 0, .int .i32 0]), 4, 32) := by kernel_rfl
/-- A row of instructions of the call's own, from block B on. -/
def OwnI (B : Nat) (v : Value) (xs : List I4) (w : World) : Prop := w.ownsRow B 38 4 v xs.length (xs.flatMap insC)
theorem ownI_nil (B : Nat) (w : World) : OwnI B (.slice none 0 0) [] w := World.ownsRow_nil _ _ _ _
theorem ownI_in {B : Nat} {v : Value} {xs : List I4} {w : World} (h : OwnI B v xs w) (hf : ∀ x ∈ xs, Fits x) : ∃ A cap, v = .slice A xs.length cap ∧ xs.length ≤ cap ∧ (A = none → xs.length = 0) ∧ InsIn w A xs := by
  have hc := h
  rcases h.2 with ⟨rfl, hn⟩ | ⟨g, cap, cur, rfl, hg, hh, hcap, _⟩
  · have : xs = [] := List.eq_nil_of_length_eq_zero hn
    subst this
    exact ⟨none, 0, rfl, Nat.le_refl _, fun _ => rfl, fun i x hx => by simp at hx⟩
  · refine ⟨_, cap, rfl, hcap, fun e => (by cases e), fun i x hx => ?_⟩
    have hadd : ∀ j, (⟨g, 0, none⟩ : Addr).add j = ⟨g, 0 + j, none⟩ := fun j => by unfold Addr.add; split <;> simp_all
    have key : ∀ r u, r < 4 → (insC x)[r]? = some u → w.cell? ⟨g, 0 + i * 4 + r, none⟩ = some u := fun r u hr hu => by
      have := hc.cells (g := g) rfl (i * 4 + r) u (by rw [flat_get xs i r x hx hr]; exact hu)
      rw [hadd] at this
      rw [Nat.add_assoc]; exact this
    exact ⟨hf x (List.mem_of_getElem? hx), g, 0, rfl, (hc.lt g rfl).2, key 0 _ (by decide) rfl, key 1 _ (by decide) rfl, key 2 _ (by decide) rfl, key 3 _ (by decide) rfl⟩
theorem app_ins {ops : Array Oper} {rest : List Oper} {o : Oper} {a : Act} {w : World} {Q : Exit → Act → World → Prop} (hgd : o.guard = none) (s x : Operand) (ho : o.op = .call { callee := .builtin .append, args := #[s, x], argTypes := #[22, 22] })
    (B : Nat) (v : Value) (xs : List I4) (hs : a.eval s = v) (hown : OwnI B v xs w) (g : Nat) (y : I4) (hx : a.eval x = .slice (some ⟨g, 0, none⟩) 1 1) (hb : Blk w g 38 (insC y).toArray) (hl : xs.length ≤ 10000) (hB : B ≤ w.heap.size)
    (h : ∀ v' w', OwnI B v' (xs ++ [y]) w' → w.grownBy w' v.ownBlock → wpList Tryd.prog ops Q rest (a.put o.dst v') w') : wpList Tryd.prog ops Q (o :: rest) a w := by
  obtain ⟨i0, hi0, hz0, hz1, hz2⟩ := info_parts infoIns
  refine wpList_append_own w hgd s x 22 ho B 38 i0 _ 4 32 Tryd.underlying22 hi0 hz0 hz1 hz2 rfl (by decide) v xs.length (xs.flatMap insC) hs hown ⟨g, 0, none⟩ 1 1 (insC y) hx (by simp [insC]) ?_ (by intro u hu; simp [insC] at hu; rcases hu with rfl | rfl | rfl | rfl <;> rfl) (by unfold maxLen; omega) (by omega) hB ?_
  · intro j u hu
    have hadd : (⟨g, 0, none⟩ : Addr).add j = ⟨g, j, none⟩ := by unfold Addr.add; split <;> simp_all
    rw [hadd, hb.cell]; simpa using hu
  · intro v' w' own gr _
    refine h v' w' ?_ gr
    unfold OwnI
    rw [List.length_append, List.flatMap_append, List.flatMap_cons, List.flatMap_nil, List.append_nil]
    exact own
end Go.Proofs.YtndekdelhngblaaDoor
