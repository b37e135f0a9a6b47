/- Rows of instructions of a call's own: all of a slice appended to an empty one; one of them stored anew. -/
import Derived.Test.YtdjdmkgiidbnnaaDoorS0
import Derived.Maps.AppendAt
import Derived.Deep.AppendLies
import Derived.Deep.RegionLaw
namespace Go.Proofs.YtdjdmkgiidbnnaaDoor
open Go.RowKit

def insC (x : I4) : List Value := [.int .i64 x.op, .int .i64 x.a, .int .i64 x.b, .int .i32 x.n]
theorem flat_len (xs : List I4) : (xs.flatMap insC).length = xs.length * 4 := by
  induction xs with
  | nil => rfl
  | cons x xs ih => rw [List.flatMap_cons, List.length_append, ih]; simp [insC]; omega
theorem flat_get : ∀ (xs : List I4) (i r : Nat) (x : I4), xs[i]? = some x → r < 4 → (xs.flatMap insC)[i * 4 + r]? = (insC x)[r]?
  | [], _, _, _, h, _ => by simp at h
  | y :: xs, 0, r, x, h, hr => by
    obtain rfl : y = x := by simpa using h
    rw [List.flatMap_cons, Nat.zero_mul, Nat.zero_add, List.getElem?_append_left (by simpa [insC] using hr)]
  | y :: xs, i + 1, r, x, h, hr => by
    rw [List.flatMap_cons, List.getElem?_append_right (by simp [insC]; omega), show (i + 1) * 4 + r - (insC y).length = i * 4 + r by simp [insC]; omega]
    exact flat_get xs i r x (by simpa using h) hr
theorem flat_set : ∀ (xs : List I4) (k : Nat) (x : I4), k < xs.length → ((((xs.flatMap insC).set (k * 4) (.int .i64 x.op)).set (k * 4 + 1) (.int .i64 x.a)).set (k * 4 + 2) (.int .i64 x.b)).set (k * 4 + 3) (.int .i32 x.n) = (xs.set k x).flatMap insC
  | [], _, _, h => by simp at h
  | y :: xs, 0, x, _ => by simp [insC, List.flatMap_cons]
  | y :: xs, k + 1, x, h => by
    have ih := flat_set xs k x (by simpa using h)
    rw [List.set_cons_succ, List.flatMap_cons, List.flatMap_cons, ← ih]
    have e : ∀ j v (L : List Value), (insC y ++ L).set ((k + 1) * 4 + j) v = insC y ++ L.set (k * 4 + j) v := fun j v L => by
      rw [List.set_append, if_neg (by simp [insC]; omega), show (k + 1) * 4 + j - (insC y).length = k * 4 + j by simp [insC]; omega]
    have e0 := e 0; simp only [Nat.add_zero] at e0
    rw [e0, e 1, e 2, e 3]
theorem infoIns : (Tryd.prog.info? 51).map (fun i => (i.zero, i.size, i.bytes)) = some (some (.agg #[.int .i64 0, .int .i64 0, .int .i64 0, .int .i32 0]), 4, 32) := by kernel_rfl
/-- A row of instructions of the call's own, from block B on. -/
def OwnI (B : Nat) (v : Value) (xs : List I4) (w : World) : Prop := w.ownsRow B 51 4 v xs.length (xs.flatMap insC)
theorem ownI_in {B : Nat} {g cap : Nat} {xs : List I4} {w : World} (h : OwnI B (.slice (some ⟨g, 0, none⟩) xs.length cap) xs w) (hf : ∀ x ∈ xs, Fits x) : InsIn w (some ⟨g, 0, none⟩) xs := fun i x hx => by
  have hadd : ∀ j, (⟨g, 0, none⟩ : Addr).add j = ⟨g, 0 + j, none⟩ := fun j => by unfold Addr.add; split <;> simp_all
  have key : ∀ r u, r < 4 → (insC x)[r]? = some u → w.cell? ⟨g, 0 + i * 4 + r, none⟩ = some u := fun r u hr hu => by
    have := h.cells (g := g) rfl (i * 4 + r) u (by rw [flat_get xs i r x hx hr]; exact hu)
    rw [hadd] at this
    rw [Nat.add_assoc]; exact this
  exact ⟨hf x (List.mem_of_getElem? hx), g, 0, rfl, (h.lt g rfl).2, key 0 _ (by decide) rfl, key 1 _ (by decide) rfl, key 2 _ (by decide) rfl, key 3 _ (by decide) rfl⟩
/-- An empty row that is not nil. -/
theorem ownI_lit (w : World) : OwnI w.heap.size (.slice (some ⟨w.heap.size, 0, none⟩) 0 0) [] (w.alloc (.cells #[] 51)) :=
  ⟨by simp, .inr ⟨w.heap.size, 0, #[], rfl, Nat.le_refl _, heap_alloc_new w _, Nat.le_refl _, by unfold maxLen; omega, rfl, by simp⟩⟩
def AppI (B : Nat) (v : Value) (n : Nat) (xs : List I4) (w : World) (v' : Value) (w' : World) : Prop := (∃ g cap, v' = .slice (some ⟨g, 0, none⟩) n cap ∧ n ≤ cap ∧ OwnI B v' xs w') ∧ Below B w w' ∧ w.grownBy w' v.ownBlock
theorem run_app_prog {w : World} (ty : TypeId) (B : Nat) (v : Value) (hown : OwnI B v [] w) (A : Option Addr) (l : List I4) (cap : Nat) (hI : InsIn w A l) (h0 : 1 ≤ l.length) (hl : l.length ≤ 1000) (hB : B ≤ w.heap.size) :
    ∃ v' w', (Builtin.append_ #[22, 22] ty #[v, .slice A l.length cap]).run Tryd.prog w = .ok v' w' ∧ AppI B v l.length l w v' w' := by
  obtain ⟨i0, hi0, hz0, hz1, hz2⟩ := info_parts infoIns
  obtain ⟨x0, hx0⟩ : ∃ x, l[0]? = some x := ⟨_, List.getElem?_eq_getElem (by omega)⟩
  obtain ⟨_, b, off, rfl, _⟩ := hI 0 x0 hx0
  have hn : ∀ j u, (l.flatMap insC)[j]? = some u → w.cell? ((⟨b, off, none⟩ : Addr).add j) = some u := by
    intro j u hu
    have hj : j < l.length * 4 := by have := (List.getElem?_eq_some_iff.1 hu).1; rwa [flat_len] at this
    obtain ⟨x, hx⟩ : ∃ x, l[j / 4]? = some x := ⟨_, List.getElem?_eq_getElem (by omega)⟩
    obtain ⟨_, b', off', e, _, c0, c1, c2, c3⟩ := hI (j / 4) x hx
    cases e
    have hadd : (⟨b, off, none⟩ : Addr).add j = ⟨b, off + j, none⟩ := by unfold Addr.add; split <;> simp_all
    have hu2 := flat_get l (j / 4) (j % 4) x hx (Nat.mod_lt _ (by decide))
    rw [show j / 4 * 4 + j % 4 = j by omega, hu] at hu2
    rw [hadd]
    have h4 : j % 4 = 0 ∨ j % 4 = 1 ∨ j % 4 = 2 ∨ j % 4 = 3 := by omega
    rcases h4 with h | h | h | h <;> rw [h] at hu2 <;> simp [insC] at hu2 <;> subst hu2
    · rw [show off + j = off + j / 4 * 4 by omega]; exact c0
    · rw [show off + j = off + j / 4 * 4 + 1 by omega]; exact c1
    · rw [show off + j = off + j / 4 * 4 + 2 by omega]; exact c2
    · rw [show off + j = off + j / 4 * 4 + 3 by omega]; exact c3
  obtain ⟨v', w', hr, own, g, hnil, _⟩ := run_append_own_at (P := Tryd.prog) w B 22 ty 51 i0 (.agg #[.int .i64 0, .int .i64 0, .int .i64 0, .int .i32 0]) 4 32 Tryd.underlying22 hi0 hz0 hz1 hz2 rfl (by decide) v 0 [] hown ⟨b, off, none⟩ l.length cap (l.flatMap insC) (flat_len l) hn (by
      intro u hu
      obtain ⟨x, _, hx⟩ := List.mem_flatMap.1 hu
      simp [insC] at hx; rcases hx with rfl | rfl | rfl | rfl <;> rfl) (by unfold maxLen; omega) (by omega) hB
  rw [Nat.zero_add, List.nil_append] at own
  have hw : OwnI B v' l w' := own
  refine ⟨v', w', hr, ?_, (Below.refl _ _).grown g hB (fun k hk => (hown.lt k hk).1), g⟩
  rcases own.2 with ⟨rfl, hz⟩ | ⟨k, cp, cur, rfl, hbb, hgg, hcp, _⟩
  · omega
  · exact ⟨k, cp, rfl, hcp, hw⟩
theorem step_app_prog {ops : Array Oper} {o : Oper} {a : Act} {w : World} {K : Act → World → Prop} {Q : Exit → Act → World → Prop} {E : Prop} (hgd : o.guard = none) (s x : Operand) (ho : o.op = .call { callee := .builtin .append, args := #[s, x], argTypes := #[22, 22] })
    (B : Nat) (v : Value) (hs : a.eval s = v) (hown : OwnI B v [] w) (A : Option Addr) (l : List I4) (cap n : Nat) (hn : l.length = n) (hx : a.eval x = .slice A n cap) (hI : InsIn w A l) (h0 : 1 ≤ l.length) (hl : l.length ≤ 1000) (hB : B ≤ w.heap.size)
    (h : ∀ v' w', AppI B v n l w v' w' → K (a.put o.dst v') w') : if Region.wanted o (yielded ops a.tmps) = true then Oper.wp Tryd.prog o a w K Q else E := by
  subst hn
  rw [if_pos (by simp [Region.wanted, hgd])]
  obtain ⟨v', w', hr, hA⟩ := run_app_prog o.type B v hown A l cap hI h0 hl hB
  unfold Oper.wp
  simp [execOp, ho, resolve, invoke, builtin, hs, hx, hr, Result.andThen]
  exact h v' w' hA
theorem OwnI.drew {B : Nat} {v : Value} {l : List I4} {w : World} (h : OwnI B v l w) : OwnI B v l w.drew := by
  unfold OwnI World.ownsRow at *; exact h
theorem OwnI.less {B B' : Nat} {v : Value} {l : List I4} {w : World} (h : OwnI B v l w) (hb : B' ≤ B) : OwnI B' v l w := by
  refine ⟨h.1, ?_⟩
  rcases h.2 with hn | ⟨g, cap, cur, e, hbb, rest⟩
  · exact .inl hn
  · exact .inr ⟨g, cap, cur, e, Nat.le_trans hb hbb, rest⟩
theorem ownI_put {B g cap : Nat} {xs : List I4} {w : World} (h : OwnI B (.slice (some ⟨g, 0, none⟩) xs.length cap) xs w) (k : Nat) (x : I4) (hk : k < xs.length) :
    OwnI B (.slice (some ⟨g, 0, none⟩) (xs.set k x).length cap) (xs.set k x) ((((w.setCell ⟨g, k * 4, none⟩ (.int .i64 x.op)).setCell ⟨g, k * 4 + 1, none⟩ (.int .i64 x.a)).setCell ⟨g, k * 4 + 2, none⟩ (.int .i64 x.b)).setCell ⟨g, k * 4 + 3, none⟩ (.int .i32 x.n)) := by
  have h1 := (h.stored (k * 4) (.int .i64 x.op)).1
  have h2 := (h1.stored (k * 4 + 1) (.int .i64 x.a)).1
  have h3 := (h2.stored (k * 4 + 2) (.int .i64 x.b)).1
  have h4 := (h3.stored (k * 4 + 3) (.int .i32 x.n)).1
  rw [flat_set xs k x hk] at h4
  unfold OwnI
  rw [List.length_set]; exact h4
end Go.Proofs.YtdjdmkgiidbnnaaDoor
