/- layer 27 (stuck): what follow's walk wants: append of a number, what is known as the map holds it. -/
import Derived.Test.YtogplndhciaoeaaQc
namespace Go.Proofs.Ytogplndhciaoeaa
open Go.RowKit Go.Maps
set_option maxRecDepth 100000

theorem infoI : (Try.prog.info? 3).map (fun i => (i.zero, i.size, i.bytes)) = some (some (.int .i64 0), 1, 8) := by kernel_rfl
theorem zeroI (w : World) : (zeroValue 3).run Try.prog w = .ok (.int .i64 0) w := by kernel_rfl
theorem zeroF (w : World) : (zeroValue 68).run Try.prog w = .ok (.int .i64 0) w := by kernel_rfl
/-- a row of numbers of the call's own. -/
abbrev OwnN (B : Nat) (w : World) (v : Value) (l : List Int) : Prop := w.ownsRow B 3 1 v l.length (l.map (Value.int .i64))
theorem info_partsN {t : TypeId} {z : Option Value} {s b : Nat} (h : (Try.prog.info? t).map (fun i => (i.zero, i.size, i.bytes)) = some (z, s, b)) : ∃ i, Try.prog.info? t = some i ∧ i.zero = z ∧ i.size = s ∧ i.bytes = b := by
  match hi : Try.prog.info? t with
  | none => rw [hi] at h; cases h
  | some i => rw [hi] at h; simp at h; exact ⟨i, rfl, h.1, h.2.1, h.2.2⟩
theorem app_n {ops : Array Oper} {rest : List Oper} {o : Oper} {a : Act} {w : World} {Q : Exit → Act → World → Prop} (hgd : o.guard = none) (s x : Operand) (ho : o.op = .call { callee := .builtin .append, args := #[s, x], argTypes := #[23, 23] })
    (B : Nat) (v : Value) (l : List Int) (hs : a.eval s = v) (h : OwnN B w v l) (g cap : Nat) (z : Int) (hx : a.eval x = .slice (some ⟨g, 0, none⟩) 1 cap) (hc : w.cell? ⟨g, 0, none⟩ = some (.int .i64 z)) (hl : l.length ≤ 100000) (hB : B ≤ w.heap.size)
    (K : ∀ v' w', OwnN B w' v' (l ++ [z]) → w.grownBy w' v.ownBlock → wpList Try.prog ops Q rest (a.put o.dst v') w') : wpList Try.prog ops Q (o :: rest) a w := by
  obtain ⟨i0, hi0, hz0, hz1, hz2⟩ := info_partsN infoI
  have hadd : ∀ (b off j : Nat), (⟨b, off, none⟩ : Addr).add j = ⟨b, off + j, none⟩ := fun b off j => by unfold Addr.add; split <;> simp_all
  have hnew : ∀ j u, [Value.int .i64 z][j]? = some u → w.cell? ((⟨g, 0, none⟩ : Addr).add j) = some u := fun j u hu => by
    match j, hu with
    | 0, hu => simp at hu; subst hu; exact hc
  refine wpList_append_own w hgd s x 23 ho B 3 i0 (.int .i64 0) 1 8 Try.underlying23 hi0 hz0 hz1 hz2 rfl (by decide) v l.length _ hs h ⟨g, 0, none⟩ 1 cap [.int .i64 z] hx rfl hnew (by intro u hu; simp at hu; subst hu; rfl) (by unfold maxLen; omega) (by omega) hB ?_
  intro v' w' h1 h2 _
  exact K v' w' (by unfold OwnN; rw [List.length_append, List.map_append]; exact h1) h2
/-- what is known, as the map holds it. -/
def kO (k : Int → Nat) : Int → Option Int := fun x => if k x = 0 then none else some (k x : Int)
theorem kO_get (k : Int → Nat) (x : Int) : (kO k x).getD 0 = (k x : Int) := by unfold kO; split <;> simp_all
theorem kO_set (k : Int → Nat) (s : Int) (c : Nat) (hc : c ≠ 0) : (fun y => if y = s then some (c : Int) else kO k y) = kO fun y => if y = s then c else k y := by
  funext y
  unfold kO
  by_cases h : y = s
  · simp [h, hc]
  · simp [h]
theorem w64_small {x : Int} (h0 : 0 ≤ x) (h : x ≤ 1000) : W64 x := by
  unfold W64 Lit.wf
  have h1 : IntKind.i64.min = -9223372036854775808 := by decide
  have h2 : IntKind.i64.max = 9223372036854775807 := by decide
  simp [h1, h2]; omega
end Go.Proofs.Ytogplndhciaoeaa
