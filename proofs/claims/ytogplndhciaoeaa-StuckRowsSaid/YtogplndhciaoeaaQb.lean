/- layer 27 (stuck): maps of numbers that are the call's own. -/
import Derived.Test.YtogplndhciaoeaaQa
import Derived.Maps.Own
import Derived.Maps.Views
namespace Go.Proofs.Ytogplndhciaoeaa
open Go.RowKit Go.Maps
set_option maxRecDepth 100000

def W64 (x : Int) : Prop := (Lit.int .i64 x).wf = true
theorem keyI : Keyed Try.prog 3 := int_keyed Try.underlying3
/-- a map of numbers: m says what it holds. -/
def MapI (e : TypeId) (w : World) (b n : Nat) (m : Int → Option Int) : Prop :=
  ∃ D : DataW Unit, w.ownsMap Try.prog 3 (plainElem Try.prog e) b n D ∧ IsMap D ∧ ∀ x, W64 x → ∀ z, D.atKey (.int .i64 x) z = match m x with | some c => .lit (.int .i64 c) | none => z
theorem mapI_made (e : TypeId) (w : World) : MapI e (w.alloc (.map #[] 0)) w.heap.size 0 fun _ => none :=
  ⟨.map [], w.ownsMap_made _ _ _, ⟨_, rfl⟩, fun x _ z => WideAt.atKey_none z fun p hp => by cases hp⟩
section
variable {e : TypeId} {w : World} {b n : Nat} {m : Int → Option Int}
theorem MapI.update (h : MapI e w b n m) {t : TypeId} (ht : Try.prog.underlying t = some (.map 3 e)) (he : Try.prog.underlying e = some (.int .i64)) (hn : n < maxLen) {x c : Int} (hx : W64 x) (hc : W64 c) :
    ∃ w', (Instr.mapUpdate t (.map (some b)) (.int .i64 x) (.int .i64 c)).run Try.prog w = .ok () w' ∧ MapI e w' b (n + 1) (fun y => if y = x then some c else m y) ∧ w.grownBy w' (some b) := by
  obtain ⟨D, h1, h2, h3⟩ := h
  have hk := keyOf_int_mk (P := Try.prog) Try.underlying3 hx
  obtain ⟨w', r1, r2, r3⟩ := h1.update keyI ht hn hk (plainElem_int he hc)
  refine ⟨w', r1, ⟨_, r2, ?_, fun y hy z => ?_⟩, r3⟩
  · obtain ⟨es, rfl⟩ := h2; exact ⟨_, rfl⟩
  · by_cases ce : y = x
    · subst ce
      dsimp only; rw [if_pos rfl]; exact atKey_put_same h2 (keyI.key hk) _ z
    · dsimp only; rw [if_neg ce, atKey_put_other (fun e => ce (by injection e)) _ z]; exact h3 y hy z
theorem MapI.look (h : MapI e w b n m) (k : Bool) {t : TypeId} (ht : Try.prog.underlying t = some (.map 3 e)) (he : Try.prog.underlying e = some (.int .i64)) (hz : (zeroValue e).run Try.prog w = .ok (.int .i64 0) w) {x : Int} (hx : W64 x) :
    (Instr.lookup t (.map (some b)) (.int .i64 x) k).run Try.prog w = .ok (if k then .tuple #[.int .i64 ((m x).getD 0), .bool (m x).isSome] else .int .i64 ((m x).getD 0)) w := by
  obtain ⟨D, ⟨es, clock, hb, F, hs, hD⟩, h2, h3⟩ := h
  have hk := keyOf_int_mk (P := Try.prog) Try.underlying3 hx
  rcases fit_look k keyI ht hz hb F hk with ⟨hrun, _, hat⟩ | ⟨e0, y, _, _, hrun, hRv, hat, _⟩
  · have h4 := h3 x hx .nil
    rw [hD, hat] at h4
    match hm : m x with
    | none => exact hrun
    | some c => rw [hm] at h4; cases h4
  · obtain ⟨a, ha, hy, -⟩ := plainElem_int_inv he hRv
    have h4 := h3 x hx .nil
    rw [hD, hat, hy] at h4
    match hm : m x with
    | none => rw [hm] at h4; cases h4
    | some c =>
      rw [hm] at h4
      injection h4 with h4; injection h4 with _ h4
      subst h4
      rw [hrun, ha]; rfl
end
end Go.Proofs.Ytogplndhciaoeaa
