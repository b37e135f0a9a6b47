/- The document's Put and Without of layer 5. -/
import Derived.Test.YtlgdeadghmbfmaaRe
import Derived.Maps.AppendAt
import Derived.Laws.AppendOwnNone
import Derived.Deep.AppendLies
import Derived.Deep.RegionLaw
namespace Go.Proofs.Ytlgdeadghmbfmaa
open Go.RowKit

def intC (l : List Int) : List Value := l.map (Value.int .i64)
theorem intC_length (l : List Int) : (intC l).length = l.length := by simp [intC]
theorem intC_one {l : List Int} : ∀ u ∈ intC l, u.oneCell' = true := by
  intro u hu; simp only [intC, List.mem_map] at hu; obtain ⟨y, _, rfl⟩ := hu; rfl
/-- A row of numbers of the call's own, from block B on. -/
def Mine (B : Nat) (v : Value) (l : List Int) (w : World) : Prop := w.ownsRow B 3 1 v l.length (intC l)
theorem mine_nil (B : Nat) (w : World) : Mine B (.slice none 0 0) [] w := ⟨by simp [intC], .inl ⟨rfl, rfl⟩⟩
/-- What was appended to a row of the call's own. -/
def AppP (B : Nat) (v : Value) (l : List Int) (w : World) (v' : Value) (w' : World) : Prop := Mine B v' l w' ∧ Below B w w' ∧ w.grownBy w' v.ownBlock
/-- append onto a row of the call's own of what a slice holds, nil or not. -/
theorem app_ints {ops : Array Oper} {rest : List Oper} {o : Oper} {a : Act} {w : World} {Q : Exit → Act → World → Prop} (hgd : o.guard = none) (s x : Operand) (ho : o.op = .call { callee := .builtin .append, args := #[s, x], argTypes := #[27, 27] })
    (B : Nat) (v : Value) (l : List Int) (hs : a.eval s = v) (hown : Mine B v l w) (ad : Option Addr) (m cap : Nat) (z : Nat → Int) (hx : a.eval x = .slice ad m cap) (hnil : ad = none → cap = 0) (hmc : m ≤ cap) (hI : IntsIn w ad m z) (hm : m ≤ 10000) (hl : l.length ≤ 10000) (hB : B ≤ w.heap.size)
    (h : ∀ v' w', AppP B v (l ++ zs z m) w v' w' → wpList Try.prog ops Q rest (a.put o.dst v') w') : wpList Try.prog ops Q (o :: rest) a w := by
  obtain ⟨i0, hi0, hz0, hz1, hz2⟩ := info_parts infoInt
  rcases ad with _ | ad
  · obtain rfl : cap = 0 := hnil rfl
    obtain rfl : m = 0 := by omega
    refine wpList_append_own_none hgd s x 27 ho B 3 i0 1 Try.underlying27 hi0 v l.length (intC l) hs hown hx (h v w ⟨?_, Below.refl _ _, World.grownBy.refl w _⟩)
    simpa [zs] using hown
  · refine wpList_append_own w hgd s x 27 ho B 3 i0 (.int .i64 0) 1 8 Try.underlying27 hi0 hz0 hz1 hz2 rfl (by decide) v l.length (intC l) hs hown ad m cap (intC (zs z m)) hx (by rw [intC_length, zs_length, Nat.mul_one]) ?_ intC_one (by unfold maxLen; omega) (by omega) hB ?_
    · intro j u hu
      have hj : j < m := by
        have := (List.getElem?_eq_some_iff.1 hu).1
        rwa [intC_length, zs_length] at this
      obtain ⟨b, off, e, _, hc⟩ := hI j hj
      cases e
      have hadd : (⟨b, off, none⟩ : Addr).add j = ⟨b, off + j, none⟩ := by unfold Addr.add; split <;> simp_all
      rw [hadd, hc, ← hu]
      simp [intC, zs, hj]
    · intro v' w' own g _
      refine h v' w' ⟨?_, (Below.refl _ _).grown g hB (fun k hk => (hown.lt k hk).1), g⟩
      unfold Mine
      rw [List.length_append, zs_length, show intC (l ++ zs z m) = intC l ++ intC (zs z m) by simp [intC]]
      exact own
/-- A row of the call's own reads as a slice. -/
theorem Mine.ints {B : Nat} {v : Value} {l : List Int} {w : World} (h : Mine B v l w) : ∃ ad cap, v = .slice ad l.length cap ∧ (ad = none → cap = 0) ∧ l.length ≤ cap ∧ IntsIn w ad l.length (fun i => l[i]?.getD 0) ∧ (∀ bb off, ad = some ⟨bb, off, none⟩ → B ≤ bb) := by
  have hc := h
  rcases h.2 with ⟨rfl, hn⟩ | ⟨g, cap, cur, rfl, hg, hh, hcap, _⟩
  · have : l = [] := by simpa [intC] using hn
    subst this
    exact ⟨none, 0, rfl, fun _ => rfl, Nat.le_refl _, (fun i hi => absurd hi (by simp)), (fun _ _ e => by cases e)⟩
  · refine ⟨some ⟨g, 0, none⟩, cap, rfl, (fun e => by cases e), hcap, (fun i hi => ⟨g, 0, rfl, (hc.lt g rfl).2, ?_⟩), (fun bb off e => by cases e; exact hg)⟩
    have := hc.cells (g := g) rfl i (.int .i64 l[i]) (by simp [intC, hi])
    have hadd : (⟨g, 0, none⟩ : Addr).add i = ⟨g, 0 + i, none⟩ := by unfold Addr.add; split <;> simp_all
    rw [hadd] at this
    rw [this]; simp [hi]
theorem zs_of (l : List Int) : zs (fun i => l[i]?.getD 0) l.length = l := by
  apply List.ext_getElem
  · simp [zs]
  · intro i h1 h2; simp [zs, h2]
theorem zs_take (z : Nat → Int) {i n : Nat} (h : i ≤ n) : (zs z n).take i = zs z i := by
  unfold zs; rw [← List.map_take]; congr 1
  rw [List.take_range, Nat.min_eq_left h]
theorem zs_drop (z : Nat → Int) (i n : Nat) : (zs z n).drop i = zs (fun j => z (j + i)) (n - i) := by
  apply List.ext_getElem
  · simp [zs]
  · intro j h1 h2; simp [zs, Nat.add_comm]
theorem IntsIn.drop {w : World} {b off len : Nat} {z : Nat → Int} (h : IntsIn w (some ⟨b, off, none⟩) len z) (i : Nat) : IntsIn w (some ⟨b, off + i, none⟩) (len - i) (fun j => z (j + i)) := fun j hj => by
  obtain ⟨b', off', e, hlt, hc⟩ := h (j + i) (by omega)
  cases e
  exact ⟨b, off + i, rfl, hlt, by rw [show off + i + j = off + (j + i) by omega]; exact hc⟩
end Go.Proofs.Ytlgdeadghmbfmaa
