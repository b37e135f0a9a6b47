/- layer 27 (stuck): the map of who waits, the law's row, a chain as the law looks at it: plain. -/
import Derived.Test.YtogplndhciaoeaaPc
namespace Go.Proofs.Ytogplndhciaoeaa
/-- a map into which a row is written, pair by pair. -/
def putL (m : Int → Option Int) (l : List (Int × Int)) : Int → Option Int := l.foldl (fun m w x => if x = w.1 then some w.2 else m x) m
theorem nxt_cons (w : Int × Int) (l : List (Int × Int)) (x : Int) : nxt (w :: l) x = if w.1 = x then some w.2 else nxt l x := by
  unfold nxt
  rw [List.find?_cons]
  by_cases h : w.1 = x
  · simp [h]
  · rw [if_neg h]
    have : (w.1 == x) = false := by simp [h]
    rw [this]
theorem nxt_none {l : List (Int × Int)} {x : Int} (h : x ∉ l.map (·.1)) : nxt l x = none := by
  match hv : nxt l x with
  | none => rfl
  | some u => exact absurd (nxt_mem hv) h
theorem nxt_some {l : List (Int × Int)} {x : Int} (h : x ∈ l.map (·.1)) : nxt l x ≠ none := by
  induction l with
  | nil => cases h
  | cons w l ih =>
    rw [nxt_cons]
    by_cases c : w.1 = x
    · rw [if_pos c]; exact fun e => by cases e
    · rw [if_neg c]
      rcases List.mem_cons.1 h with e | e
      · exact absurd e.symm c
      · exact ih e
theorem put_nxt (l : List (Int × Int)) : ∀ m : Int → Option Int, (l.map (·.1)).Nodup → ∀ x, putL m l x = (nxt l x).or (m x) := by
  induction l with
  | nil => intro m _ x; rfl
  | cons w l ih =>
    intro m hn x
    rw [List.map_cons, List.nodup_cons] at hn
    show putL (fun x => if x = w.1 then some w.2 else m x) l x = _
    rw [ih _ hn.2 x, nxt_cons]
    by_cases c : w.1 = x
    · subst c
      rw [if_pos rfl, nxt_none hn.1]; simp
    · rw [if_neg c, if_neg fun e => c e.symm]
theorem put_one {l : List (Int × Int)} (hn : (l.map (·.1)).Nodup) (x : Int) : putL (fun _ => none) l x = nxt l x := by
  rw [put_nxt l _ hn x]; cases nxt l x <;> rfl
/-- the law's row: no task twice. -/
def addA (o : List (Int × Int)) (w : Int × Int) : List (Int × Int) := if nxt o w.1 = none then o ++ [w] else o
def apartL (l : List (Int × Int)) : List (Int × Int) := (l.take 30).foldl addA []
theorem addA_one {o : List (Int × Int)} (w : Int × Int) (h : (o.map (·.1)).Nodup) : ((addA o w).map (·.1)).Nodup := by
  unfold addA
  split
  · rename_i hv
    rw [List.map_append, List.nodup_append]
    exact ⟨h, by simp, fun a ha b hb e => by simp at hb; subst hb; subst e; exact nxt_some ha hv⟩
  · exact h
theorem addA_len (o : List (Int × Int)) (w : Int × Int) : (addA o w).length ≤ o.length + 1 := by
  unfold addA; split <;> simp
theorem fold_one (l : List (Int × Int)) : ∀ o : List (Int × Int), (o.map (·.1)).Nodup → ((l.foldl addA o).map (·.1)).Nodup ∧ (l.foldl addA o).length ≤ o.length + l.length := by
  induction l with
  | nil => intro o h; exact ⟨h, Nat.le_refl _⟩
  | cons w l ih =>
    intro o h
    obtain ⟨h1, h2⟩ := ih (addA o w) (addA_one w h)
    refine ⟨h1, ?_⟩
    have := addA_len o w
    rw [List.foldl_cons, List.length_cons]; omega
theorem apart_one (l : List (Int × Int)) : ((apartL l).map (·.1)).Nodup := (fold_one _ [] List.nodup_nil).1
theorem apart_len (l : List (Int × Int)) : (apartL l).length ≤ 30 := by
  have := (fold_one (l.take 30) [] List.nodup_nil).2
  simp at this
  unfold apartL; omega
/-- a chain as the law looks at it. -/
structure Chn (l : List (Int × Int)) (t0 : Int) (c : List Int) : Prop where
  first : c[0]? = some t0
  on : ∀ i (h : i + 1 < c.length), nxt l (c[i]'(by omega)) = some c[i + 1]
  nodup : c.Nodup
  last : ∀ i (h : i + 1 = c.length) u, nxt l (c[i]'(by omega)) = some u → u ∈ c
theorem Fol.chn {l : List (Int × Int)} {t0 s : Int} {a : List Int} (h : Fol l (fun _ => 0) t0 a s) (hs : s ∉ a) (he : ∀ u, nxt l s = some u → u ∈ a ++ [s]) : Chn l t0 (a ++ [s]) := by
  have hp : ∀ i (hi : i < (a ++ [s]).length), itr l i t0 = some (a ++ [s])[i] := fun i hi => by
    by_cases c : i < a.length
    · rw [List.getElem_append_left c]; exact h.path i c
    · obtain rfl : i = a.length := by simp at hi; omega
      rw [List.getElem_append_right (Nat.le_refl _)]; simpa using h.here
  refine ⟨?_, fun i hi => ?_, ?_, fun i hi u hu => ?_⟩
  · have := hp 0 (by simp)
    change some t0 = _ at this
    rw [List.getElem?_eq_getElem (by simp)]; exact this.symm
  · have h1 := hp (i + 1) hi
    rw [itr_add, hp i (by omega)] at h1
    exact (itr_one l _).symm.trans h1
  · rw [List.nodup_append]
    exact ⟨h.nodup, by simp, fun x hx y hy e => by simp at hy; subst hy; subst e; exact hs hx⟩
  · obtain rfl : i = a.length := by simp at hi; omega
    rw [List.getElem_append_right (Nat.le_refl _)] at hu
    exact he u (by simpa using hu)
end Go.Proofs.Ytogplndhciaoeaa
