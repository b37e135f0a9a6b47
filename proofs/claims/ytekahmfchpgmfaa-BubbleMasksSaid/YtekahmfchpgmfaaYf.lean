/- The document's Turn: what Burst and Regen leave, plainly; a row told longer (layer 13): printed by gen_yf10.py. -/
import Derived.Test.YtekahmfchpgmfaaYe
import Derived.Laws.OwnMore
namespace Go.Proofs.Ytekahmfchpgmfaa
open Go.RowKit
set_option maxRecDepth 100000

theorem inv_pt {bs T : List Bub} (hI : InvB bs) (hl : T.length = bs.length) (h : ∀ (j : Nat) (z : Bub), T[j]? = some z → ∃ y, bs[j]? = some y ∧ z.up = y.up ∧ 1 ≤ z.state ∧ z.state ≤ 4) : InvB T := by
  refine ⟨fun j z hz => ?_, fun j z hz => ?_, by rw [hl]; exact hI.len⟩
  · obtain ⟨y, hy, hu, _⟩ := h j z hz
    rw [hu]; exact hI.up j y hy
  · obtain ⟨y, hy, _, h1, h4⟩ := h j z hz
    exact ⟨h1, h4⟩
section
variable {bs : List Bub} {i : Nat} {x : Bub}
theorem own_not (hI : InvB bs) (hx : bs[i]? = some x) : ownAsk bs (i : Int) i = false := by
  unfold ownAsk
  rw [atB_of hx]
  have := (hI.up i x hx).2
  have e : (x.up == (i : Int)) = false := by simp; omega
  rw [e]; rfl
theorem burst_at (hx : bs[i]? = some x) (h : Int) (ask : Nat → Bool) (hi : ask i = false) (k : Nat) (hk : k ≤ bs.length) (j : Nat) :
    (putOwn (bs.set i { x with state := 4 }) h (selI ask k))[j]? = if j = i then some { x with state := 4 } else if j < k ∧ ask j = true then (bs[j]?).map (fun y => { y with state := 3, home := h }) else bs[j]? := by
  have hil := (List.getElem?_eq_some_iff.1 hx).1
  rw [putOwn_at _ _ _ _ _ (by rw [List.length_set]; exact hk)]
  by_cases e : j = i
  · subst e
    rw [if_pos rfl, if_neg (by rw [hi]; simp), List.getElem?_set_self hil]
  · rw [if_neg e, List.getElem?_set_ne (fun q => e q.symm)]
theorem burst_same (hI : InvB bs) (hx : bs[i]? = some x) (hs : x.state = 3) : burstT bs (i : Int) = putOwn (bs.set i { x with state := 4 }) x.home (selI (ownAsk bs (i : Int)) bs.length) := by
  have hil := (List.getElem?_eq_some_iff.1 hx).1
  have he : burstE bs (i : Int) = 0 := by unfold burstE checkE; rw [inB_of hx, atB_of hx, hs]; rfl
  have hn := own_not hI hx
  unfold burstT
  rw [he, if_pos rfl, atB_of hx, Int.toNat_natCast]
  apply List.ext_getElem?
  intro j
  rw [burst_at hx _ _ hn _ (Nat.le_refl _)]
  by_cases e : j = i
  · subst e
    rw [if_pos rfl, List.getElem?_set_self (by rw [putOwn_len]; exact hil)]
  · rw [if_neg e, List.getElem?_set_ne (fun q => e q.symm)]
    exact putOwn_at bs x.home (ownAsk bs (i : Int)) j bs.length (Nat.le_refl _)
theorem burst_inv (hI : InvB bs) (hx : bs[i]? = some x) (h : Int) : InvB (putOwn (bs.set i { x with state := 4 }) h (selI (ownAsk bs (i : Int)) bs.length)) := by
  refine inv_pt hI (by rw [putOwn_len, List.length_set]) fun j z hz => ?_
  rw [burst_at hx _ _ (own_not hI hx) _ (Nat.le_refl _)] at hz
  by_cases e : j = i
  · subst e
    rw [if_pos rfl] at hz; cases hz
    exact ⟨x, hx, rfl, by simp, by simp⟩
  · rw [if_neg e] at hz
    split at hz
    · obtain ⟨y, hy, rfl⟩ := Option.map_eq_some_iff.1 hz
      exact ⟨y, hy, rfl, by simp, by simp⟩
    · exact ⟨z, hz, rfl, hI.st j z hz⟩
/-- Those that Regen seals: all in it but itself. -/
def insAsk (bs : List Bub) (i : Nat) : Nat → Bool := fun n => !(n == i) && inAsk bs (i : Int) n
theorem regen_at (hx : bs[i]? = some x) (h : Int) (k : Nat) (hk : k ≤ bs.length) (j : Nat) :
    (sealOwn (bs.set i { x with state := 3, home := h }) (selI (insAsk bs i) k))[j]? = if j = i then some { x with state := 3, home := h } else if j < k ∧ inAsk bs (i : Int) j = true then (bs[j]?).map (fun y => { y with state := 2 }) else bs[j]? := by
  have hil := (List.getElem?_eq_some_iff.1 hx).1
  rw [sealOwn_at _ _ _ _ (by rw [List.length_set]; exact hk)]
  by_cases e : j = i
  · subst e
    rw [if_pos rfl, if_neg (by unfold insAsk; simp), List.getElem?_set_self hil]
  · have : insAsk bs i j = inAsk bs (i : Int) j := by unfold insAsk; simp [e]
    rw [if_neg e, List.getElem?_set_ne (fun q => e q.symm), this]
theorem regen_same (hx : bs[i]? = some x) (hs : x.state = 4) (h : Int) : regenT bs (i : Int) h = sealOwn (bs.set i { x with state := 3, home := h }) (selI (insAsk bs i) bs.length) := by
  have hil := (List.getElem?_eq_some_iff.1 hx).1
  have he : regenE bs (i : Int) = 0 := by unfold regenE checkE; rw [inB_of hx, atB_of hx, hs]; rfl
  unfold regenT
  rw [he, if_pos rfl, Int.toNat_natCast]
  apply List.ext_getElem?
  intro j
  rw [regen_at hx _ _ (Nat.le_refl _)]
  have hlen : (sealOwn bs (regenO bs (i : Int))).length = bs.length := sealOwn_len _ _
  have hat : ∀ j : Nat, (sealOwn bs (regenO bs (i : Int)))[j]? = if j < bs.length ∧ inAsk bs (i : Int) j = true then (bs[j]?).map (fun y => { y with state := 2 }) else bs[j]? := fun j => sealOwn_at bs _ j bs.length (Nat.le_refl _)
  by_cases e : j = i
  · subst e
    rw [if_pos rfl, List.getElem?_set_self (by rw [hlen]; exact hil)]
    have hj := hat j
    have hz : ∃ z, (sealOwn bs (regenO bs (j : Int)))[j]? = some z ∧ z.up = x.up ∧ z.mask = x.mask := by
      rw [hj, hx]
      split
      · exact ⟨_, rfl, rfl, rfl⟩
      · exact ⟨_, rfl, rfl, rfl⟩
    obtain ⟨z, hz1, hz2, hz3⟩ := hz
    rw [atB_of hz1]
    show some (⟨z.up, z.mask, 3, h⟩ : Bub) = some ⟨x.up, x.mask, 3, h⟩
    rw [hz2, hz3]
  · rw [if_neg e, List.getElem?_set_ne (fun q => e q.symm)]
    exact hat j
theorem regen_inv (hI : InvB bs) (hx : bs[i]? = some x) (h : Int) : InvB (sealOwn (bs.set i { x with state := 3, home := h }) (selI (insAsk bs i) bs.length)) := by
  refine inv_pt hI (by rw [sealOwn_len, List.length_set]) fun j z hz => ?_
  rw [regen_at hx _ _ (Nat.le_refl _)] at hz
  by_cases e : j = i
  · subst e
    rw [if_pos rfl] at hz; cases hz
    exact ⟨x, hx, rfl, by simp, by simp⟩
  · rw [if_neg e] at hz
    split at hz
    · obtain ⟨y, hy, rfl⟩ := Option.map_eq_some_iff.1 hz
      exact ⟨y, hy, rfl, by simp, by simp⟩
    · exact ⟨z, hz, rfl, hI.st j z hz⟩
end
theorem outS_app {w0 : World} {n : Nat} {Tb : List Bub} {g cap : Nat} {u : Value} {L : List Int} {wr : World} {ops : Array Oper} {rest : List Oper} {o : Oper} {a : Act} {Q : Exit → Act → World → Prop} (hgd : o.guard = none) (s x : Operand) (ho : o.op = .call { callee := .builtin .append, args := #[s, x], argTypes := #[55, 55] })
    (h : OutS w0 n Tb g cap u L wr) (y : Int) (hs : a.eval s = u) (hx : a.eval x = .slice (some ⟨wr.heap.size, 0, none⟩) 1 1) (hl : L.length ≤ 1000)
    (hK : ∀ u' w', OutS w0 n Tb g cap u' (L ++ [y]) w' → wpList Try.prog ops Q rest (a.put o.dst u') w') : wpList Try.prog ops Q (o :: rest) a (wr.alloc (.cells #[.int .i64 y] 3)) := by
  obtain ⟨i0, hi0, hz0, hz1, hz2⟩ := info_parts infoInt
  have hb : (wr.alloc (.cells #[.int .i64 y] 3)).cell? ⟨wr.heap.size, 0, none⟩ = some (.int .i64 y) := (Blk.new wr 3 #[.int .i64 y]).cell 0
  have hB : w0.heap.size ≤ (wr.alloc (.cells #[.int .i64 y] 3)).heap.size := by have := h.old.size; simp; omega
  have hgs : g < wr.heap.size := (h.row.lt g rfl).2
  have hown : (wr.alloc (.cells #[.int .i64 y] 3)).ownsRow w0.heap.size 3 1 u L.length (numC L) := World.ownsRow.alloc h.tl _
  refine wpList_append_lies _ hgd s x 55 ho w0.heap.size 3 i0 _ 1 8 Try.underlying55 hi0 hz0 hz1 hz2 rfl (by decide) u L.length (numC L) hs hown ⟨wr.heap.size, 0, none⟩ 1 1 (numC [y]) hx (by simp [numC]) ?_ (by intro u hu; simp [numC] at hu; rcases hu with rfl; rfl) (by decide) (by unfold maxLen; omega) (by omega) hB _ rfl ?_
  · intro j v hv
    match j, hv with
    | 0, hv =>
      have hadd : (⟨wr.heap.size, 0, none⟩ : Addr).add 0 = ⟨wr.heap.size, 0, none⟩ := by unfold Addr.add; split <;> simp_all
      rw [hadd, hb]; simpa [numC] using hv
    | j + 1, hv => simp [numC] at hv
  · intro g' c' w' own gr hg' hl'
    refine hK _ _ ⟨?_, h.len, ?_, (h.old.alloc h.old.size _).grown gr hB (fun k hk => (hown.lt k hk).1), ?_, h.lo⟩
    · exact row_but (h.row.alloc (.cells #[.int .i64 y] 3)) ((But.refl (fun k => u.ownBlock = some k) _).grown gr (fun k hk => .inl hk)) fun q hq e => h.sep (by rw [e]; exact hq ▸ rfl)
    · unfold MineN
      rw [List.length_append, show numC (L ++ [y]) = numC L ++ numC [y] by simp [numC]]
      exact own
    · intro e
      simp only [Value.ownBlock, Option.some.injEq] at e
      rcases hg' with q | q
      · exact h.sep (by rw [q, e])
      · simp at q; omega
end Go.Proofs.Ytekahmfchpgmfaa
