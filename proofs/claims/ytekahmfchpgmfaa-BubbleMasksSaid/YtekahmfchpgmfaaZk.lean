/- A number put at the front of a row (slices.Insert) (layer 13). -/
import Derived.Test.YtekahmfchpgmfaaZg
import Derived.Test.YtekahmfchpgmfaaZb
namespace Go.Proofs.Ytekahmfchpgmfaa
open Go.RowKit
set_option maxRecDepth 100000

theorem mine_of_cells {B g cap : Nat} {cur : Array Value} {L : List Int} {W : World} (hW : Blk W g 3 cur) (hB : B ≤ g) (hn : L.length ≤ cap) (hc : cap ≤ maxLen) (hs : cur.size = cap)
    (hcell : ∀ j x, L[j]? = some x → W.cell? ⟨g, j, none⟩ = some (.int .i64 x)) : MineN B (.slice (some ⟨g, 0, none⟩) L.length cap) L W := by
  refine ⟨by rw [numC_length]; omega, .inr ⟨g, cap, cur, rfl, hB, hW, hn, hc, by omega, ?_⟩⟩
  apply List.ext_getElem?
  intro j
  rw [List.getElem?_take]
  by_cases h : j < L.length
  · rw [if_pos (by omega)]
    have h1 := hcell j L[j] (List.getElem?_eq_getElem h)
    rw [hW.cell] at h1
    rw [Array.getElem?_toList, h1]
    simp [numC, h]
  · rw [if_neg (by omega), List.getElem?_eq_none (by rw [numC_length]; omega)]
theorem setCells_blk (g : Nat) (t : TypeId) : ∀ (vs : List Value) (o : Nat) (w : World) (cur : Array Value), Blk w g t cur → ∃ cur', Blk (w.setCells g o vs) g t cur' ∧ cur'.size = cur.size
  | [], _, _, cur, h => ⟨cur, h, rfl⟩
  | v :: r, o, w, cur, h => by
    obtain ⟨c, h1, h2⟩ := setCells_blk g t r (o + 1) _ _ (h.set_ o v)
    exact ⟨c, h1, by simpa using h2⟩
theorem But.setCells {X : Nat → Prop} (g : Nat) : ∀ (vs : List Value) (o : Nat) {a w : World}, But X a w → (X g ∨ a.heap.size ≤ g) → But X a (w.setCells g o vs)
  | [], _, _, _, h, _ => h
  | v :: r, o, _, _, h, hg => But.setCells g r (o + 1) (h.set ⟨g, o, none⟩ v hg) hg
theorem numC_get {L : List Int} {j : Nat} {v : Value} (h : (numC L)[j]? = some v) : ∃ x, L[j]? = some x ∧ v = .int .i64 x := by
  unfold numC at h
  rw [List.getElem?_map] at h
  cases hx : L[j]? with
  | none => rw [hx] at h; simp at h
  | some x => rw [hx] at h; exact ⟨x, rfl, by simpa using h.symm⟩
theorem numC_one (L : List Int) : ∀ v ∈ numC L, v.oneCell' = true := fun v hv => by
  unfold numC at hv
  obtain ⟨x, _, rfl⟩ := List.mem_map.1 hv
  rfl
/-- A number at the front of a row of the call's own. -/
theorem ins_front {B : Nat} {u : Value} {L : List Int} {W : World} (h : MineN B u L W) (hl : L.length ≤ 1000) (hB : B ≤ W.heap.size) (vb : Nat) (x : Int) (hv : Blk W vb 3 #[.int .i64 x]) (hvu : u.ownBlock ≠ some vb) :
    Calls Try.prog 58 #[u, .int .i64 0, .slice (some ⟨vb, 0, none⟩) 1 1] W fun e W' => ∃ u', e = .returned u' ∧ MineN B u' (x :: L) W' ∧ Below B W W' := by
  have hvs : ∀ (j : Nat) (v : Value), [Value.int .i64 x][j]? = some v → W.cell? ⟨vb, 0 + j, none⟩ = some v := fun j v hj => by
    match j, hj with
    | 0, hj => rw [hv.cell]; simpa using hj
    | j + 1, hj => simp at hj
  have h1v : ∀ v ∈ [Value.int .i64 x], v.oneCell' = true := fun v hv => by simp at hv; subst hv; rfl
  have fresh : ∀ (c : Nat) (base : Option Addr) (hc : c < 1) (hnil : base = none ∨ ∃ g, base = some ⟨g, 0, none⟩) (_ : L = []),
      Calls Try.prog 58 #[.slice base 0 c, .int .i64 0, .slice (some ⟨vb, 0, none⟩) 1 1] W fun e W' => ∃ u', e = .returned u' ∧ MineN B u' (x :: L) W' ∧ Below B W W' := fun c base hc hnil hL => by
    subst hL
    refine (Any2.slices_Insert_int_end_grow insLays base 0 c vb 0 1 1 [] [.int .i64 x] W (by omega) (by omega) (by omega) (by decide) rfl rfl (fun _ => rfl) (fun a _ j v hj => by simp at hj) hvs h1v).mono ?_
    rintro e W' ⟨rfl, rfl⟩
    have hge := grownCap_ge W (0 + 1) c (insRen.t 3)
    have hle := grownCap_le_maxLen W (0 + 1) c (insRen.t 3) (by unfold maxLen; omega)
    generalize grownCap W (0 + 1) c (insRen.t 3) = cp at *
    refine ⟨_, rfl, mine_of_cells (L := [x]) (Blk.new W.drew _ _) hB (by simpa using hge) hle ?_ ?_, (Below.refl _ _).drew.alloc hB _⟩
    · rw [Array.size_append, size_zeroCells]; simp [Value.cells]; omega
    · intro j y hj
      match j, hj with
      | 0, hj =>
        have := (Blk.new W.drew 3 (([] ++ [Value.int .i64 x]).toArray ++ Builtin.zeroCells (Value.int IntKind.i64 0).cells (cp - (0 + 1)))).cell 0
        refine this.trans ?_
        rw [Array.getElem?_append_left (by simp)]
        simpa using hj
      | j + 1, hj => simp at hj
  rcases h.2 with ⟨rfl, hn⟩ | ⟨g, cap, cur, rfl, hbb, hgg, hcap, hcm, hcs, htk⟩
  · have hL : L = [] := by cases L with | nil => rfl | cons a r => simp at hn
    have := fresh 0 none (by omega) (.inl rfl) hL
    exact this
  · have hvg : vb ≠ g := fun e => hvu (by rw [e]; rfl)
    have hlt := (Array.getElem?_eq_some_iff.1 hgg).1
    have hG : Blk W g 3 cur := hgg
    have hcell : ∀ j v, (numC L)[j]? = some v → W.cell? ⟨g, 0 + j, none⟩ = some v := fun j v hj => by
      have := h.cells (g := g) rfl j v hj
      have hadd : (⟨g, 0, none⟩ : Addr).add j = ⟨g, 0 + j, none⟩ := by unfold Addr.add; split <;> simp_all
      rwa [hadd] at this
    have hsome : ∀ j, j < cap → (W.cell? ⟨g, 0 + j, none⟩).isSome = true := fun j hj => by
      obtain ⟨z, hz⟩ := hG.has (i := j) (by omega)
      rw [Nat.zero_add, hz]; rfl
    by_cases hroom : L.length + 1 ≤ cap
    · by_cases h0 : L.length = 0
      · have hL : L = [] := List.length_eq_zero_iff.1 h0
        subst hL
        refine (Any2.slices_Insert_int_end_room insLays g 0 0 cap vb 0 1 1 [.int .i64 x] W (by omega) (by simpa using hroom) (by unfold maxLen at hcm; omega) rfl (fun j hj => hsome j (by simp at hroom; omega)) (fun j _ => hG.free _) hvs h1v).mono ?_
        rintro e W' ⟨rfl, rfl⟩
        obtain ⟨c', hc', hs'⟩ := setCells_blk g 3 [.int .i64 x] (0 + 0) W cur hG
        refine ⟨_, rfl, mine_of_cells (L := [x]) hc' hbb (by simpa using hroom) hcm (by rw [hs']; omega) ?_, (But.setCells g _ _ (But.refl (fun k => k = g) W) (.inl rfl)).below hB fun k _ e => by rw [e]; exact hbb⟩
        intro j y hj
        match j, hj with
        | 0, hj =>
          have := World.cell?_setCells_in g [.int .i64 x] 0 W (fun j hj => hsome j (by simp at hj hroom; omega)) 0 (by simp)
          rw [this]; simpa using hj
        | j + 1, hj => simp at hj
      · refine (Any2.slices_Insert_int_shift insLays g 0 L.length cap 0 vb 0 1 1 (numC L) [.int .i64 x] W (by omega) (by omega) hroom (by unfold maxLen at hcm; omega) hvg (numC_length L) rfl hcell (fun j hj => hsome j (by omega)) (fun j _ => hG.free _) hvs (numC_one L) h1v 3 3 1 cap
          (by unfold World.shape?; rw [show W.heap[vb]? = _ from hv]; rfl) (by unfold World.shape?; rw [show W.heap[g]? = _ from hG]; simp; omega) (by omega) (hv.free _) (hv.free _)).mono ?_
        rintro e W' ⟨rfl, rfl⟩
        obtain ⟨c1, hc1, hs1⟩ := setCells_blk g 3 ((numC L).drop 0) (0 + (0 + 1)) W.drew cur hG
        obtain ⟨c2, hc2, hs2⟩ := setCells_blk g 3 [.int .i64 x] (0 + 0) _ c1 hc1
        have hsome1 : ∀ j, j < cap → ((W.drew.setCells g (0 + (0 + 1)) ((numC L).drop 0)).cell? ⟨g, j, none⟩).isSome = true := fun j hj => by
          obtain ⟨z, hz⟩ := hc1.has (i := j) (by omega)
          rw [hz]; rfl
        refine ⟨_, rfl, mine_of_cells (L := x :: L) hc2 hbb (by simpa using hroom) hcm (by omega) ?_, (But.setCells g _ _ (But.setCells g _ _ ((But.refl (fun k => k = g) W).drew) (.inl rfl)) (.inl rfl)).below hB fun k _ e => by rw [e]; exact hbb⟩
        intro j y hj
        match j, hj with
        | 0, hj =>
          have := World.cell?_setCells_in g [.int .i64 x] (0 + 0) (W.drew.setCells g (0 + (0 + 1)) ((numC L).drop 0)) (fun j hj => by simp at hj; subst hj; exact hsome1 0 (by omega)) 0 (by simp)
          refine this.trans ?_
          simpa using hj
        | j + 1, hj =>
          rw [World.cell?_setCells_out g [.int .i64 x] (0 + 0) _ _ (fun _ _ => by right; simp)]
          have hj' : L[j]? = some y := by simpa using hj
          have hjl := (List.getElem?_eq_some_iff.1 hj').1
          have := World.cell?_setCells_in g ((numC L).drop 0) (0 + (0 + 1)) W.drew (fun j hj => by
            rw [List.drop_zero, numC_length] at hj
            have := hsome (1 + j) (by omega)
            simpa [Nat.add_assoc] using this) j (by rw [List.drop_zero, numC_length]; exact hjl)
          rw [show 0 + (0 + 1) + j = j + 1 by omega] at this
          refine this.trans ?_
          simp [numC]
          exact (List.getElem?_eq_some_iff.1 hj').2
    · by_cases h0 : L.length = 0
      · have hL : L = [] := List.length_eq_zero_iff.1 h0
        have := fresh cap (some ⟨g, 0, none⟩) (by omega) (.inr ⟨g, rfl⟩) hL
        subst hL
        exact this
      · refine (Any2.slices_Insert_int_grow insLays g 0 L.length cap 0 vb 0 1 1 (numC L) [.int .i64 x] W (by omega) (by omega) hcap (by omega) (by omega) (numC_length L) rfl hcell hvs (numC_one L) h1v).mono ?_
        rintro e W' ⟨rfl, rfl⟩
        have hge := grownCap_ge W (L.length + 1) cap (insRen.t 3)
        have hle := grownCap_le_maxLen W (L.length + 1) cap (insRen.t 3) (by unfold maxLen; omega)
        generalize grownCap W (L.length + 1) cap (insRen.t 3) = cp at *
        obtain ⟨A, hA⟩ : ∃ A, (((numC L).take 0).toArray ++ Builtin.zeroCells (Value.int IntKind.i64 0).cells (L.length + 1 - 0) ++ Builtin.zeroCells (Value.int IntKind.i64 0).cells (cp - (L.length + 1)) : Array Value) = A := ⟨_, rfl⟩
        have hAs : A.size = cp := by
          rw [← hA, Array.size_append, Array.size_append, size_zeroCells, size_zeroCells]; simp [Value.cells]; omega
        rw [hA]
        have hN : Blk (W.alloc (.cells A 3)).drew W.heap.size 3 A := Blk.new W _ _
        obtain ⟨c1, hc1, hs1⟩ := setCells_blk W.heap.size 3 [.int .i64 x] 0 _ A hN
        obtain ⟨c2, hc2, hs2⟩ := setCells_blk W.heap.size 3 ((numC L).drop 0) (0 + 1) _ c1 (show Blk ((W.alloc (.cells A 3)).drew.setCells W.heap.size 0 [.int .i64 x]).drew W.heap.size _ _ from hc1)
        have hsomeN : ∀ j, j < cp → ((W.alloc (.cells A 3)).drew.cell? ⟨W.heap.size, j, none⟩).isSome = true := fun j hj => by
          obtain ⟨z, hz⟩ := hN.has (i := j) (by omega)
          rw [hz]; rfl
        have hsome1 : ∀ j, j < cp → (((W.alloc (.cells A 3)).drew.setCells W.heap.size 0 [.int .i64 x]).drew.cell? ⟨W.heap.size, j, none⟩).isSome = true := fun j hj => by
          obtain ⟨z, hz⟩ := (show Blk ((W.alloc (.cells A 3)).drew.setCells W.heap.size 0 [.int .i64 x]).drew W.heap.size _ _ from hc1).has (i := j) (by omega)
          rw [hz]; rfl
        refine ⟨_, rfl, mine_of_cells (L := x :: L) hc2 hB (by simpa using hge) hle (by omega) ?_, (But.setCells W.heap.size _ _ (But.drew (But.setCells W.heap.size _ _ ((But.refl Nob W).alloc _).drew (.inr (Nat.le_refl _)))) (.inr (Nat.le_refl _))).below hB fun k _ e => e.elim⟩
        intro j y hj
        match j, hj with
        | 0, hj =>
          rw [World.cell?_setCells_out W.heap.size ((numC L).drop 0) (0 + 1) _ _ (fun _ _ => by left; simp)]
          have := World.cell?_setCells_in W.heap.size [.int .i64 x] 0 (W.alloc (.cells A 3)).drew (fun j hj => by simp at hj; subst hj; exact hsomeN 0 (by omega)) 0 (by simp)
          refine this.trans ?_
          simpa using hj
        | j + 1, hj =>
          have hj' : L[j]? = some y := by simpa using hj
          have hjl := (List.getElem?_eq_some_iff.1 hj').1
          have := World.cell?_setCells_in W.heap.size ((numC L).drop 0) (0 + 1) ((W.alloc (.cells A 3)).drew.setCells W.heap.size 0 [.int .i64 x]).drew (fun j hj => by
            rw [List.drop_zero, numC_length] at hj
            exact hsome1 _ (by omega)) j (by rw [List.drop_zero, numC_length]; exact hjl)
          rw [show 0 + 1 + j = j + 1 by omega] at this
          refine this.trans ?_
          simp [numC]
          exact (List.getElem?_eq_some_iff.1 hj').2
end Go.Proofs.Ytekahmfchpgmfaa
