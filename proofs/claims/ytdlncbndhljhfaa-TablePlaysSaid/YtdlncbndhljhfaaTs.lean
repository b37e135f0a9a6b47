/- A table's Set and Get (layer 12). -/
import Derived.Test.YtdlncbndhljhfaaTl
import Derived.Test.YtdlncbndhljhfaaTn
namespace Go.Proofs.Ytdlncbndhljhfaa
open Go.RowKit

/-- A store of a whole task at a step of a region that draws its order. -/
theorem step_store_mid {ops : Array Oper} {o : Oper} {a : Act} {w : World} {K : Act → World → Prop} {Q : Exit → Act → World → Prop} {E : Prop} (hgd : o.guard = none) (x y : Operand) (ho : o.op = .store 38 x y)
    (b p : Nat) (cells : Array Value) (hx : a.eval x = .pointer (some ⟨b, p, none⟩)) (hy : a.eval y = .agg cells)
    (ht : w.there b p cells.size) (hi : (Try.prog.info? 38).map (·.size) = some cells.size) (h1 : cells.all (·.oneCell') = true)
    (h : K (a.put o.dst undef) (w.setCells b p cells.toList)) : if Region.wanted o (yielded ops a.tmps) = true then Oper.wp Try.prog o a w K Q else E := by
  rw [if_pos (by simp [Region.wanted, hgd])]
  exact wp_store_mid 38 x y ho b p cells hx hy ht hi h1 h
def putAll : List Value → Nat → List Value → List Value
  | xs, _, [] => xs
  | xs, o, v :: r => putAll (xs.set o v) (o + 1) r
theorem putAll_len : ∀ (vs xs : List Value) (o : Nat), (putAll xs o vs).length = xs.length
  | [], _, _ => rfl
  | v :: r, xs, o => by rw [putAll, putAll_len r, List.length_set]
theorem putAll_get : ∀ (vs xs : List Value) (o j : Nat), (putAll xs o vs)[j]? = if o ≤ j ∧ j < o + vs.length ∧ j < xs.length then vs[j - o]? else xs[j]?
  | [], xs, o, j => by simp [putAll]; omega
  | v :: r, xs, o, j => by
    rw [putAll, putAll_get r]
    simp only [List.length_set, List.length_cons]
    by_cases h : o + 1 ≤ j ∧ j < o + 1 + r.length ∧ j < xs.length
    · rw [if_pos h, if_pos (by omega), show j - o = (j - (o + 1)) + 1 by omega, List.getElem?_cons_succ]
    · rw [if_neg h]
      by_cases e : j = o
      · subst e
        by_cases hs : j < xs.length
        · rw [if_pos (by omega), Nat.sub_self]; simp [hs]
        · rw [if_neg (by omega)]; simp [hs]
      · rw [List.getElem?_set_ne (Ne.symm e), if_neg (by omega)]
theorem put_flat (ts : List (List Value)) (hl : ∀ x ∈ ts, x.length = 29) (i : Nat) (hi : i < ts.length) (cs : List Value) (hc : cs.length = 29) : putAll ts.flatten (i * 29) cs = (ts.set i cs).flatten := by
  have hl' : ∀ x ∈ ts.set i cs, x.length = 29 := fun x hx => by
    rcases List.mem_or_eq_of_mem_set hx with q | q
    · exact hl x q
    · rw [q]; exact hc
  have e1 := flat_len ts hl
  have e2 := flat_len (ts.set i cs) hl'
  apply List.ext_getElem?
  intro j
  rw [putAll_get]
  by_cases hj : j < ts.length * 29
  · obtain ⟨k, r, hr, rfl⟩ : ∃ k r, r < 29 ∧ j = k * 29 + r := ⟨j / 29, j % 29, Nat.mod_lt _ (by omega), by omega⟩
    have hk : k < ts.length := by omega
    have hx : (ts.set i cs)[k]? = some (if k = i then cs else ts[k]) := by
      rw [List.getElem?_eq_getElem (by simpa using hk), List.getElem_set]
      by_cases e : k = i
      · subst e; simp
      · rw [if_neg (Ne.symm e), if_neg e]
    rw [flat_get _ hl' k _ hx r hr]
    by_cases e : k = i
    · subst e
      rw [if_pos (by omega), if_pos rfl, show k * 29 + r - k * 29 = r by omega]
    · rw [if_neg (by omega), if_neg e, flat_get ts hl k ts[k] (List.getElem?_eq_getElem hk) r hr]
  · rw [if_neg (by omega), List.getElem?_eq_none (by omega), List.getElem?_eq_none (by rw [e2, List.length_set]; omega)]
theorem row_cells : ∀ (vs : List Value) (o : Nat) (w : World) (B g n cap : Nat) (xs : List Value), w.ownsRow B 38 29 (.slice (some ⟨g, 0, none⟩) n cap) n xs →
    (w.setCells g o vs).ownsRow B 38 29 (.slice (some ⟨g, 0, none⟩) n cap) n (putAll xs o vs) ∧ But (fun k => k = g) w (w.setCells g o vs)
  | [], _, w, _, _, _, _, _, h => ⟨h, But.refl _ _⟩
  | v :: r, o, w, B, g, n, cap, xs, h => by
    have h1 := (h.stored o v).1
    obtain ⟨h2, h3⟩ := row_cells r (o + 1) _ B g n cap _ h1
    exact ⟨h2, ((But.refl (fun k => k = g) w).set ⟨g, o, none⟩ v (.inl rfl)).trans h3⟩
section
variable {b c gl gn room : Nat} {v : Value} {ts : List (List Value)} {ls : Nat → List Nat} {w : World}
theorem TabC.stored (h : TabC b c gl gn v room ts ls w) {i : Nat} (hi : i < ts.length) {cs : List Value} (ho : OkT cs) {g cap : Nat} (hv : v = .slice (some ⟨g, 0, none⟩) ts.length cap) :
    TabC b c gl gn v room (ts.set i cs) ls (w.setCells g (i * 29) cs) ∧ But (OwnT b c gl gn v) w (w.setCells g (i * 29) cs) := by
  subst hv
  obtain ⟨h1, h2⟩ := row_cells cs (i * 29) w 0 g ts.length cap ts.flatten h.row
  have hng := h.nev g rfl
  rw [put_flat ts (fun x hx => (h.oks x hx).len) i hi cs ho.len] at h1
  refine ⟨⟨h.own.but h2 (Ne.symm hng.1), by rw [List.length_set]; exact h1, fun x hx => ?_, h.ch.but h2 fun k hk q => hng.2 (q ▸ hk), by rw [List.length_set]; exact h.le, h.lim, h.ne, h.nev⟩, h2.mono fun k _ q => .inr (.inr (by rw [q]; rfl))⟩
  rcases List.mem_or_eq_of_mem_set hx with q | q
  · exact h.oks x q
  · rw [q]; exact ho
theorem TabC.there (h : TabC b c gl gn v room ts ls w) {i : Nat} {x : List Value} (hx : ts[i]? = some x) {g cap : Nat} (hv : v = .slice (some ⟨g, 0, none⟩) ts.length cap) : w.there g (i * 29) 29 := fun j hj => by
  obtain ⟨g', cap', hv', hr, ho⟩ := h.at_ hx
  rw [hv] at hv'; cases hv'
  have hrow := h.row
  rw [hv] at hrow
  exact ⟨by rw [hr j _ (ho.get hj)]; rfl, hrow.frozenAt _⟩
set_option maxHeartbeats 2000000 in
theorem tset_bad (i : Nat) (cs : List Value) (ho : OkT cs) (hm : mayT cs = false) (h : TabC b c gl gn v room ts ls w) (hi : i < ts.length) :
    Calls Try.prog 20 #[.pointer (some ⟨b, 0, none⟩), .int .i64 i, .agg cs.toArray] w (GotB w.heap.size (.int .i64 1) w) := by
  have hB : Below w.heap.size w (w.alloc (.cells cs.toArray 38)) := (Below.refl _ _).alloc (Nat.le_refl _) _
  have H := has_any (i : Int) (h.below hB)
  rw [inB_yes hi] at H
  have HH := Lib.hid H; have HB := Lib.hid hB
  have HX := Lib.hid (BT.new w cs)
  have HI := Lib.hid (infoT.trans (congrArg some ho.len.symm))
  have HM := Lib.hid (may_any cs ho (w.alloc (.cells cs.toArray 38)))
  rw [hm] at HM
  clear H hB ho hm h hi
  go_enter Try.func20, Try.ntmps20
  go_wp2_with (first
    | (with_reducible (show wpList _ _ _ _ _ _); refine wpList_load_mid rfl 38 (.tmp 5) rfl w.heap.size 0 rfl cs _ HX.out.range Try.underlying38 rfl HI.out ?_)
    | (go_at_call 49; (with_reducible refine HH.out.mono ?_); rintro e wq ⟨rfl, rfl⟩)
    | (go_at_call 13; (with_reducible refine HM.out.mono ?_); rintro e w2 ⟨rfl, h2⟩; have H2 := Lib.hid h2; clear h2))
  go_ret
  exact ⟨rfl, HB.out.trans (H2.out.mono HB.out.size)⟩
set_option maxRecDepth 100000 in
set_option maxHeartbeats 4000000 in
theorem tset_at (i : Nat) (cs x : List Value) (ho : OkT cs) (hm : mayT cs = true) (h : TabC b c gl gn v room ts ls w) (hx : ts[i]? = some x) :
    Calls Try.prog 20 #[.pointer (some ⟨b, 0, none⟩), .int .i64 i, .agg cs.toArray] w fun e w' =>
      (fld x 25 = 8 ∧ e = .returned (.int .i64 5) ∧ Below w.heap.size w w') ∨ (fld x 25 ≠ 8 ∧ e = .returned (.int .i64 0) ∧ TabC b c gl gn v room (ts.set i cs) ls w' ∧ But (OwnT b c gl gn v) w w') := by
  have hi := (List.getElem?_eq_some_iff.1 hx).1
  have hB : Below w.heap.size w (w.alloc (.cells cs.toArray 38)) := (Below.refl _ _).alloc (Nat.le_refl _) _
  have H := has_any (i : Int) (h.below hB)
  rw [inB_yes hi] at H
  have HH := Lib.hid H; have HB := Lib.hid hB
  have HX := Lib.hid (BT.new w cs); have HO := Lib.hid ho
  have HI := Lib.hid (infoT.trans (congrArg some ho.len.symm))
  have HM := Lib.hid (may_any cs ho (w.alloc (.cells cs.toArray 38)))
  rw [hm] at HM
  have HT := Lib.hid h; have HXI := Lib.hid hx
  have HXF : Hid (∀ k, OwnT b c gl gn v k → k < w.heap.size) := fun k hk => h.lt hk
  clear H hB ho hm h hx
  go_enter Try.func20, Try.ntmps20
  go_wp2_with (first
    | (with_reducible (show wpList _ _ _ _ _ _); refine wpList_load_mid rfl 38 (.tmp 5) rfl w.heap.size 0 rfl cs _ HX.out.range Try.underlying38 rfl HI.out ?_)
    | (go_at_call 49; (with_reducible refine HH.out.mono ?_); rintro e wq ⟨rfl, rfl⟩))
  refine HM.out.mono ?_
  rintro e w2 ⟨rfl, h2⟩
  dsimp only
  have H2 := Lib.hid (HB.out.trans (h2.mono HB.out.size))
  have HX2 : Hid (BT w2 w.heap.size cs) := HX.out.below h2 (Blk.lt HX.out)
  have HT2 := Lib.hid (HT.out.below H2.out)
  have HE := exited_any HXI.out HT2.out
  clear h2 HX HT HB HM HH
  obtain ⟨XB, hXB⟩ : ∃ k, w.heap.size = k := ⟨_, rfl⟩
  rw [hXB] at H2 HX2 HXF ⊢
  have HXE := Lib.hid hXB
  clear hXB
  by_cases he : fld x 25 = 8
  · rw [show (fld x 25 == 8) = true by simpa using he] at HE
    have HE := Lib.hid HE
    have HEE := Lib.hid he
    clear he
    go_wp2_with (go_at_call 50; (with_reducible refine HE.out.mono ?_); rintro e wq ⟨rfl, rfl⟩)
    go_ret
    exact .inl ⟨HEE.out, rfl, HXE.out ▸ H2.out⟩
  · rw [show (fld x 25 == 8) = false by simpa using he] at HE
    have HE := Lib.hid HE
    have HEE := Lib.hid he
    obtain ⟨g, cap, hv, -, -⟩ := HT2.out.at_ HXI.out
    have c1 := HT2.out.cells.2.1
    rw [hv] at c1
    have HTH := Lib.hid (HT2.out.there HXI.out hv)
    have HST := Lib.hid ((HT2.out.below (Below.refl _ _).drew).stored hi HO.out hv)
    have HXS : Hid (w2.drew.rangeAt XB 0 cs) := BT.range HX2.out
    have i0 : (0 : Int) ≤ (i : Int) := by omega
    have i1 : (i : Int) < (ts.length : Int) := by omega
    have HVG : Hid (v.ownBlock = some g) := by rw [hv]; exact rfl
    clear he hv
    generalize ts.length = n at *
    go_upto_region 7 with (go_at_call 50; (with_reducible refine HE.out.mono ?_); rintro e wq ⟨rfl, rfl⟩)
    have HNE : Hid (g ≠ b ∧ g ≠ XB) := ⟨(HT2.out.nev g HVG.out).1, fun e => by have := HXF.out g (.inr (.inr HVG.out)); omega⟩
    have hS : w2.drew.cell? ⟨b, 1, none⟩ = some (.slice (some ⟨g, 0, none⟩) n cap) ∧ w2.drew.rangeAt XB 0 cs := ⟨c1, HXS.out⟩
    have HS := Lib.hid hS
    have HS2 : Hid ((w2.drew.setCells g (i * 29) cs).cell? ⟨b, 1, none⟩ = some (.slice (some ⟨g, 0, none⟩) n cap) ∧ (w2.drew.setCells g (i * 29) cs).rangeAt XB 0 cs) := ⟨by rw [World.cell?_setCells_out _ _ _ _ _ (fun e _ => absurd e (Ne.symm HNE.out.1))]; exact HS.out.1, World.rangeAt_setCells_apart HS.out.2 _ _ _ (.inl (Ne.symm HNE.out.2))⟩
    clear hS c1
    refine wp_region_held_drew (S := fun W => W.cell? ⟨b, 1, none⟩ = some (.slice (some ⟨g, 0, none⟩) n cap) ∧ W.rangeAt XB 0 cs) (by kernel_rfl) HS.out (fun hHeld => ?_)
    show wpAnyH _ _ _ _ _ _ _ _ _
    try dsimp only at hHeld
    refine wpAnyH_take (i := 0) (v := ?_) rfl (by kernel_rfl) (by kernel_rfl) (by kernel_rfl) (fun _ _ _ h => h) (Or.inl ⟨by rfl, fun W hW => by (obtain ⟨z0, z1⟩ := hW; go_simp <;> with_reducible rfl)⟩) hHeld ?_
    go_simp
    refine wpAnyH_take (i := 1) (v := ?_) rfl (by kernel_rfl) (by kernel_rfl) (by kernel_rfl) (fun _ _ _ h => h) (Or.inl ⟨by rfl, fun W hW => by (obtain ⟨z0, z1⟩ := hW; go_simp <;> with_reducible rfl)⟩) hHeld ?_
    go_simp
    refine wpAnyH_take (i := 2) (v := ?_) rfl (by kernel_rfl) (by kernel_rfl) (by kernel_rfl) (fun _ _ _ h => h) (Or.inl ⟨by rfl, fun W hW => by (obtain ⟨z0, z1⟩ := hW; go_simp <;> with_reducible rfl)⟩) hHeld ?_
    go_simp
    refine wpAnyH_take (i := 3) (v := ?_) rfl (by kernel_rfl) (by kernel_rfl) (by kernel_rfl) (fun _ _ _ h => h) (Or.inl ⟨by rfl, fun W hW => by (obtain ⟨z0, z1⟩ := hW; go_simp <;> with_reducible rfl)⟩) hHeld ?_
    go_simp
    refine wpAnyH_take (i := 4) (v := ?_) rfl (by kernel_rfl) (by kernel_rfl) (by kernel_rfl) (fun _ _ _ h => h) (Or.inl ⟨by rfl, fun W hW => by (obtain ⟨z0, z1⟩ := hW; go_simp <;> with_reducible rfl)⟩) hHeld ?_
    go_simp
    refine wpAnyH_take (i := 5) (v := .agg cs.toArray) rfl (by kernel_rfl) (by kernel_rfl) (by kernel_rfl) (fun _ _ _ h => h) (yieldsIf_load_mid (by rfl) 38 (.tmp 5) rfl XB 0 rfl cs _ (fun W h => h.2) Try.underlying38 rfl HI.out) hHeld ?_
    go_simp
    refine wpAnyH_take (i := 6) (v := ?_) rfl (by kernel_rfl) (by kernel_rfl) (by kernel_rfl) (fun _ _ _ h => h) (Or.inl ⟨by rfl, fun W hW => by (obtain ⟨z0, z1⟩ := hW; go_simp <;> with_reducible rfl)⟩) hHeld ?_
    go_simp
    refine wpAnyH_ready (rs := [7]) (by kernel_rfl) (by simp) (AllReadyH.cons rfl (fun K hK => ?_) AllReadyH.nil)
    refine step_store_mid rfl (.tmp 26) (.tmp 25) rfl g (i * 29) cs.toArray rfl rfl (by rw [List.size_toArray, HO.out.len]; exact HTH.out) HI.out (all_oneCell_toArray HO.out.one) ?_
    refine hK.out _ _ HS2.out (fun hHeld => ?_)
    clear hK K
    refine wpAnyH_done (by kernel_rfl) ?_ _
    go_wp2_with fail
    go_ret
    exact .inr ⟨HEE.out, rfl, HST.out.1, ((But.of_below (HXE.out ▸ H2.out)).drew).trans HST.out.2⟩
end
end Go.Proofs.Ytdlncbndhljhfaa
