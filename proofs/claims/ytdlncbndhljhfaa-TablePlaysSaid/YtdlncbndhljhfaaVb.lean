/- The document's table in memory; its Room and Set (layer 12). -/
import Derived.Test.YtdlncbndhljhfaaTw
namespace Go.Proofs.Ytdlncbndhljhfaa
open Go.RowKit

def wsL : List (Nat × Nat) → List Value
  | [] => []
  | x :: r => .int .i64 x.1 :: .int .i64 x.2 :: wsL r
theorem wsL_len : ∀ ws : List (Nat × Nat), (wsL ws).length = ws.length * 2
  | [] => rfl
  | x :: r => by simp [wsL, wsL_len r]; omega
theorem wsL_app : ∀ (a b : List (Nat × Nat)), wsL (a ++ b) = wsL a ++ wsL b
  | [], b => rfl
  | x :: r, b => by simp [wsL, wsL_app r b]
theorem wsL_get : ∀ (ws : List (Nat × Nat)) (i : Nat) (x : Nat × Nat), ws[i]? = some x → (wsL ws)[i * 2]? = some (.int .i64 x.1) ∧ (wsL ws)[i * 2 + 1]? = some (.int .i64 x.2)
  | [], _, _, h => by simp at h
  | y :: r, 0, x, h => by simp at h; subst h; exact ⟨rfl, rfl⟩
  | y :: r, i + 1, x, h => by
    have := wsL_get r i x (by simpa using h)
    rw [show (i + 1) * 2 = i * 2 + 1 + 1 by omega]
    exact this
/-- The document's table: its block, its tasks' row, its waits' row. -/
structure TabR (tb : Nat) (vL vW : Value) (most : Nat) (ts : List (List Value)) (ws : List (Nat × Nat)) (w : World) : Prop where
  own : Blk w tb 30 #[.int .i64 most, vL, vW]
  row : w.ownsRow 0 38 29 vL ts.length ts.flatten
  oks : ∀ x ∈ ts, OkT x
  wts : w.ownsRow 0 121 2 vW ws.length (wsL ws)
  lim : ts.length ≤ 256 ∧ ws.length ≤ 256
def OwnR (tb : Nat) (vL vW : Value) : Nat → Prop := fun k => k = tb ∨ vL.ownBlock = some k ∨ vW.ownBlock = some k
theorem row_type {w : World} {B n sz g : Nat} {t u : TypeId} {v : Value} {xs : List Value} {cs : Array Value} (h : w.ownsRow B t sz v n xs) (hg : v.ownBlock = some g) (hb : Blk w g u cs) : t = u := by
  rcases h.2 with ⟨rfl, _⟩ | ⟨g', cap, cur, rfl, _, hgg, _⟩
  · simp [Value.ownBlock] at hg
  · simp [Value.ownBlock] at hg
    subst hg
    have := hgg.symm.trans hb
    simp at this; exact this.2
section
variable {tb most : Nat} {vL vW : Value} {ts : List (List Value)} {ws : List (Nat × Nat)} {w w' : World}
theorem TabR.nL (h : TabR tb vL vW most ts ws w) {g : Nat} (hg : vL.ownBlock = some g) : g ≠ tb := fun e => by
  have := row_type h.row hg (e ▸ h.own)
  exact absurd this (by decide)
theorem TabR.nW (h : TabR tb vL vW most ts ws w) {g : Nat} (hg : vW.ownBlock = some g) : g ≠ tb := fun e => by
  have := row_type h.wts hg (e ▸ h.own)
  exact absurd this (by decide)
theorem TabR.nLW (h : TabR tb vL vW most ts ws w) {g k : Nat} (hg : vL.ownBlock = some g) (hk : vW.ownBlock = some k) : g ≠ k := fun e => by
  subst e
  obtain ⟨cs, hb⟩ : ∃ cs, Blk w g 121 cs := by
    rcases h.wts.2 with ⟨rfl, _⟩ | ⟨g', cap, cur, rfl, _, hgg, _⟩
    · simp [Value.ownBlock] at hk
    · simp [Value.ownBlock] at hk; subst hk; exact ⟨cur, hgg⟩
  have := row_type h.row hg hb
  exact absurd this (by decide)
theorem TabR.but {X : Nat → Prop} (h : TabR tb vL vW most ts ws w) (hb : But X w w') (hX : ∀ k, OwnR tb vL vW k → ¬ X k) : TabR tb vL vW most ts ws w' :=
  ⟨h.own.but hb (hX _ (.inl rfl)), row_but h.row hb (fun g hg => hX g (.inr (.inl hg))), h.oks, row_but h.wts hb (fun g hg => hX g (.inr (.inr hg))), h.lim⟩
theorem TabR.lt (h : TabR tb vL vW most ts ws w) {k : Nat} (hk : OwnR tb vL vW k) : k < w.heap.size := by
  rcases hk with rfl | hk | hk
  · exact h.own.lt
  · exact (h.row.lt k hk).2
  · exact (h.wts.lt k hk).2
theorem TabR.below (h : TabR tb vL vW most ts ws w) (hb : Below w.heap.size w w') : TabR tb vL vW most ts ws w' :=
  h.but (But.of_below (X := Nob) hb) fun _ _ q => q
theorem rowForm {B n : Nat} {t : TypeId} {sz : Nat} {v : Value} {xs : List Value} (h : w.ownsRow B t sz v n xs) : (v = .slice none 0 0 ∧ n = 0) ∨ ∃ g cap, v = .slice (some ⟨g, 0, none⟩) n cap := by
  rcases h.2 with ⟨e, hn⟩ | ⟨g, cap, cur, e, _⟩
  · exact .inl ⟨e, hn⟩
  · exact .inr ⟨g, cap, e⟩
theorem TabR.at_ (h : TabR tb vL vW most ts ws w) {i : Nat} {x : List Value} (hx : ts[i]? = some x) : ∃ g cap, vL = .slice (some ⟨g, 0, none⟩) ts.length cap ∧ w.rangeAt g (i * 29) x ∧ OkT x := by
  have hok := h.oks x (List.mem_of_getElem? hx)
  have hil := (List.getElem?_eq_some_iff.1 hx).1
  rcases rowForm h.row with ⟨_, e⟩ | ⟨g, cap, rfl⟩
  · omega
  · refine ⟨g, cap, rfl, fun j u hj => ?_, hok⟩
    have hjl : j < 29 := by have := (List.getElem?_eq_some_iff.1 hj).1; rwa [hok.len] at this
    rw [h.row.cellAt (i * 29 + j) (by omega), flat_get ts (fun y hy => (h.oks y hy).len) i x hx j hjl]
    exact hj
theorem TabR.cells (h : TabR tb vL vW most ts ws w) : w.cell? ⟨tb, 0, none⟩ = some (.int .i64 most) ∧ w.cell? ⟨tb, 1, none⟩ = some vL ∧ w.cell? ⟨tb, 2, none⟩ = some vW :=
  ⟨h.own.cell 0, h.own.cell 1, h.own.cell 2⟩
theorem TabR.stored (h : TabR tb vL vW most ts ws w) {i : Nat} (hi : i < ts.length) {cs : List Value} (ho : OkT cs) {g cap : Nat} (hv : vL = .slice (some ⟨g, 0, none⟩) ts.length cap) :
    TabR tb vL vW most (ts.set i cs) ws (w.setCells g (i * 29) cs) ∧ But (OwnR tb vL vW) w (w.setCells g (i * 29) cs) := by
  subst hv
  obtain ⟨h1, h2⟩ := row_cells cs (i * 29) w 0 g ts.length cap ts.flatten h.row
  rw [put_flat ts (fun x hx => (h.oks x hx).len) i hi cs ho.len] at h1
  refine ⟨⟨h.own.but h2 (Ne.symm (h.nL rfl)), by rw [List.length_set]; exact h1, fun x hx => ?_, row_but h.wts h2 (fun k hk e => h.nLW rfl hk e.symm), by rw [List.length_set]; exact h.lim⟩, h2.mono fun k _ q => .inr (.inl (by rw [q]; rfl))⟩
  rcases List.mem_or_eq_of_mem_set hx with q | q
  · exact h.oks x q
  · rw [q]; exact ho
theorem TabR.there (h : TabR tb vL vW most ts ws w) {i : Nat} {x : List Value} (hx : ts[i]? = some x) {g cap : Nat} (hv : vL = .slice (some ⟨g, 0, none⟩) ts.length cap) : w.there g (i * 29) 29 := fun j hj => by
  obtain ⟨g', cap', hv', hr, ho⟩ := h.at_ hx
  rw [hv] at hv'; cases hv'
  have hrow := h.row
  rw [hv] at hrow
  exact ⟨by rw [hr j _ (ho.get hj)]; rfl, hrow.frozenAt _⟩
/-- What Set answers, and the tasks behind it. -/
def setE (ts : List (List Value)) (i : Int) (cs : List Value) : Int := if 0 ≤ i ∧ i < (ts.length : Int) then (if mayT cs then (if fld (ts[i.toNat]?.getD []) 25 = 8 then 5 else 0) else 1) else 3
def setT (ts : List (List Value)) (i : Int) (cs : List Value) : List (List Value) := if setE ts i cs = 0 then ts.set i.toNat cs else ts
set_option maxHeartbeats 2000000 in
theorem refRoom_any (room : Int) (r : Nat) (hr : min (max room 0) 256 = (r : Int)) (w : World) : Calls Try.prog 11 #[.int .i64 room] w fun e w' => e = .returned (.int .i64 r) ∧ w = w' := by
  by_cases h0 : room < 0
  · obtain rfl : r = 0 := by omega
    have t : decide (room < 0) = true := by simpa using h0
    go_enter Try.func11, Try.ntmps11
    go_wp2
    go_ret
    exact ⟨rfl, rfl⟩
  · have t : decide (room < 0) = false := by simpa using h0
    by_cases h1 : 256 < room
    · obtain rfl : r = 256 := by omega
      have t1 : decide (256 < room) = true := by simpa using h1
      go_enter Try.func11, Try.ntmps11
      go_wp2
      go_ret
      exact ⟨rfl, rfl⟩
    · obtain rfl : room = (r : Int) := by omega
      have t1 : decide (256 < (r : Int)) = false := by simpa using h1
      go_enter Try.func11, Try.ntmps11
      go_wp2
      go_ret
      exact ⟨rfl, rfl⟩
set_option maxRecDepth 100000 in
set_option maxHeartbeats 4000000 in
theorem dset_any (i : Int) (cs : List Value) (ho : OkT cs) (h : TabR tb vL vW most ts ws w) :
    Calls Try.prog 44 #[.pointer (some ⟨tb, 0, none⟩), .int .i64 i, .agg cs.toArray] w fun e w' => e = .returned (.int .i64 (setE ts i cs)) ∧ TabR tb vL vW most (setT ts i cs) ws w' ∧ But (OwnR tb vL vW) w w' := by
  have hB : Below w.heap.size w (w.alloc (.cells cs.toArray 38)) := (Below.refl _ _).alloc (Nat.le_refl _) _
  have HB := Lib.hid hB
  have HX := Lib.hid (BT.new w cs); have HO := Lib.hid ho
  have HI := Lib.hid (infoT.trans (congrArg some ho.len.symm))
  have HM := Lib.hid (refMay_any cs ho (w.alloc (.cells cs.toArray 38)))
  have HT := Lib.hid h
  have hT := h.below hB
  have c1 := hT.cells.2.1
  have HXF : Hid (∀ k, OwnR tb vL vW k → k < w.heap.size) := fun k hk => h.lt hk
  have hlim := h.lim
  by_cases hin : 0 ≤ i ∧ i < (ts.length : Int)
  · obtain ⟨k, rfl⟩ : ∃ k : Nat, i = k := ⟨i.toNat, by omega⟩
    obtain ⟨x, hx⟩ : ∃ x, ts[k]? = some x := ⟨_, List.getElem?_eq_getElem (by omega)⟩
    have hk : k < ts.length := by omega
    have hse : setE ts (k : Int) cs = if mayT cs then (if fld x 25 = 8 then 5 else 0) else 1 := by
      unfold setE; rw [if_pos hin, show (k : Int).toNat = k by omega, hx]; rfl
    obtain ⟨g, cap, hv, -, -⟩ := hT.at_ hx
    have HV := Lib.hid hv
    rw [hv] at c1
    have t0 : decide ((k : Int) < 0) = false := by simp
    have t1 : decide ((ts.length : Int) ≤ (k : Int)) = false := by simp; omega
    have i0 : (0 : Int) ≤ (k : Int) := by omega
    have i1 : (k : Int) < (ts.length : Int) := by omega
    have HXI := Lib.hid hx
    cases hm : mayT cs with
    | false =>
      rw [hm] at HM hse
      have hst : setT ts (k : Int) cs = ts := by unfold setT; rw [hse]; rfl
      rw [hse, hst]
      clear hse hst hB h hT hv hx ho hin
      generalize ts.length = n at *
      go_enter Try.func44, Try.ntmps44
      go_wp2_with (first
        | (with_reducible (show wpList _ _ _ _ _ _); refine wpList_load_mid rfl 38 (.tmp 5) rfl w.heap.size 0 rfl cs _ HX.out.range Try.underlying38 rfl HI.out ?_)
        | (go_at_call 14; (with_reducible refine HM.out.mono ?_); rintro e w2 ⟨rfl, h2⟩; have H2 := Lib.hid (HB.out.trans (h2.mono HB.out.size)); clear h2))
      go_ret
      exact ⟨rfl, HT.out.below H2.out, But.of_below H2.out⟩
    | true =>
      rw [hm] at HM hse
      simp only [↓reduceIte] at hse
      have HSTT : Hid (fld x 25 ≠ 8 → setE ts (k : Int) cs = 0 ∧ setT ts (k : Int) cs = ts.set k cs) := fun h => by
        have e : setE ts (k : Int) cs = 0 := by rw [hse, if_neg h]
        refine ⟨e, ?_⟩
        unfold setT; rw [e, if_pos rfl, show (k : Int).toNat = k by omega]
      have HSTN : Hid (fld x 25 = 8 → setE ts (k : Int) cs = 5 ∧ setT ts (k : Int) cs = ts) := fun h => by
        have e : setE ts (k : Int) cs = 5 := by rw [hse, if_pos h]
        refine ⟨e, ?_⟩
        unfold setT; rw [e]; rfl
      clear hse hB h hT hv ho hin
      generalize setE ts (k : Int) cs = sE at *
      generalize setT ts (k : Int) cs = sT at *
      go_enter Try.func44, Try.ntmps44
      go_wp2_with (first
        | (with_reducible (show wpList _ _ _ _ _ _); refine wpList_load_mid rfl 38 (.tmp 5) rfl w.heap.size 0 rfl cs _ HX.out.range Try.underlying38 rfl HI.out ?_))
      refine HM.out.mono ?_
      rintro e w2 ⟨rfl, h2⟩
      dsimp only
      have H2 := Lib.hid (HB.out.trans (h2.mono HB.out.size))
      have HX2 : Hid (BT w2 w.heap.size cs) := HX.out.below h2 (Blk.lt HX.out)
      have HT2 := Lib.hid (HT.out.below H2.out)
      clear h2 HX HT HB HM c1
      obtain ⟨XB, hXB⟩ : ∃ k, w.heap.size = k := ⟨_, rfl⟩
      rw [hXB] at H2 HX2 HXF
      have HXE := Lib.hid hXB
      rw [hXB]
      clear hXB
      have c1 := HT2.out.cells.2.1
      rw [HV.out] at c1
      obtain ⟨g', cap', hv', hr, hxo⟩ := HT2.out.at_ HXI.out
      rw [HV.out] at hv'
      cases hv'
      have y := hr 25 _ (hxo.get (by omega))
      rw [show kindT 25 = .i64 from rfl] at y
      have HTH := Lib.hid (HT2.out.there HXI.out HV.out)
      have HST := Lib.hid ((HT2.out.below (Below.refl _ _).drew).stored hk HO.out HV.out)
      have HXS : Hid (w2.drew.rangeAt XB 0 cs) := BT.range HX2.out
      have HVG : Hid (vL.ownBlock = some g) := by rw [HV.out]; exact rfl
      clear hr hxo hx hk
      generalize fld x 25 = f at *
      generalize ts.length = n at *
      by_cases he : f = 8
      · have t8 : (f == 8) = true := by simpa using he
        obtain ⟨rfl, rfl⟩ := HSTN.out he
        clear he HSTT HSTN
        go_wp2_with fail
        go_ret
        exact ⟨rfl, HT2.out, But.of_below (HXE.out ▸ H2.out)⟩
      · have t8 : (f == 8) = false := by simpa using he
        obtain ⟨rfl, rfl⟩ := HSTT.out he
        clear he HSTT HSTN
        have HNE : Hid (g ≠ tb ∧ g ≠ XB) := ⟨HT2.out.nL HVG.out, fun e => by have := HXF.out g (.inr (.inl HVG.out)); omega⟩
        have hS : w2.drew.cell? ⟨tb, 1, none⟩ = some (.slice (some ⟨g, 0, none⟩) n cap) ∧ w2.drew.rangeAt XB 0 cs := ⟨c1, HXS.out⟩
        have HS := Lib.hid hS
        have HS2 : Hid ((w2.drew.setCells g (k * 29) cs).cell? ⟨tb, 1, none⟩ = some (.slice (some ⟨g, 0, none⟩) n cap) ∧ (w2.drew.setCells g (k * 29) cs).rangeAt XB 0 cs) := ⟨by rw [World.cell?_setCells_out _ _ _ _ _ (fun e _ => absurd e (Ne.symm HNE.out.1))]; exact HS.out.1, World.rangeAt_setCells_apart HS.out.2 _ _ _ (.inl (Ne.symm HNE.out.2))⟩
        clear hS
        go_upto_region 7 with fail
        refine wp_region_held_drew (S := fun W => W.cell? ⟨tb, 1, none⟩ = some (.slice (some ⟨g, 0, none⟩) n cap) ∧ W.rangeAt XB 0 cs) (by kernel_rfl) HS.out (fun hHeld => ?_)
        show wpAnyH _ _ _ _ _ _ _ _ _
        try dsimp only at hHeld
        refine wpAnyH_take (i := 0) (v := ?_) rfl (by kernel_rfl) (by kernel_rfl) (by kernel_rfl) (fun _ _ _ h => h) (Or.inl ⟨by rfl, fun W hW => by (obtain ⟨z0, z1⟩ := hW; go_simp <;> with_reducible rfl)⟩) hHeld ?_
        go_simp
        refine wpAnyH_take (i := 1) (v := ?_) rfl (by kernel_rfl) (by kernel_rfl) (by kernel_rfl) (fun _ _ _ h => h) (Or.inl ⟨by rfl, fun W hW => by (obtain ⟨z0, z1⟩ := hW; go_simp <;> with_reducible rfl)⟩) hHeld ?_
        go_simp
        refine wpAnyH_take (i := 2) (v := ?_) rfl (by kernel_rfl) (by kernel_rfl) (by kernel_rfl) (fun _ _ _ h => h) (Or.inl ⟨by rfl, fun W hW => by (obtain ⟨z0, z1⟩ := hW; go_simp <;> with_reducible rfl)⟩) hHeld ?_
        go_simp
        refine wpAnyH_take (i := 3) (v := ?_) rfl (by kernel_rfl) (by kernel_rfl) (by kernel_rfl) (fun _ _ _ h => h) (Or.inl ⟨by rfl, fun W hW => by (obtain ⟨z0, z1⟩ := hW; go_simp <;> with_reducible rfl)⟩) hHeld ?_
        go_simp
        refine wpAnyH_take (i := 4) (v := ?_) rfl (by kernel_rfl) (by kernel_rfl) (by kernel_rfl) (fun _ _ _ h => h) (Or.inl ⟨by rfl, fun W hW => by (obtain ⟨z0, z1⟩ := hW; go_simp <;> with_reducible rfl)⟩) hHeld ?_
        go_simp
        refine wpAnyH_take (i := 5) (v := .agg cs.toArray) rfl (by kernel_rfl) (by kernel_rfl) (by kernel_rfl) (fun _ _ _ h => h) (yieldsIf_load_mid (by rfl) 38 (.tmp 5) rfl XB 0 rfl cs _ (fun W h => h.2) Try.underlying38 rfl HI.out) hHeld ?_
        go_simp
        refine wpAnyH_take (i := 6) (v := ?_) rfl (by kernel_rfl) (by kernel_rfl) (by kernel_rfl) (fun _ _ _ h => h) (Or.inl ⟨by rfl, fun W hW => by (obtain ⟨z0, z1⟩ := hW; go_simp <;> with_reducible rfl)⟩) hHeld ?_
        go_simp
        refine wpAnyH_ready (rs := [7]) (by kernel_rfl) (by simp) (AllReadyH.cons rfl (fun K hK => ?_) AllReadyH.nil)
        refine step_store_mid rfl (.tmp 36) (.tmp 35) rfl g (k * 29) cs.toArray rfl rfl (by rw [List.size_toArray, HO.out.len]; exact HTH.out) HI.out (all_oneCell_toArray HO.out.one) ?_
        refine hK.out _ _ HS2.out (fun hHeld => ?_)
        clear hK K
        refine wpAnyH_done (by kernel_rfl) ?_ _
        go_wp2_with fail
        go_ret
        exact ⟨rfl, HST.out.1, ((But.of_below (HXE.out ▸ H2.out)).drew).trans HST.out.2⟩
  · have hse : setE ts i cs = 3 := by unfold setE; rw [if_neg hin]
    have hst : setT ts i cs = ts := by unfold setT; rw [hse]; rfl
    rw [hse, hst]
    clear hse hst h hT ho
    have hc : decide (i < 0) = true ∨ (decide (i < 0) = false ∧ decide ((ts.length : Int) ≤ i) = true) := by
      by_cases h : i < 0
      · left; simpa using h
      · right; simp; omega
    have hfm := rowForm (HT.out.below hB).row
    clear hin hB
    generalize ts.length = n at *
    rcases hc with hc | ⟨hc, hc2⟩
    · go_enter Try.func44, Try.ntmps44
      go_wp2_with fail
      go_ret
      exact ⟨rfl, HT.out.below HB.out, But.of_below HB.out⟩
    · rcases hfm with ⟨e1, e2⟩ | ⟨g, cap, e1⟩
      all_goals
        subst e1
        have hc3 : n = 0 → decide ((0 : Int) ≤ i) = true := fun e => by subst e; simpa using hc2
        (try (subst e2; have hc4 := hc3 rfl))
        go_enter Try.func44, Try.ntmps44
        go_wp2_with fail
        go_ret
        exact ⟨rfl, HT.out.below HB.out, But.of_below HB.out⟩
end
end Go.Proofs.Ytdlncbndhljhfaa
