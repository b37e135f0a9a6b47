/- The document's Joined (layer 12). -/
import Derived.Test.YtdlncbndhljhfaaVe
import Derived.Test.YtdlncbndhljhfaaTf
import Derived.Deep.WholeRow
namespace Go.Proofs.Ytdlncbndhljhfaa
open Go.RowKit

theorem infoWait : (Try.prog.info? 121).map (fun i => (i.zero, i.size, i.bytes)) = some (some (.agg #[.int .i64 0, .int .i64 0]), 2, 16) := by kernel_rfl
/-- A row of waits of the call's own, from block B on. -/
def MineW (B : Nat) (v : Value) (L : List (Nat × Nat)) (W : World) : Prop := W.ownsRow B 121 2 v L.length (wsL L)
theorem rows_apart {w : World} {B B' n n' sz sz' g k : Nat} {t t' : TypeId} {v u : Value} {xs ys : List Value} (h : w.ownsRow B t sz v n xs) (h' : w.ownsRow B' t' sz' u n' ys) (hne : t ≠ t') (hg : v.ownBlock = some g) (hk : u.ownBlock = some k) : g ≠ k := fun e => by
  subst e
  obtain ⟨cs, hb⟩ : ∃ cs, Blk w g t' cs := by
    rcases h'.2 with ⟨rfl, _⟩ | ⟨g', cap, cur, rfl, _, hgg, _⟩
    · simp [Value.ownBlock] at hk
    · simp [Value.ownBlock] at hk; subst hk; exact ⟨cur, hgg⟩
  exact hne (row_type h hg hb)
theorem kept_apart {w w' : World} {B B' n n' sz sz' : Nat} {t t' : TypeId} {v u : Value} {xs ys : List Value} (h : w.ownsRow B t sz v n xs) (h' : w.ownsRow B' t' sz' u n' ys) (hne : t ≠ t') (gr : w.grownBy w' u.ownBlock) : w'.ownsRow B t sz v n xs :=
  h.kept gr <| by
    cases hv : v.ownBlock with
    | none => exact .inl rfl
    | some g =>
      right
      intro e
      exact rows_apart h h' hne hv e.symm rfl
theorem app_num {ops : Array Oper} {rest : List Oper} {o : Oper} {a : Act} {W : World} {Q : Exit → Act → World → Prop} (hgd : o.guard = none) (s x : Operand) (ho : o.op = .call { callee := .builtin .append, args := #[s, x], argTypes := #[54, 54] })
    (B : Nat) (v : Value) (L : List Int) (hs : a.eval s = v) (hown : MineN B v L W) (g1 : Nat) (y : Int) (hx : a.eval x = .slice (some ⟨g1, 0, none⟩) 1 1) (hb : W.cell? ⟨g1, 0, none⟩ = some (.int .i64 y)) (hl : L.length ≤ 10000) (hB : B ≤ W.heap.size)
    (h : ∀ v' w', MineN B v' (L ++ [y]) w' → W.grownBy w' v.ownBlock → wpList Try.prog ops Q rest (a.put o.dst v') w') : wpList Try.prog ops Q (o :: rest) a W := by
  obtain ⟨i0, hi0, hz0, hz1, hz2⟩ := info_parts infoInt
  refine wpList_append_own W hgd s x 54 ho B 3 i0 _ 1 8 Try.underlying54 hi0 hz0 hz1 hz2 rfl (by decide) _ L.length (numC L) hs hown ⟨g1, 0, none⟩ 1 1 (numC [y]) hx (by simp [numC]) ?_ (by intro u hu; simp [numC] at hu; rcases hu with rfl; rfl) (by unfold maxLen; omega) (by omega) hB ?_
  · intro j u hu
    match j, hu with
    | 0, hu =>
      have hadd : (⟨g1, 0, none⟩ : Addr).add 0 = ⟨g1, 0, none⟩ := by unfold Addr.add; split <;> simp_all
      rw [hadd, hb]; simpa [numC] using hu
    | j + 1, hu => simp [numC] at hu
  · intro v' w' own gr _
    refine h v' w' ?_ gr
    unfold MineN
    rw [List.length_append, show numC (L ++ [y]) = numC L ++ numC [y] by simp [numC]]
    exact own
theorem app_wait {ops : Array Oper} {rest : List Oper} {o : Oper} {a : Act} {W : World} {Q : Exit → Act → World → Prop} (hgd : o.guard = none) (s x : Operand) (ho : o.op = .call { callee := .builtin .append, args := #[s, x], argTypes := #[28, 28] })
    (B : Nat) (v : Value) (L : List (Nat × Nat)) (hs : a.eval s = v) (hown : MineW B v L W) (g1 : Nat) (y : Nat × Nat) (hx : a.eval x = .slice (some ⟨g1, 0, none⟩) 1 1) (hb : Blk W g1 121 #[.int .i64 y.1, .int .i64 y.2]) (hl : L.length ≤ 10000) (hB : B ≤ W.heap.size)
    (h : ∀ v' w', MineW B v' (L ++ [y]) w' → W.grownBy w' v.ownBlock → wpList Try.prog ops Q rest (a.put o.dst v') w') : wpList Try.prog ops Q (o :: rest) a W := by
  obtain ⟨i0, hi0, hz0, hz1, hz2⟩ := info_parts infoWait
  refine wpList_append_own W hgd s x 28 ho B 121 i0 _ 2 16 Try.underlying28 hi0 hz0 hz1 hz2 rfl (by decide) _ L.length (wsL L) hs hown ⟨g1, 0, none⟩ 1 1 (wsL [y]) hx rfl ?_ (by intro u hu; simp [wsL] at hu; rcases hu with rfl | rfl <;> rfl) (by unfold maxLen; omega) (by omega) hB ?_
  · intro j u hu
    have hadd : (⟨g1, 0, none⟩ : Addr).add j = ⟨g1, j, none⟩ := by unfold Addr.add; split <;> simp_all
    rw [hadd, Blk.cell hb j]
    simpa [wsL] using hu
  · intro v' w' own gr _
    refine h v' w' ?_ gr
    unfold MineW
    rw [List.length_append, wsL_app]
    exact own
/-- Whom Joined names, and the waits that are left. -/
def namedW (ws : List (Nat × Nat)) (on : Int) : List Nat := (ws.filter fun x => (x.2 : Int) == on).map (·.1)
def leftW (ws : List (Nat × Nat)) (on : Int) : List (Nat × Nat) := ws.filter fun x => !((x.2 : Int) == on)
theorem leftW_len (ws : List (Nat × Nat)) (on : Int) : (leftW ws on).length ≤ ws.length := List.length_filter_le _ _
theorem namedW_len (ws : List (Nat × Nat)) (on : Int) : (namedW ws on).length ≤ ws.length := by
  unfold namedW; rw [List.length_map]; exact List.length_filter_le _ _
theorem asI_app (a b : List Nat) : asI (a ++ b) = asI a ++ asI b := by simp [asI]
section
variable {tb most : Nat} {vL vW : Value} {ts : List (List Value)} {ws : List (Nat × Nat)} {w w' : World}
set_option maxRecDepth 100000 in
set_option maxHeartbeats 8000000 in
theorem djoined_any (on : Int) (h : TabR tb vL vW most ts ws w) :
    Calls Try.prog 47 #[.pointer (some ⟨tb, 0, none⟩), .int .i64 on] w fun e w' => ∃ u vW', e = .returned u ∧ MineN w.heap.size u (asI (namedW ws on)) w' ∧ TabR tb vL vW' most ts (leftW ws on) w' ∧ But (fun k => k = tb) w w' ∧ ∀ g, vW'.ownBlock = some g → w.heap.size ≤ g := by
  obtain ⟨n, hn⟩ : ∃ n, ws.length = n := ⟨_, rfl⟩
  have HN := Lib.hid hn
  have hlim := h.lim.2
  have hq : ∃ A cap, vW = .slice A ws.length cap := by
    rcases rowForm h.wts with ⟨e1, e2⟩ | ⟨g, cap, e1⟩
    · exact ⟨none, 0, by rw [e2]; exact e1⟩
    · exact ⟨_, cap, e1⟩
  obtain ⟨A, capW, hAW⟩ := hq
  have c2 := h.cells.2.2
  rw [hAW] at c2
  have HT := Lib.hid h; have HAW := Lib.hid hAW
  rw [hn] at hlim c2 HAW
  clear h hn hAW
  go_enter Try.func47, Try.ntmps47
  go_wp2_with fail
  go_loopw [5, 6, 14] (fun lv fv iv wr => ∃ (u v' : Value) (k : Nat), u = lv ∧ v' = fv ∧ k ≤ n ∧ iv = .int .i64 k ∧ MineN w.heap.size u (asI (namedW (ws.take k) on)) wr ∧ MineW w.heap.size v' (leftW (ws.take k) on) wr ∧ Below w.heap.size w wr) (fun _ _ i _ => n - (intOf i).toNat)
  case atStart => exact ⟨_, _, 0, rfl, rfl, Nat.zero_le _, rfl, mineN_nil _ _, ⟨rfl, .inl ⟨rfl, rfl⟩⟩, Below.refl _ _⟩
  case round =>
    obtain ⟨u, v', k, rfl, rfl, hk, rfl, hm, hw, hb⟩ := hrel
    have HM := Lib.hid hm; have HW := Lib.hid hw; have HB := Lib.hid hb
    clear hm hw hb
    by_cases hlt : k < n
    · obtain ⟨x, hx⟩ : ∃ x, ws[k]? = some x := ⟨_, List.getElem?_eq_getElem (by rw [HN.out]; exact hlt)⟩
      obtain ⟨a, b⟩ := x
      have hrow := (HT.out.below HB.out).wts
      obtain ⟨g, cap, hv⟩ : ∃ g cap, vW = .slice (some ⟨g, 0, none⟩) ws.length cap := by
        rcases rowForm hrow with ⟨_, e⟩ | q
        · have := HN.out; omega
        · exact q
      have hA := HAW.out
      rw [hv, HN.out] at hA
      obtain ⟨rfl, rfl⟩ : some (⟨g, 0, none⟩ : Addr) = A ∧ cap = capW := by
        simp at hA; exact ⟨hA.1, hA.2⟩
      rw [hv] at hrow
      have g0 := (wsL_get ws k _ hx)
      have e0 := hrow.cellAt (k * 2) (by have := HN.out; omega)
      have e1 := hrow.cellAt (k * 2 + 1) (by have := HN.out; omega)
      rw [g0.1] at e0
      rw [g0.2] at e1
      have hst := run_storeCells_new (P := Try.prog) wr 121 #[.int .i64 0, .int .i64 0] #[.int .i64 a, .int .i64 b] (by kernel_rfl) rfl (by simp [Value.oneCell'])
      have hnm : namedW (ws.take (k + 1)) on = namedW (ws.take k) on ++ (if (b : Int) = on then [a] else []) := by
        unfold namedW
        rw [← List.take_append_getElem (by rw [HN.out]; exact hlt), (List.getElem?_eq_some_iff.1 hx).2, List.filter_append, List.map_append]
        by_cases q : (b : Int) = on
        · simp [q]
        · simp [q]
      have hlf : leftW (ws.take (k + 1)) on = leftW (ws.take k) on ++ (if (b : Int) = on then [] else [(a, b)]) := by
        unfold leftW
        rw [← List.take_append_getElem (by rw [HN.out]; exact hlt), (List.getElem?_eq_some_iff.1 hx).2, List.filter_append]
        by_cases q : (b : Int) = on
        · simp [q]
        · simp [q]
      have hl1 := leftW_len (ws.take k) on
      have hl2 := namedW_len (ws.take k) on
      rw [List.length_take] at hl1 hl2
      have ha : Below wr.heap.size wr (wr.alloc (.cells #[.int .i64 a, .int .i64 b] 121)) := (Below.refl _ _).alloc (Nat.le_refl _) _
      have HM1 : Hid (MineN w.heap.size u (asI (namedW (ws.take k) on)) (wr.alloc (.cells #[.int .i64 a, .int .i64 b] 121))) := Lib.hid (HM.out.on ha)
      have HW1 : Hid (MineW w.heap.size v' (leftW (ws.take k) on) (wr.alloc (.cells #[.int .i64 a, .int .i64 b] 121))) := Lib.hid (World.ownsRow.alloc HW.out _)
      have HB1 := Lib.hid (HB.out.alloc HB.out.size (.cells #[.int .i64 a, .int .i64 b] 121))
      have HX1 := Lib.hid (Blk.new wr 121 #[.int .i64 a, .int .i64 b])
      have x0 := HX1.out.cell 0
      have x1 := HX1.out.cell 1
      simp only [List.getElem?_toArray, List.getElem?_cons_zero, List.getElem?_cons_succ] at x0 x1
      have HNM := Lib.hid hnm; have HLF := Lib.hid hlf; have HL1 := Lib.hid hl1; have HL2 := Lib.hid hl2
      have k0 : (0 : Int) ≤ (k : Int) := by omega
      have k1 : (k : Int) < (n : Int) := by omega
      clear hx hrow hv hA g0 hnm hlf hl1 hl2 ha HM HW HB c2
      go_upto_region 6 with fail
      generalize wr.alloc (.cells #[.int .i64 a, .int .i64 b] 121) = W1 at *
      generalize wr.heap.size = xb at *
      clear hst
      by_cases q : (b : Int) = on
      · subst q
        have t : ((b : Int) == (b : Int)) = true := by simp
        rw [if_pos rfl] at HNM HLF
        have ha : Below W1.heap.size W1 (W1.alloc (.cells #[.int .i64 a] 3)) := (Below.refl _ _).alloc (Nat.le_refl _) _
        have HM2 : Hid (MineN w.heap.size u (asI (namedW (ws.take k) b)) (W1.alloc (.cells #[.int .i64 a] 3))) := Lib.hid (HM1.out.on ha)
        have HW2 : Hid (MineW w.heap.size v' (leftW (ws.take k) b) (W1.alloc (.cells #[.int .i64 a] 3))) := Lib.hid (World.ownsRow.alloc HW1.out _)
        have HB2 := Lib.hid (HB1.out.alloc HB1.out.size (.cells #[.int .i64 a] 3))
        have hbk := (Blk.new W1 3 #[.int .i64 a]).cell 0
        simp only [List.getElem?_toArray, List.getElem?_cons_zero] at hbk
        have HBS := Lib.hid hbk
        have htl : (asI (namedW (ws.take k) b)).length ≤ 10000 := by rw [asI_len]; have := HL2.out; omega
        clear hbk ha e0 e1 HM1 HW1 HB1
        go_wp2_with (at_builtin; refine haltM ?_)
        refine Lib.hid ?_
        refine app_num rfl (.tmp 22) (.tmp 25) rfl w.heap.size u (asI (namedW (ws.take k) b)) rfl HM2.out W1.heap.size a rfl HBS.out htl HB2.out.size ?_
        intro u' w9 own9 gr9
        have hn9 : MineN w.heap.size u' (asI (namedW (ws.take (k + 1)) b)) w9 := by rw [HNM.out, asI_app]; exact own9
        have hw9 : MineW w.heap.size v' (leftW (ws.take (k + 1)) b) w9 := by rw [HLF.out, List.append_nil]; exact kept_apart HW2.out HM2.out (by decide) gr9
        have hb9 : Below w.heap.size w w9 := HB2.out.grown gr9 HB2.out.size (fun k hk => (HM2.out.lt k hk).1)
        have HN9 := Lib.hid hn9; have HW9 := Lib.hid hw9; have HB9 := Lib.hid hb9
        clear own9 gr9 hn9 hw9 hb9 HM2 HW2 HB2 HBS
        go_wp2_with fail
        go_roundw
        case rel => exact ⟨u', v', k + 1, rfl, rfl, by omega, by go_num, HN9.out, HW9.out, HB9.out⟩
        case measure => simp [intOf]; omega
      · have t : ((b : Int) == on) = false := by simpa using q
        rw [if_neg q] at HNM HLF
        have ha : Below W1.heap.size W1 (W1.alloc (.cells #[.int .i64 a, .int .i64 b] 121)) := (Below.refl _ _).alloc (Nat.le_refl _) _
        have HM2 : Hid (MineN w.heap.size u (asI (namedW (ws.take k) on)) (W1.alloc (.cells #[.int .i64 a, .int .i64 b] 121))) := Lib.hid (HM1.out.on ha)
        have HW2 : Hid (MineW w.heap.size v' (leftW (ws.take k) on) (W1.alloc (.cells #[.int .i64 a, .int .i64 b] 121))) := Lib.hid (World.ownsRow.alloc HW1.out _)
        have HB2 := Lib.hid (HB1.out.alloc HB1.out.size (.cells #[.int .i64 a, .int .i64 b] 121))
        have HBS := Lib.hid (Blk.new W1 121 #[.int .i64 a, .int .i64 b])
        have htl : (leftW (ws.take k) on).length ≤ 10000 := by have := HL1.out; omega
        clear ha e0 e1 HM1 HW1 HB1
        go_wp2_with (at_builtin; refine haltM ?_)
        refine Lib.hid ?_
        refine app_wait rfl (.tmp 27) (.tmp 29) rfl w.heap.size v' (leftW (ws.take k) on) rfl HW2.out W1.heap.size (a, b) rfl HBS.out htl HB2.out.size ?_
        intro u' w9 own9 gr9
        have hw9 : MineW w.heap.size u' (leftW (ws.take (k + 1)) on) w9 := by rw [HLF.out]; exact own9
        have hn9 : MineN w.heap.size u (asI (namedW (ws.take (k + 1)) on)) w9 := by rw [HNM.out, List.append_nil]; exact kept_apart HM2.out HW2.out (by decide) gr9
        have hb9 : Below w.heap.size w w9 := HB2.out.grown gr9 HB2.out.size (fun k hk => (HW2.out.lt k hk).1)
        have HN9 := Lib.hid hn9; have HW9 := Lib.hid hw9; have HB9 := Lib.hid hb9
        clear own9 gr9 hn9 hw9 hb9 HM2 HW2 HB2 HBS
        go_wp2_with fail
        go_roundw
        case rel => exact ⟨u, u', k + 1, rfl, rfl, by omega, by go_num, HN9.out, HW9.out, HB9.out⟩
        case measure => simp [intOf]; omega
    · have t : ¬ (k : Int) < (n : Int) := by omega
      have hkn : ws.take k = ws := List.take_of_length_le (by have := HN.out; omega)
      rw [hkn] at HM HW
      obtain ⟨A', m', cap', rfl⟩ : ∃ A' m' cap', v' = .slice A' m' cap' := by
        rcases rowForm HW.out with ⟨e, _⟩ | ⟨g, cap, e⟩
        · exact ⟨_, _, _, e⟩
        · exact ⟨_, _, _, e⟩
      have ht := HT.out.below HB.out
      have c2 := ht.cells.2.2
      have fz := ht.own.free 2
      have hst : But (fun k => k = tb) wr (wr.setCell ⟨tb, 2, none⟩ (.slice A' m' cap')) := (But.refl _ _).set _ _ (.inl rfl)
      have hlt' := HT.out.own.lt
      have HF : Hid (MineN w.heap.size u (asI (namedW ws on)) (wr.setCell ⟨tb, 2, none⟩ (.slice A' m' cap')) ∧ TabR tb vL (.slice A' m' cap') most ts (leftW ws on) (wr.setCell ⟨tb, 2, none⟩ (.slice A' m' cap')) ∧ But (fun k => k = tb) w (wr.setCell ⟨tb, 2, none⟩ (.slice A' m' cap')) ∧ ∀ g, Value.ownBlock (.slice A' m' cap') = some g → w.heap.size ≤ g) := by
        have hw0 : wr.ownsRow 0 121 2 (.slice A' m' cap') (leftW ws on).length (wsL (leftW ws on)) := ⟨HW.out.1, HW.out.2.imp id fun ⟨g, cap, cur, a, _, r⟩ => ⟨g, cap, cur, a, Nat.zero_le _, r⟩⟩
        have hge : ∀ g, Value.ownBlock (.slice A' m' cap') = some g → w.heap.size ≤ g := fun g hg => (HW.out.lt g hg).1
        refine Lib.hid ⟨row_but HM.out hst fun g hg e => ?_, ⟨ht.own.set_ 2 _, row_but ht.row hst fun g hg e => ht.nL hg e, ht.oks, row_but hw0 hst fun g hg e => ?_, ht.lim.1, ?_⟩, (But.of_below HB.out).trans hst, hge⟩
        · have e' : g = tb := e
          have := (HM.out.lt g hg).1; omega
        · have e' : g = tb := e
          have := hge g hg; omega
        · have := leftW_len ws on; have := HN.out; omega
      clear hst ht HM HW hkn
      go_wp2_with fail
      go_ret
      exact ⟨u, rfl, HF.out.1, _, HF.out.2⟩
end
end Go.Proofs.Ytdlncbndhljhfaa
