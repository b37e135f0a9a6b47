/- The document's Join, past its tests (layer 12): printed by gen_vh.py. -/
import Derived.Test.YtdlncbndhljhfaaVg
namespace Go.Proofs.Ytdlncbndhljhfaa
open Go.RowKit

theorem ws_one : ∀ (ws : List (Nat × Nat)), ∀ u ∈ wsL ws, u.oneCell' = true
  | [], u, hu => by simp [wsL] at hu
  | x :: r, u, hu => by
    simp only [wsL, List.mem_cons] at hu
    rcases hu with rfl | rfl | hu
    · rfl
    · rfl
    · exact ws_one r u hu
theorem wpList_append_row {P : Program} (w : World) {ops : Array Oper} {rest : List Oper} {o : Oper} {a : Act} {Q : Exit → Act → World → Prop} (hgd : o.guard = none) (s x : Operand) (t : TypeId)
    (ho : o.op = .call { callee := .builtin .append, args := #[s, x], argTypes := #[t, t] })
    (base b2 : Nat) (e : TypeId) (i : TypeInfo) (z : Value) (size bytes : Nat) (ht : P.underlying t = some (.slice e)) (hi : P.info? e = some i) (hz : i.zero = some z)
    (hsize : i.size = size) (hby : i.bytes = bytes) (hzs : z.cells.size = size) (hsz : 0 < size)
    (v : Value) (n : Nat) (xs : List Value) (hs : a.eval s = v) (hown : w.ownsRow base e size v n xs)
    (u : Value) (m : Nat) (ys : List Value) (hx : a.eval x = u) (hu : w.ownsRow b2 e size u m ys) (h1 : ∀ x ∈ ys, x.oneCell' = true)
    (h63 : n + m ≤ maxLen) (hbytes : (n + m) * bytes ≤ 140737488355328) (hbase : base ≤ w.heap.size)
    (h : ∀ v' w', w'.ownsRow base e size v' (n + m) (xs ++ ys) → w.grownBy w' v.ownBlock → (v'.ownBlock = v.ownBlock ∨ v'.ownBlock = some w.heap.size) → wpList P ops Q rest (a.put o.dst v') w') : wpList P ops Q (o :: rest) a w :=
  wpList_plain hgd fun _ hK => wp_append_row w s x t ho base b2 e i z size bytes ht hi hz hsize hby hzs hsz v n xs hs hown u m ys hx hu h1 h63 hbytes hbase fun v' w' h2 h3 h4 => hK _ _ (h v' w' h2 h3 h4)
section
variable {tb most : Nat} {vL vW : Value} {ts : List (List Value)} {ws : List (Nat × Nat)} {w w' : World}
set_option maxRecDepth 100000 in
set_option maxHeartbeats 20000000 in
theorem djoin_go (i o : Nat) (h : TabR tb vL vW most ts ws w) (hi : i < ts.length) (ho : o < ts.length) (hne : i ≠ o) (hs : fld (ts[o]?.getD []) 25 ≠ 8) (hwl : (∀ y ∈ ws, y.1 ≠ i) → ws.length < 256) :
    Calls Try.prog 45 #[.pointer (some ⟨tb, 0, none⟩), .int .i64 i, .int .i64 o] w fun e w' => (ws.any (fun y => (y.1 : Int) == (i : Int)) = true ∧ e = .returned (.int .i64 9) ∧ Below w.heap.size w w') ∨ (ws.any (fun y => (y.1 : Int) == (i : Int)) = false ∧ e = .returned (.int .i64 0) ∧ ∃ vW', TabR tb vL vW' most ts (ws ++ [(i, o)]) w' ∧ But (OwnR tb vL vW) w w' ∧ ∀ g, vW'.ownBlock = some g → w.heap.size ≤ g) := by
  have c1 := h.cells.2.1
  have hlim := h.lim.1
  obtain ⟨x, hx⟩ : ∃ x, ts[o]? = some x := ⟨_, List.getElem?_eq_getElem ho⟩
  rw [hx] at hs
  obtain ⟨g, cap, hv, hr, hox⟩ := h.at_ hx
  have y := hr 25 _ (hox.get (by omega))
  have hs' : fld x 25 ≠ 8 := hs
  rw [show kindT 25 = .i64 from rfl] at y
  rw [hv] at c1
  have t4 : ((i : Int) == (o : Int)) = false := by simp; omega
  have t5 : (fld x 25 == 8) = false := by simpa using hs'
  obtain ⟨n, hn⟩ : ∃ n, ws.length = n := ⟨_, rfl⟩
  have HN := Lib.hid hn
  have hlim2 := h.lim.2
  have hq : ∃ A cap, vW = .slice A ws.length cap := by
    rcases rowForm h.wts with ⟨e1, e2⟩ | ⟨g, cap, e1⟩
    · exact ⟨none, 0, by rw [e2]; exact e1⟩
    · exact ⟨_, cap, e1⟩
  obtain ⟨A, capW, hAW⟩ := hq
  have c2 := h.cells.2.2
  rw [hAW] at c2
  have HT := Lib.hid h; have HAW := Lib.hid hAW; have HWL := Lib.hid hwl
  rw [hn] at hlim2 c2 HAW
  clear h hv hr hox hx hs hs' hn hAW hwl
  have t0 : decide ((i : Int) < 0) = false := by simp
  have t1 : decide ((ts.length : Int) ≤ (i : Int)) = false := by simp; omega
  have t2 : decide ((o : Int) < 0) = false := by simp
  have t3 : decide ((ts.length : Int) ≤ (o : Int)) = false := by simp; omega
  have t1n : decide (ts.length ≤ i) = false := by simp; omega
  have t3n : decide (ts.length ≤ o) = false := by simp; omega
  have i0 : (0 : Int) ≤ (o : Int) := by omega
  have i1 : (o : Int) < (ts.length : Int) := by omega
  clear hi ho hne
  obtain ⟨f, hf⟩ : ∃ f, fld x 25 = f := ⟨_, rfl⟩
  rw [hf] at y t5
  clear hf
  obtain ⟨N, hN⟩ : ∃ N, ts.length = N := ⟨_, rfl⟩
  rw [hN] at c1 t1 t3 t1n t3n i1 hlim
  clear hN
  go_enter Try.func45, Try.ntmps45
  go_wp2_with fail
  clear y c1 t0 t1 t2 t3 t1n t3n t4 t5 i0 i1
  go_loopw [50] (fun iv wr => ∃ k : Nat, k ≤ n ∧ iv = .int .i64 k ∧ (∀ y ∈ ws.take k, y.1 ≠ i) ∧ Below w.heap.size w wr) (fun i _ => n - (intOf i).toNat)
  case atStart => exact ⟨0, Nat.zero_le _, rfl, by simp, Below.refl _ _⟩
  case round =>
    obtain ⟨k, hk, rfl, hnot, hb⟩ := hrel
    have HNOT := Lib.hid hnot; have HB := Lib.hid hb
    clear hnot hb
    by_cases hlt : k < n
    · obtain ⟨x, hx⟩ : ∃ x, ws[k]? = some x := ⟨_, List.getElem?_eq_getElem (by rw [HN.out]; exact hlt)⟩
      obtain ⟨a, b⟩ := x
      have hrow := (HT.out.below HB.out).wts
      obtain ⟨g, cap, hv⟩ : ∃ g cap, vW = .slice (some ⟨g, 0, none⟩) ws.length cap := by
        rcases rowForm hrow with ⟨_, e⟩ | q
        · have := HN.out; omega
        · exact q
      have hA := HAW.out
      rw [hv, HN.out] at hA
      obtain ⟨rfl, rfl⟩ : some (⟨g, 0, none⟩ : Addr) = A ∧ cap = capW := by
        simp at hA; exact ⟨hA.1, hA.2⟩
      rw [hv] at hrow
      have g0 := (wsL_get ws k _ hx)
      have e0 := hrow.cellAt (k * 2) (by have := HN.out; omega)
      have e1 := hrow.cellAt (k * 2 + 1) (by have := HN.out; omega)
      rw [g0.1] at e0
      rw [g0.2] at e1
      have hst := run_storeCells_new (P := Try.prog) wr 121 #[.int .i64 0, .int .i64 0] #[.int .i64 a, .int .i64 b] (by kernel_rfl) rfl (by simp [Value.oneCell'])
      have htk : ws.take (k + 1) = ws.take k ++ [(a, b)] := by
        rw [← List.take_append_getElem (by rw [HN.out]; exact hlt), (List.getElem?_eq_some_iff.1 hx).2]
      have HTK := Lib.hid htk
      have HIN := Lib.hid (List.mem_of_getElem? hx)
      have HB1 := Lib.hid (HB.out.alloc HB.out.size (.cells #[.int .i64 a, .int .i64 b] 121))
      have x0 := (Blk.new wr 121 #[.int .i64 a, .int .i64 b]).cell 0
      simp only [List.getElem?_toArray, List.getElem?_cons_zero] at x0
      have k0 : (0 : Int) ≤ (k : Int) := by omega
      have k1 : (k : Int) < (n : Int) := by omega
      clear hx hrow hv hA g0 htk c2
      go_upto_region 10 with fail
      generalize wr.alloc (.cells #[.int .i64 a, .int .i64 b] 121) = W1 at *
      generalize wr.heap.size = xb at *
      clear hst e0 e1
      by_cases q : a = i
      · subst q
        have t : ((a : Int) == (a : Int)) = true := by simp
        go_wp2_with fail
        go_ret
        exact .inl ⟨List.any_eq_true.2 ⟨_, HIN.out, by simp⟩, rfl, HB1.out⟩
      · have t : ((a : Int) == (i : Int)) = false := by simp; omega
        go_wp2_with fail
        go_roundw
        case rel =>
          refine ⟨k + 1, by omega, by go_num, fun y hy => ?_, HB1.out⟩
          rw [HTK.out] at hy
          rcases List.mem_append.1 hy with hy | hy
          · exact HNOT.out y hy
          · simp at hy; subst hy; exact q
        case measure => simp [intOf]; omega
    · have t : ¬ (k : Int) < (n : Int) := by omega
      have hkn : ws.take k = ws := List.take_of_length_le (by have := HN.out; omega)
      rw [hkn] at HNOT
      have hany : ws.any (fun y => (y.1 : Int) == (i : Int)) = false := by
        rw [List.any_eq_false]; intro y hy; have := HNOT.out y hy; simp; omega
      have hwl := HWL.out HNOT.out
      have HT3 := Lib.hid (HT.out.below HB.out)
      have HANY := Lib.hid hany
      clear hkn c2 hany
      go_upto_region 13 with fail
      have hB3 := HB.out
      generalize hw3 : wr = w3 at *
      clear hw3
      have HB3 := Lib.hid hB3
      clear hB3 HB
      have c2 := HT3.out.cells.2.2
      obtain ⟨i0, hi0, hz0, hz1, hz2⟩ := info_parts infoWait
      have HFO := Lib.hid (ws_one ws)
      have HN1 : Hid (∀ u ∈ [Value.int .i64 i, Value.int .i64 o], u.oneCell' = true) := Lib.hid (by intro u hu; simp at hu; rcases hu with rfl | rfl <;> rfl)
      have HBA : Hid (Below w3.heap.size w3 (w3.alloc (.cells #[] 121))) := (Below.refl _ _).alloc (Nat.le_refl _) _
      have HALL : Hid (∀ W, Below w3.heap.size w3 W → W.cell? ⟨tb, 2, none⟩ = some vW ∧ W.ownsRow 0 121 2 vW ws.length (wsL ws) ∧ W.frozen? ⟨tb, 2, none⟩ = false) := fun W q =>
        ⟨(HT3.out.below q).cells.2.2, (HT3.out.below q).wts, (HT3.out.below q).own.free 2⟩
      have HOA : Hid ((w3.alloc (.cells #[] 121)).ownsRow w3.heap.size 121 2 (.slice (some ⟨w3.heap.size, 0, none⟩) 0 0) 0 []) := World.ownsRow_lit w3 #[] 0 (Nat.le_refl _) (Nat.zero_le _) rfl
      have cA : (w3.alloc (.cells #[] 121)).cell? ⟨tb, 2, none⟩ = some vW := (HALL.out _ HBA.out).1
      have HFIN : Hid (∀ g cap w6, w6.ownsRow w3.heap.size 121 2 (.slice (some ⟨g, 0, none⟩) (ws.length + 1) cap) (ws.length + 1) (wsL ws ++ [Value.int .i64 i, Value.int .i64 o]) → Below w3.heap.size w3 w6 → w3.heap.size ≤ g →
          TabR tb vL (.slice (some ⟨g, 0, none⟩) (ws.length + 1) cap) most ts (ws ++ [(i, o)]) (w6.setCell ⟨tb, 2, none⟩ (.slice (some ⟨g, 0, none⟩) (ws.length + 1) cap)) ∧ But (OwnR tb vL vW) w (w6.setCell ⟨tb, 2, none⟩ (.slice (some ⟨g, 0, none⟩) (ws.length + 1) cap)) ∧ ∀ g', Value.ownBlock (.slice (some ⟨g, 0, none⟩) (ws.length + 1) cap) = some g' → w.heap.size ≤ g') := fun g cap w6 own6 B6 hg6 => by
        have hsz := HB3.out.size
        have hb' := HT3.out.own.lt
        have hst : But (fun k => k = tb) w6 (w6.setCell ⟨tb, 2, none⟩ (.slice (some ⟨g, 0, none⟩) (ws.length + 1) cap)) := (But.refl _ _).set _ _ (.inl rfl)
        have h6 := HT3.out.below B6
        refine ⟨⟨h6.own.set_ 2 _, row_but h6.row hst fun g' hg' q => h6.nL hg' q, HT3.out.oks, ?_, HT3.out.lim.1, by simp; omega⟩, ((But.of_below HB3.out).trans ((But.of_below B6).trans (hst.mono fun k _ q => .inl q))), fun g' hg' => ?_⟩
        · have := row_but (show w6.ownsRow 0 121 2 _ _ _ from ⟨own6.1, own6.2.imp id fun ⟨g, cap, cur, a, _, r⟩ => ⟨g, cap, cur, a, Nat.zero_le _, r⟩⟩) hst fun g' hg' q => by
            have q' : g' = tb := q
            simp [Value.ownBlock] at hg'; omega
          rw [wsL_app, List.length_append]
          exact this
        · simp [Value.ownBlock] at hg'; omega
      go_wp2_with (at_builtin; refine haltM ?_)
      refine Lib.hid ?_
      refine wpList_append_row _ rfl (.tmp 60) (.tmp 64) 28 rfl w3.heap.size 0 121 i0 _ 2 16 Try.underlying28 hi0 hz0 hz1 hz2 rfl (by decide) (.slice (some ⟨w3.heap.size, 0, none⟩) 0 0) 0 [] rfl HOA.out vW ws.length (wsL ws) rfl (HALL.out _ HBA.out).2.1 HFO.out (by unfold maxLen; omega) (by omega) HBA.out.size ?_
      intro v5 w5 own5 gr5 hv5
      rw [Nat.zero_add, List.nil_append] at own5
      have B5 : Hid (Below w3.heap.size w3 w5) := Lib.hid (HBA.out.grown gr5 HBA.out.size (fun k hk => by simp [Value.ownBlock] at hk; omega))
      have HV5 : Hid (∀ k, v5.ownBlock = some k → w3.heap.size ≤ k) := Lib.hid fun k hk => (own5.lt k hk).1
      have HX5 : Hid (Blk (w5.alloc (.cells #[.int .i64 i, .int .i64 o] 121)) w5.heap.size 121 #[.int .i64 i, .int .i64 o]) := Lib.hid (Blk.new w5 _ _)
      have B7 : Hid (Below w3.heap.size w3 (w5.alloc (.cells #[.int .i64 i, .int .i64 o] 121))) := Lib.hid (B5.out.alloc B5.out.size _)
      have OWN5 := Lib.hid own5
      clear gr5 hv5 cA c2 own5
      go_wp2_with (at_builtin; refine haltM ?_)
      refine Lib.hid ?_
      refine wpList_append_lies _ rfl (.tmp 65) (.tmp 69) 28 rfl w3.heap.size 121 i0 _ 2 16 Try.underlying28 hi0 hz0 hz1 hz2 rfl (by decide) v5 ws.length (wsL ws) rfl (OWN5.out.alloc _) ⟨w5.heap.size, 0, none⟩ 1 1 [Value.int .i64 i, Value.int .i64 o] rfl rfl (fun j u hu => by rw [Addr.add_mid, Nat.zero_add, Blk.cell HX5.out j]; simpa using hu) HN1.out (by decide) (by unfold maxLen; omega) (by omega) B7.out.size _ rfl ?_
      intro g6 cap6 w6 own6 gr6 hg6 hl6
      have B6 : Hid (Below w3.heap.size w3 w6) := Lib.hid (B7.out.grown gr6 B7.out.size HV5.out)
      have f6 := HALL.out w6 B6.out
      have f62 := f6.1
      have f63 := f6.2.2
      have hg7 : w3.heap.size ≤ g6 := (own6.lt g6 rfl).1
      have HE := Lib.hid (HFIN.out g6 cap6 w6 own6 B6.out hg7)
      clear f6 gr6 own6
      go_wp2_with fail
      go_ret
      exact .inr ⟨HANY.out, rfl, _, HE.out⟩
end
end Go.Proofs.Ytdlncbndhljhfaa
