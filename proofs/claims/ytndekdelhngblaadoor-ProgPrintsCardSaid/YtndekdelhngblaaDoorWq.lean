/- prog's printIns. -/
import Derived.Test.YtndekdelhngblaaDoorWp
import Derived.Deep.DeepCutAuto
namespace Go.Proofs.YtndekdelhngblaaDoor
open Go.RowKit

theorem haltW {p : Prop} (h : Hid p) : p := h.out
/-- What lies in memory while an instruction's words are gathered. -/
structure PI (w : World) (x : I4) (v : Value) (xs : List ByteArray) (W : World) : Prop where
  own : Own (w.heap.size + 1) v xs W
  ins : Blk W w.heap.size 38 #[.int .i64 x.op, .int .i64 x.a, .int .i64 x.b, .int .i32 x.n]
  old : Below w.heap.size w W
theorem PI.below {w : World} {x : I4} {v : Value} {xs : List ByteArray} {W W' : World} (h : PI w x v xs W) (hb : Below W.heap.size W W') : PI w x v xs W' := by
  refine ⟨⟨h.own.1, ?_⟩, h.ins.below hb h.ins.lt, h.old.trans (hb.mono h.old.size)⟩
  rcases h.own.2 with q | ⟨g, cap, cur, e, hg, hh, r⟩
  · exact .inl q
  · exact .inr ⟨g, cap, cur, e, hg, (hb.block g (Array.getElem?_eq_some_iff.1 hh).1).trans hh, r⟩
theorem PI.put {w : World} {x : I4} {v v' : Value} {xs ys : List ByteArray} {W W' : World} (h : PI w x v xs W) (ho : Own (w.heap.size + 1) v' ys W') (hb : Below (w.heap.size + 1) W W') : PI w x v' ys W' :=
  ⟨ho, (hb.block _ (by omega)).trans h.ins, h.old.trans (hb.mono (by omega))⟩
theorem PI.cells {w : World} {x : I4} {v : Value} {xs : List ByteArray} {W : World} (h : PI w x v xs W) : W.cell? ⟨w.heap.size, 0, none⟩ = some (.int .i64 x.op) ∧ W.cell? ⟨w.heap.size, 1, none⟩ = some (.int .i64 x.a) ∧ W.cell? ⟨w.heap.size, 2, none⟩ = some (.int .i64 x.b) ∧ W.cell? ⟨w.heap.size, 3, none⟩ = some (.int .i32 x.n) :=
  ⟨h.ins.cell 0, h.ins.cell 1, h.ins.cell 2, h.ins.cell 3⟩
set_option maxRecDepth 100000 in
set_option maxHeartbeats 4000000 in
theorem printIns_any (x : I4) (ft : Fits x) (w : World) (hT : Tabs w) : Calls Tryd.prog 23 #[insV x] w (GotB w.heap.size (.string ⟨(lineL x).toArray⟩) w) := by
  obtain ⟨op, a, b, n⟩ := x
  obtain ⟨f0, f1, f2, f3⟩ := ft
  dsimp only at f0 f1 f2 f3
  have hT1 := hT.alloc (.cells #[.int .i64 op, .int .i64 a, .int .i64 b, .int .i32 n] 38)
  have HN := Lib.hid (name_any op _ hT1)
  have hbx := Blk.new w 38 #[.int .i64 op, .int .i64 a, .int .i64 b, .int .i32 n]
  have x0 := hbx.cell 0; have x1 := hbx.cell 1; have x2 := hbx.cell 2; have x3 := hbx.cell 3
  simp only [List.getElem?_toArray, List.getElem?_cons_zero, List.getElem?_cons_succ] at x0 x1 x2 x3
  have HB := Lib.hid ((Below.refl w.heap.size w).alloc (Nat.le_refl _) (.cells #[.int .i64 op, .int .i64 a, .int .i64 b, .int .i32 n] 38))
  have HX := Lib.hid hbx
  have HT := Lib.hid hT
  have hs : ¬ 9223372036854775807 < 1 + (nameL op).length := by have := nameL_len op; omega
  have E := Lib.hid (show (⟨#[9]⟩ : ByteArray) ++ ⟨(nameL op).toArray⟩ = nameW op from mk_app [9] _)
  clear hbx hT hT1
  unfold nameS at HN
  obtain ⟨bA, hbA⟩ : ∃ x, hasA op = x := ⟨_, rfl⟩
  obtain ⟨bB, hbB⟩ : ∃ x, hasB op = x := ⟨_, rfl⟩
  obtain ⟨bN, hbN⟩ : ∃ x, hasN op = x := ⟨_, rfl⟩
  have HH : Hid (∀ W, Calls Tryd.prog 33 #[.int .i64 op] W fun e w' => e = .returned (.tuple #[.bool bA, .bool bB, .bool bN]) ∧ W = w') := fun W => by
    have := has_any op W; unfold HasP at this; rw [hbA, hbB, hbN] at this; exact this
  have HbA := Lib.hid hbA; have HbB := Lib.hid hbB; have HbN := Lib.hid hbN
  have HP0 : Hid (PI w ⟨op, a, b, n⟩ (.slice (some ⟨w.heap.size + 1, 0, none⟩) 1 1) [nameW op] ((w.alloc (.cells #[.int .i64 op, .int .i64 a, .int .i64 b, .int .i32 n] 38)).alloc (.cells #[.string (nameW op)] 9))) := by
    have h := own_new (w.heap.size + 1) (w.alloc (.cells #[.int .i64 op, .int .i64 a, .int .i64 b, .int .i32 n] 38)) [nameW op] (by simp) (by simp)
    rw [World.size_alloc] at h
    exact ⟨h, HX.out.alloc _, HB.out.alloc HB.out.size _⟩
  clear hbA hbB hbN HX HB
  go_enter Tryd.func23, Tryd.ntmps23
  go_upto_region 3 with (first
    | (go_at_call 33; (with_reducible refine (HH.out _).mono ?_); rintro e wq ⟨rfl, rfl⟩)
    | (go_at_call 9; (with_reducible refine HN.out.mono ?_); rintro e wq ⟨rfl, rfl⟩))
  rw [E.out]
  clear x0 x1 x2 x3 hs E HN HH
  generalize hv0 : Value.slice (some (⟨w.heap.size + 1, 0, none⟩ : Addr)) 1 1 = v0 at *
  generalize (w.alloc (.cells #[.int .i64 op, .int .i64 a, .int .i64 b, .int .i32 n] 38)).alloc (.cells #[.string (nameW op)] 9) = W0 at *
  clear hv0
  go_upto_if 19 with fail
  go_cut [6] (fun v wx => PI w ⟨op, a, b, n⟩ v (wsA ⟨op, a, b, n⟩) wx)
  case first =>
    cases bA with
    | false =>
      go_wp2_with fail
      go_meet
      have hw : wsA ⟨op, a, b, n⟩ = [nameW op] := by simp [wsA, HbA.out]
      rw [hw]; exact HP0.out
    | true =>
      obtain ⟨y0, y1, y2, y3⟩ := HP0.out.cells
      dsimp only at y0 y1 y2 y3
      have HC := Lib.hid (printReg_any a f1 W0 (HT.out.on HP0.out.old))
      clear y0 y2 y3
      go_wp2_with (first
        | (go_at_call 38; (with_reducible refine HC.out.mono ?_); rintro e w4 ⟨rfl, h4⟩; have H4 := Lib.hid h4; clear h4 y1)
        | (at_builtin; refine haltW ?_))
      have HQ := Lib.hid (HP0.out.below (H4.out.alloc H4.out.size (.cells #[.string (regW a)] 9)))
      clear HC
      refine Lib.hid ?_
      refine app_word rfl (.tmp 20) (.tmp 24) rfl (w.heap.size + 1) _ _ rfl HQ.out.own w4.heap.size (regW a) rfl ((Blk.new w4 9 #[.string (regW a)]).cell 0) (by have := (ws_len ⟨op, a, b, n⟩); simp) HQ.out.ins.lt ?_
      intro v' w5 o5 b5 _
      have HP' := Lib.hid (HQ.out.put o5 b5)
      clear o5 b5
      go_wp2_with fail
      go_meet
      have hw : wsA ⟨op, a, b, n⟩ = [nameW op] ++ [regW a] := by simp [wsA, HbA.out]
      rw [hw]; exact HP'.out
  case rest =>
    have HP1 := Lib.hid hcut
    clear hcut HP0
    generalize wc = W1 at *
    go_upto_if 26 with fail
    go_cut [6] (fun v wx => PI w ⟨op, a, b, n⟩ v (wsB ⟨op, a, b, n⟩) wx)
    case first =>
      cases bB with
      | false =>
        go_wp2_with fail
        go_meet
        have hw : wsB ⟨op, a, b, n⟩ = wsA ⟨op, a, b, n⟩ := by simp [wsB, HbB.out]
        rw [hw]; exact HP1.out
      | true =>
        obtain ⟨y0, y1, y2, y3⟩ := HP1.out.cells
        dsimp only at y0 y1 y2 y3
        have HC := Lib.hid (printReg_any b f2 W1 (HT.out.on HP1.out.old))
        clear y0 y1 y3
        go_wp2_with (first
        | (go_at_call 38; (with_reducible refine HC.out.mono ?_); rintro e w4 ⟨rfl, h4⟩; have H4 := Lib.hid h4; clear h4 y2)
        | (at_builtin; refine haltW ?_))
        have HQ := Lib.hid (HP1.out.below (H4.out.alloc H4.out.size (.cells #[.string (regW b)] 9)))
        clear HC
        refine Lib.hid ?_
        refine app_word rfl (.tmp 27) (.tmp 31) rfl (w.heap.size + 1) _ _ rfl HQ.out.own w4.heap.size (regW b) rfl ((Blk.new w4 9 #[.string (regW b)]).cell 0) (by have := (ws_len ⟨op, a, b, n⟩); omega) HQ.out.ins.lt ?_
        intro v' w5 o5 b5 _
        have HP' := Lib.hid (HQ.out.put o5 b5)
        clear o5 b5
        go_wp2_with fail
        go_meet
        have hw : wsB ⟨op, a, b, n⟩ = wsA ⟨op, a, b, n⟩ ++ [regW b] := by simp [wsB, HbB.out]
        rw [hw]; exact HP'.out
    case rest =>
      have HP2 := Lib.hid hcut
      clear hcut HP1
      generalize wc = W2 at *
      go_upto_if 33 with fail
      go_cut [6] (fun v wx => PI w ⟨op, a, b, n⟩ v (wsN ⟨op, a, b, n⟩) wx)
      case first =>
        cases bN with
        | false =>
          go_wp2_with fail
          go_meet
          have hw : wsN ⟨op, a, b, n⟩ = wsB ⟨op, a, b, n⟩ := by simp [wsN, HbN.out]
          rw [hw]; exact HP2.out
        | true =>
          obtain ⟨y0, y1, y2, y3⟩ := HP2.out.cells
          dsimp only at y0 y1 y2 y3
          have qn : IntKind.i64.wrap n = n := IntWalk.i64_in _ (by omega)
          have HC := Lib.hid (itoa_any n (by unfold In64; omega) W2 (HT.out.on HP2.out.old))
          clear y0 y1 y2
          go_wp2_with (first
        | (go_at_call 37; (with_reducible refine HC.out.mono ?_); rintro e w4 ⟨rfl, h4⟩; have H4 := Lib.hid h4; clear h4 y3)
        | (at_builtin; refine haltW ?_))
          have HQ := Lib.hid (HP2.out.below (H4.out.alloc H4.out.size (.cells #[.string (numW n)] 9)))
          clear HC
          refine Lib.hid ?_
          refine app_word rfl (.tmp 34) (.tmp 39) rfl (w.heap.size + 1) _ _ rfl HQ.out.own w4.heap.size (numW n) rfl ((Blk.new w4 9 #[.string (numW n)]).cell 0) (by have := (ws_len ⟨op, a, b, n⟩); omega) HQ.out.ins.lt ?_
          intro v' w5 o5 b5 _
          have HP' := Lib.hid (HQ.out.put o5 b5)
          clear o5 b5
          go_wp2_with fail
          go_meet
          have hw : wsN ⟨op, a, b, n⟩ = wsB ⟨op, a, b, n⟩ ++ [numW n] := by simp [wsN, HbN.out]
          rw [hw]; exact HP'.out
      case rest =>
        have HP3 := Lib.hid hcut
        clear hcut HP2
        generalize wc = W3 at *
        have hl := line_len ⟨op, a, b, n⟩ ⟨f0, f1, f2, f3⟩
        have hq := ws_len ⟨op, a, b, n⟩
        have HLN := line_any _ _ _ _ HP3.out.own hq.2.2.2 (by omega) (by rw [ws_line]; omega)
        rw [ws_line] at HLN
        have HLN := Lib.hid HLN
        clear hl hq
        go_wp2_with (go_at_call 36; (with_reducible refine HLN.out.mono ?_); rintro e w9 ⟨rfl, h9⟩; have H9 := Lib.hid h9; clear h9)
        go_ret
        exact ⟨rfl, HP3.out.old.trans (H9.out.mono HP3.out.old.size)⟩
end Go.Proofs.YtndekdelhngblaaDoor
