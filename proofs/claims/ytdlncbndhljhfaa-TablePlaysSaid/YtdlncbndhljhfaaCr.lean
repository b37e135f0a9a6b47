/- Rows of links: Remove, behind, First, Next, In, Len, Pop. -/
import Derived.Test.YtdlncbndhljhfaaCp
import Derived.StillTailTactics
namespace Go.Proofs.Ytdlncbndhljhfaa
open Go.RowKit

section
variable {b gl gn cl cn n m : Nat} {R Ah Be L : Nat → Int} {w : World}
set_option maxRecDepth 100000 in
set_option maxHeartbeats 4000000 in
theorem remove_raw (k x a c : Nat) (h : ChV b gl gn cl cn n m R Ah Be L w) (hk : k < m) (hx : x < n) (hR : R x = k) (ha : Ah x = a) (hc : Be x = c) (han : a < n + m) (hcn' : c < n + m) (hL : 0 ≤ L k ∧ L k ≤ 4096) :
    Calls Try.prog 82 #[.pointer (some ⟨b, 0, none⟩), .int .i64 x] w fun e w' => e = .returned (.tuple #[.int .i64 k, .int .i64 0]) ∧ ChV b gl gn cl cn n m (updI R x (-1)) (updI (updI Ah c a) x 0) (updI (updI Be a c) x 0) (updI L k (L k - 1)) w' ∧ But (Own3 b gl gn) w w' := by
  have hn := h.hn; have hm := h.hm; have hcl := h.hcl; have hcn := h.hcn
  have hin := isNode_any (x : Int) h
  rw [inB_yes hx] at hin
  have c0 := h.cells.1
  obtain ⟨k0, k1, k2⟩ := h.lks.cell (i := x) (by omega)
  rw [hR] at k0; rw [ha] at k1; rw [hc] at k2
  have xI0 : (0 : Int) ≤ (x : Int) := by omega
  have xI1 : (x : Int) < (n : Int) + (m : Int) := by omega
  have aI0 : (0 : Int) ≤ (a : Int) := by omega
  have aI1 : (a : Int) < (n : Int) + (m : Int) := by omega
  have cI0 : (0 : Int) ≤ (c : Int) := by omega
  have cI1 : (c : Int) < (n : Int) + (m : Int) := by omega
  have kI0 : (0 : Int) ≤ (k : Int) := by omega
  have kI1 : (k : Int) < (m : Int) := by omega
  have t1 : ((k : Int) == -1) = false := by simp
  have hown : Hid (∀ q, Own3 b gl gn q → q < w.heap.size) := fun q hq => h.lt hq
  have HIN := Lib.hid hin; have H := Lib.hid h
  clear hin h hR ha hc
  have hbx := Blk.new w 117 #[.int .i64 k, .int .i64 a, .int .i64 c]
  have hG0 : But (Own3 b gl gn) w (w.alloc (.cells #[.int .i64 k, .int .i64 a, .int .i64 c] 117)) := (But.refl _ _).alloc _
  have h0 := H.out.but ((But.refl Nob w).alloc (.cells #[.int .i64 k, .int .i64 a, .int .i64 c] 117)) fun _ _ x => x
  have HBX := Lib.hid hbx; have HG0 := Lib.hid hG0; have H0 := Lib.hid h0
  have b0 := hbx.cell 0
  simp only [List.getElem?_toArray, List.getElem?_cons_zero] at b0
  clear hbx hG0 h0
  go_enter Try.func82, Try.ntmps82
  go_upto_region 6 with (first
    | (go_at_call 80; (with_reducible refine HIN.out.mono ?_); rintro e wq ⟨rfl, rfl⟩))
  clear k0 k1 k2 c0 b0
  go_cut [6] (fun t wx => t = .pointer (some ⟨w.heap.size, 0, none⟩) ∧ ChV b gl gn cl cn n m R Ah (updI Be a c) L wx ∧ Blk wx w.heap.size 117 #[.int .i64 k, .int .i64 a, .int .i64 c] ∧ But (Own3 b gl gn) w wx)
  case first =>
    have c0 := H0.out.cells.1
    have b1 := HBX.out.cell 1; have b2 := HBX.out.cell 2
    simp only [List.getElem?_toArray, List.getElem?_cons_zero, List.getElem?_cons_succ] at b1 b2
    have q2 := (H0.out.lks.cell (i := a) (by omega)).2.2
    have f2 := H0.out.lks.free (a * 3 + 2)
    generalize w.alloc (.cells #[.int .i64 k, .int .i64 a, .int .i64 c] 117) = w1 at *
    go_wp2_with fail
    go_still_tail 10, (by kernel_rfl)
    change wpList _ _ _ _ _ w1.drew
    go_wp2_with fail
    go_meet
    have hH : ChV b gl gn cl cn n m R Ah Be L w1.drew := H0.out.but (But.refl Nob w1).drew fun _ _ x => x
    refine ⟨rfl, hH.links (hH.lks.setB (i := a) (by omega) c), (show Blk w1.drew _ _ _ from HBX.out).far (by show _ ≠ gl; have := hown.out gl (.inr (.inl rfl)); omega) _, HG0.out.drew.set ⟨gl, a * 3 + 2, none⟩ _ (.inl (.inr (.inl rfl)))⟩
  case rest =>
    obtain ⟨rfl, h1, hbx1, hG1⟩ := hcut
    rename World => w1
    have H1 := Lib.hid h1; have HB1 := Lib.hid hbx1; have HG1 := Lib.hid hG1; clear h1 hbx1 hG1 H0 HBX HG0
    go_upto_region 7 with fail
    go_cut [6] (fun t wx => t = .pointer (some ⟨w.heap.size, 0, none⟩) ∧ ChV b gl gn cl cn n m R (updI Ah c a) (updI Be a c) L wx ∧ Blk wx w.heap.size 117 #[.int .i64 k, .int .i64 a, .int .i64 c] ∧ But (Own3 b gl gn) w wx)
    case first =>
      have c0 := H1.out.cells.1
      have b1 := HB1.out.cell 1; have b2 := HB1.out.cell 2
      simp only [List.getElem?_toArray, List.getElem?_cons_zero, List.getElem?_cons_succ] at b1 b2
      have q2 := (H1.out.lks.cell (i := c) (by omega)).2.1
      have f2 := H1.out.lks.free (c * 3 + 1)
      go_wp2_with fail
      go_still_tail 10, (by kernel_rfl)
      change wpList _ _ _ _ _ w1.drew
      go_wp2_with fail
      go_meet
      have hH : ChV b gl gn cl cn n m R Ah (updI Be a c) L w1.drew := H1.out.but (But.refl Nob w1).drew fun _ _ x => x
      exact ⟨rfl, hH.links (hH.lks.setA (i := c) (by omega) a), (show Blk w1.drew _ _ _ from HB1.out).far (by show _ ≠ gl; have := hown.out gl (.inr (.inl rfl)); omega) _, HG1.out.drew.set ⟨gl, c * 3 + 1, none⟩ _ (.inl (.inr (.inl rfl)))⟩
    case rest =>
      obtain ⟨rfl, h2, hbx2, hG2⟩ := hcut
      rename World => w2
      have H2 := Lib.hid h2; have HB2 := Lib.hid hbx2; have HG2 := Lib.hid hG2; clear h2 hbx2 hG2 H1 HB1 HG1
      go_upto_region 8 with fail
      go_cut [6] (fun t wx => t = .pointer (some ⟨w.heap.size, 0, none⟩) ∧ ChV b gl gn cl cn n m (updI R x (-1)) (updI (updI Ah c a) x 0) (updI (updI Be a c) x 0) L wx ∧ Blk wx w.heap.size 117 #[.int .i64 k, .int .i64 a, .int .i64 c] ∧ But (Own3 b gl gn) w wx)
      case first =>
        have c0 := H2.out.cells.1
        obtain ⟨q0, q1, q2⟩ := H2.out.lks.cell (i := x) (by omega)
        have f0 := H2.out.lks.free (x * 3); have f1 := H2.out.lks.free (x * 3 + 1); have f2 := H2.out.lks.free (x * 3 + 2)
        go_wp2_with fail
        go_meet
        have s1 := H2.out.links (H2.out.lks.setR (i := x) (by omega) (-1))
        have s2 := s1.links (s1.lks.setA (i := x) (by omega) 0)
        have hne : w.heap.size ≠ gl := by have := hown.out gl (.inr (.inl rfl)); omega
        exact ⟨rfl, s2.links (s2.lks.setB (i := x) (by omega) 0), ((HB2.out.far (by exact hne) _).far (by exact hne) _).far (by exact hne) _, ((HG2.out.set ⟨gl, x * 3, none⟩ _ (.inl (.inr (.inl rfl)))).set ⟨gl, x * 3 + 1, none⟩ _ (.inl (.inr (.inl rfl)))).set ⟨gl, x * 3 + 2, none⟩ _ (.inl (.inr (.inl rfl)))⟩
      case rest =>
        obtain ⟨rfl, h3, hbx3, hG3⟩ := hcut
        rename World => w3
        have c2 := h3.cells.2.2
        have b0 := hbx3.cell 0
        simp only [List.getElem?_toArray, List.getElem?_cons_zero] at b0
        obtain ⟨l0, l1⟩ := h3.len hk
        have hs : IntKind.i64.wrap (L k - 1) = L k - 1 := IntWalk.i64_in _ (by omega)
        have H3 := Lib.hid h3; have HB3 := Lib.hid hbx3; have HG3 := Lib.hid hG3; clear h3 hbx3 hG3 H2 HB2 HG2
        have hne : w.heap.size ≠ gn := by have := hown.out gn (.inr (.inr rfl)); omega
        have hb4 := ((show Blk w3.drew _ _ _ from HB3.out).far (p := ⟨gn, k, none⟩) hne (.int .i64 (L k - 1))).cell 0
        simp only [List.getElem?_toArray, List.getElem?_cons_zero] at hb4
        go_wp2_with fail
        go_still_tail 10, (by kernel_rfl)
        change wpList _ _ _ _ _ w3.drew
        go_wp2_with fail
        go_ret2
        have hH : ChV b gl gn cl cn n m (updI R x (-1)) (updI (updI Ah c a) x 0) (updI (updI Be a c) x 0) L w3.drew := H3.out.but (But.refl Nob w3).drew fun _ _ x => x
        exact ⟨rfl, hH.setL hk _, HG3.out.drew.set ⟨gn, k, none⟩ _ (.inl (.inr (.inr rfl)))⟩
set_option maxRecDepth 100000 in
set_option maxHeartbeats 2000000 in
theorem remove_arg (x : Int) (h : ChV b gl gn cl cn n m R Ah Be L w) (hx : inB x n = false) :
    Calls Try.prog 82 #[.pointer (some ⟨b, 0, none⟩), .int .i64 x] w fun e w' => e = .returned (.tuple #[.int .i64 0, .int .i64 1]) ∧ w = w' := by
  have hin := isNode_any x h
  rw [hx] at hin
  have HIN := Lib.hid hin; clear hin h hx
  go_enter Try.func82, Try.ntmps82
  go_wp2_with (first
    | (go_at_call 80; (with_reducible refine HIN.out.mono ?_); rintro e wq ⟨rfl, rfl⟩))
  go_ret2
  exact ⟨rfl, rfl⟩
theorem remove_nil (x : Int) : Calls Try.prog 82 #[.pointer none, .int .i64 x] w fun e w' => e = .returned (.tuple #[.int .i64 0, .int .i64 1]) ∧ w = w' := by
  have HIN := Lib.hid (isNode_nil (w := w) x)
  go_enter Try.func82, Try.ntmps82
  go_wp2_with (first
    | (go_at_call 80; (with_reducible refine HIN.out.mono ?_); rintro e wq ⟨rfl, rfl⟩))
  go_ret2
  exact ⟨rfl, rfl⟩
set_option maxRecDepth 100000 in
set_option maxHeartbeats 2000000 in
theorem remove_none (x : Nat) (h : ChV b gl gn cl cn n m R Ah Be L w) (hx : x < n) (hR : R x = -1) :
    Calls Try.prog 82 #[.pointer (some ⟨b, 0, none⟩), .int .i64 x] w fun e w' => e = .returned (.tuple #[.int .i64 0, .int .i64 3]) ∧ But Nob w w' := by
  have hcl := h.hcl
  have hin := isNode_any (x : Int) h
  rw [inB_yes hx] at hin
  have c0 := h.cells.1
  obtain ⟨k0, k1, k2⟩ := h.lks.cell (i := x) (by omega)
  rw [hR] at k0
  have xI0 : (0 : Int) ≤ (x : Int) := by omega
  have xI1 : (x : Int) < (n : Int) + (m : Int) := by omega
  have b0 := (Blk.new w 117 #[.int .i64 (-1), .int .i64 (Ah x), .int .i64 (Be x)]).cell 0
  simp only [List.getElem?_toArray, List.getElem?_cons_zero] at b0
  have HIN := Lib.hid hin; clear hin h hR
  go_enter Try.func82, Try.ntmps82
  go_wp2_with (first
    | (go_at_call 80; (with_reducible refine HIN.out.mono ?_); rintro e wq ⟨rfl, rfl⟩))
  go_ret2
  exact ⟨rfl, (But.refl _ _).alloc _⟩
set_option maxRecDepth 100000 in
set_option maxHeartbeats 2000000 in
theorem behind_raw (i c : Nat) (h : ChV b gl gn cl cn n m R Ah Be L w) (hi : i < n + m) (hc : Be i = c) :
    Calls Try.prog 91 #[.pointer (some ⟨b, 0, none⟩), .int .i64 i] w fun e w' => e = .returned (.tuple #[.int .i64 (if c < n then (c : Int) else 0), .bool (decide (c < n))]) ∧ w = w' := by
  have hcl := h.hcl
  have hin := isNode_any (c : Int) h
  have c0 := h.cells.1
  obtain ⟨-, -, k2⟩ := h.lks.cell hi
  rw [hc] at k2
  have xI0 : (0 : Int) ≤ (i : Int) := by omega
  have xI1 : (i : Int) < (n : Int) + (m : Int) := by omega
  by_cases hn : c < n
  · rw [inB_yes hn] at hin
    rw [if_pos hn, decide_eq_true hn]
    have HIN := Lib.hid hin; clear hin h hc hn
    go_enter Try.func91, Try.ntmps91
    go_wp2_with (first
      | (go_at_call 80; (with_reducible refine HIN.out.mono ?_); rintro e wq ⟨rfl, rfl⟩))
    go_ret2
    exact ⟨rfl, rfl⟩
  · rw [inB_no (.inr (by omega))] at hin
    rw [if_neg hn, decide_eq_false hn]
    have HIN := Lib.hid hin; clear hin h hc hn
    go_enter Try.func91, Try.ntmps91
    go_wp2_with (first
      | (go_at_call 80; (with_reducible refine HIN.out.mono ?_); rintro e wq ⟨rfl, rfl⟩))
    go_ret2
    exact ⟨rfl, rfl⟩
set_option maxRecDepth 100000 in
set_option maxHeartbeats 2000000 in
theorem first_raw (k c : Nat) (h : ChV b gl gn cl cn n m R Ah Be L w) (hk : k < m) (hc : Be (n + k) = c) :
    Calls Try.prog 81 #[.pointer (some ⟨b, 0, none⟩), .int .i64 k] w fun e w' => e = .returned (.tuple #[.int .i64 (if c < n then (c : Int) else 0), .bool (decide (c < n))]) ∧ w = w' := by
  have hil := isList_any (k : Int) h
  rw [inB_yes hk] at hil
  have how := own_at (b := b) (n := n) (w := w) k (by have := h.hm; omega) h.hn h.cells.2.1
  have hbe := behind_raw (n + k) c h (by omega) hc
  obtain ⟨o, ho⟩ : ∃ o, o = n + k := ⟨_, rfl⟩
  rw [← ho] at how hbe
  obtain ⟨v, hv⟩ : ∃ v, v = (if c < n then (c : Int) else 0) := ⟨_, rfl⟩
  obtain ⟨d, hd⟩ : ∃ d, d = decide (c < n) := ⟨_, rfl⟩
  rw [← hv, ← hd] at hbe ⊢
  have HIL := Lib.hid hil; have HOW := Lib.hid how; have HBE := Lib.hid hbe
  clear hil how hbe h hc ho hv hd
  go_enter Try.func81, Try.ntmps81
  go_wp2_with (first
    | (go_at_call 79; (with_reducible refine HIL.out.mono ?_); rintro e wq ⟨rfl, rfl⟩)
    | (go_at_call 78; (with_reducible refine HOW.out.mono ?_); rintro e wq ⟨rfl, rfl⟩)
    | (go_at_call 91; (with_reducible refine HBE.out.mono ?_); rintro e wq ⟨rfl, rfl⟩))
  go_ret2
  exact ⟨rfl, rfl⟩
theorem first_out (k : Int) (h : ChV b gl gn cl cn n m R Ah Be L w) (hk : inB k m = false) :
    Calls Try.prog 81 #[.pointer (some ⟨b, 0, none⟩), .int .i64 k] w fun e w' => e = .returned (.tuple #[.int .i64 0, .bool false]) ∧ w = w' := by
  have hil := isList_any k h
  rw [hk] at hil
  have HIL := Lib.hid hil; clear hil h hk
  go_enter Try.func81, Try.ntmps81
  go_wp2_with (first
    | (go_at_call 79; (with_reducible refine HIL.out.mono ?_); rintro e wq ⟨rfl, rfl⟩))
  go_ret2
  exact ⟨rfl, rfl⟩
theorem firstc_nil (k : Int) : Calls Try.prog 81 #[.pointer none, .int .i64 k] w fun e w' => e = .returned (.tuple #[.int .i64 0, .bool false]) ∧ w = w' := by
  have HIL := Lib.hid (isList_nil (w := w) k)
  go_enter Try.func81, Try.ntmps81
  go_wp2_with (first
    | (go_at_call 79; (with_reducible refine HIL.out.mono ?_); rintro e wq ⟨rfl, rfl⟩))
  go_ret2
  exact ⟨rfl, rfl⟩
end
end Go.Proofs.Ytdlncbndhljhfaa
