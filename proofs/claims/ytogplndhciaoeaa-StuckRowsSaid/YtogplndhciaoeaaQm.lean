/- layer 27 (stuck): the law's row of waits. -/
import Derived.Test.YtogplndhciaoeaaQl
import Derived.Maps.AppendAt
namespace Go.Proofs.Ytogplndhciaoeaa
open Go.RowKit Go.Maps
set_option maxRecDepth 100000

def clW (x : Int × Int) : List Value := [.int .i64 x.1, .int .i64 x.2]
def dsW (ts : List (Int × Int)) : List Value := (ts.map clW).flatten
theorem dsW_cons (x : Int × Int) (r : List (Int × Int)) : dsW (x :: r) = clW x ++ dsW r := by unfold dsW; rw [List.map_cons, List.flatten_cons]
theorem dsW_app (a b : List (Int × Int)) : dsW (a ++ b) = dsW a ++ dsW b := by unfold dsW; rw [List.map_append, List.flatten_append]
theorem dsW_one (x : Int × Int) : dsW [x] = clW x := by rw [dsW_cons]; simp [dsW]
theorem dsW_get : ∀ (ts : List (Int × Int)) (i : Nat) (x : Int × Int), ts[i]? = some x → ∀ j, j < 2 → (dsW ts)[i * 2 + j]? = (clW x)[j]?
  | [], _, _, h, _, _ => by simp at h
  | y :: t, 0, x, h, j, hj => by
    simp at h; subst h
    rw [Nat.zero_mul, Nat.zero_add, dsW_cons, List.getElem?_append_left (by show j < 2; exact hj)]
  | y :: t, i + 1, x, h, j, hj => by
    have hl : (clW y).length = 2 := rfl
    rw [dsW_cons, List.getElem?_append_right (by rw [hl]; omega), hl, show (i + 1) * 2 + j - 2 = i * 2 + j by omega]
    exact dsW_get t i x (by simpa using h) j hj
abbrev OwnW (B : Nat) (w : World) (D : Value) (L : List (Int × Int)) : Prop := w.ownsRow B 62 2 D L.length (dsW L)
theorem ownW_row {w : World} {B : Nat} {D : Value} {L : List (Int × Int)} (h : OwnW B w D L) : ∃ A cap, D = .slice A L.length cap ∧ L.length ≤ cap ∧ RowW w.heap.size w A L := by
  have h' := h
  rcases h.2 with ⟨rfl, hn⟩ | ⟨g, cap, cur, rfl, hg, hh, hnc, _⟩
  · have : L = [] := List.eq_nil_of_length_eq_zero hn
    subst this
    exact ⟨none, 0, rfl, Nat.le_refl _, fun i x hx => by simp at hx⟩
  · refine ⟨some ⟨g, 0, none⟩, cap, rfl, hnc, fun i x hx => ⟨g, 0, rfl, (h'.lt g rfl).2, fun j u hj => ?_⟩⟩
    have hj2 : j < 2 := by have := (List.getElem?_eq_some_iff.1 hj).1; simpa using this
    have := h'.cells (g := g) rfl (i * 2 + j) u (by rw [dsW_get L i x hx j hj2]; exact hj)
    have hadd : (⟨g, 0, none⟩ : Addr).add (i * 2 + j) = ⟨g, 0 + i * 2 + j, none⟩ := by unfold Addr.add; split <;> simp_all
    rw [← hadd]; exact this
theorem infoWP : (Try.prog.info? 62).map (fun i => (i.zero, i.size, i.bytes)) = some (some (.agg #[.int .i64 0, .int .i64 0]), 2, 16) := by kernel_rfl
theorem app_w {ops : Array Oper} {rest : List Oper} {o : Oper} {a : Act} {w : World} {Q : Exit → Act → World → Prop} (hgd : o.guard = none) (s x : Operand) (ho : o.op = .call { callee := .builtin .append, args := #[s, x], argTypes := #[44, 44] })
    (B : Nat) (v : Value) (l : List (Int × Int)) (hs : a.eval s = v) (h : OwnW B w v l) (g cap : Nat) (z : Int × Int) (hx : a.eval x = .slice (some ⟨g, 0, none⟩) 1 cap) (hc : Blk w g 62 (clW z).toArray) (hl : l.length ≤ 100000) (hB : B ≤ w.heap.size)
    (K : ∀ v' w', OwnW B w' v' (l ++ [z]) → w.grownBy w' v.ownBlock → (v'.ownBlock = v.ownBlock ∨ v'.ownBlock = some w.heap.size) → wpList Try.prog ops Q rest (a.put o.dst v') w') : wpList Try.prog ops Q (o :: rest) a w := by
  obtain ⟨i0, hi0, hz0, hz1, hz2⟩ := info_partsN infoWP
  have hnew : ∀ j u, (clW z)[j]? = some u → w.cell? ((⟨g, 0, none⟩ : Addr).add j) = some u := fun j u hu => by
    rw [Addr.add_mid, hc.cell]; simpa using hu
  refine wpList_append_own_at w hgd s x 44 ho B 62 i0 _ 2 16 Try.underlying44 hi0 hz0 hz1 hz2 rfl (by decide) v l.length _ hs h ⟨g, 0, none⟩ 1 cap (clW z) hx rfl hnew (by intro u hu; simp [clW] at hu; rcases hu with rfl | rfl <;> rfl) (by unfold maxLen; omega) (by omega) hB ?_
  intro v' w' h1 h2 _ h4
  exact K v' w' (by unfold OwnW; rw [List.length_append, dsW_app, dsW_one]; exact h1) h2 h4
theorem app_n3 {ops : Array Oper} {rest : List Oper} {o : Oper} {a : Act} {w : World} {Q : Exit → Act → World → Prop} (hgd : o.guard = none) (s x : Operand) (ho : o.op = .call { callee := .builtin .append, args := #[s, x], argTypes := #[23, 23] })
    (B : Nat) (v : Value) (l : List Int) (hs : a.eval s = v) (h : OwnN B w v l) (g cap : Nat) (z : Int) (hx : a.eval x = .slice (some ⟨g, 0, none⟩) 1 cap) (hc : w.cell? ⟨g, 0, none⟩ = some (.int .i64 z)) (hl : l.length ≤ 100000) (hB : B ≤ w.heap.size)
    (K : ∀ v' w', OwnN B w' v' (l ++ [z]) → w.grownBy w' v.ownBlock → (v'.ownBlock = v.ownBlock ∨ v'.ownBlock = some w.heap.size) → wpList Try.prog ops Q rest (a.put o.dst v') w') : wpList Try.prog ops Q (o :: rest) a w := by
  obtain ⟨i0, hi0, hz0, hz1, hz2⟩ := info_partsN infoI
  have hnew : ∀ j u, [Value.int .i64 z][j]? = some u → w.cell? ((⟨g, 0, none⟩ : Addr).add j) = some u := fun j u hu => by
    match j, hu with
    | 0, hu => simp at hu; subst hu; rw [show (⟨g, 0, none⟩ : Addr).add 0 = ⟨g, 0, none⟩ by unfold Addr.add; rw [if_pos rfl]]; exact hc
  refine wpList_append_own_at w hgd s x 23 ho B 3 i0 (.int .i64 0) 1 8 Try.underlying23 hi0 hz0 hz1 hz2 rfl (by decide) v l.length _ hs h ⟨g, 0, none⟩ 1 cap [.int .i64 z] hx rfl hnew (by intro u hu; simp at hu; subst hu; rfl) (by unfold maxLen; omega) (by omega) hB ?_
  intro v' w' h1 h2 _ h4
  exact K v' w' (by unfold OwnN; rw [List.length_append, List.map_append]; exact h1) h2 h4
theorem apart_of {a b : Option Nat} (h : ∀ g, a = some g → b ≠ some g) : b = none ∨ b ≠ a := by
  cases b with
  | none => exact .inl rfl
  | some g => exact .inr fun e => h g e.symm rfl
theorem infoA2 : (Try.prog.info? 24).map (·.size) = some 2 := by kernel_rfl
theorem stA {ops : Array Oper} {rest : List Oper} {o : Oper} {a : Act} {w : World} {Q : Exit → Act → World → Prop} (hgd : o.guard = none) (x y : Operand) (ho : o.op = .store 24 x y)
    (g : Nat) (c d : Int) (hx : a.eval x = .pointer (some ⟨g, 0, none⟩)) (hy : a.eval y = .agg #[.int .i64 c, .int .i64 d]) (old : Array Value) (hg : w.heap[g]? = some (.cells old 24 (0, 0))) (hold : old.size = 2)
    (h : wpList Try.prog ops Q rest (a.put o.dst undef) (w.setRow g #[.int .i64 c, .int .i64 d])) : wpList Try.prog ops Q (o :: rest) a w :=
  wpList_store_row hgd 24 x y ho g _ hx hy 24 old hg (by rw [infoA2]; rfl) (by rw [hold]; rfl) (by simp [Value.oneCell']) h
def apartU (l : List (Int × Int)) (i : Nat) : List (Int × Int) := (l.take (min i 30)).foldl addA []
theorem apartU_succ (l : List (Int × Int)) (i : Nat) (h : i < l.length) (h30 : i < 30) : apartU l (i + 1) = addA (apartU l i) l[i] := by
  unfold apartU
  rw [show min (i + 1) 30 = i + 1 by omega, show min i 30 = i by omega, List.take_succ_eq_append_getElem h, List.foldl_append]; rfl
theorem apartU_over (l : List (Int × Int)) (i : Nat) (h30 : 30 ≤ i) : apartU l (i + 1) = apartU l i := by
  unfold apartU
  rw [show min (i + 1) 30 = 30 by omega, show min i 30 = 30 by omega]
theorem apartU_all (l : List (Int × Int)) : apartU l l.length = apartL l := by
  unfold apartU apartL
  by_cases h : l.length ≤ 30
  · rw [show min l.length 30 = l.length by omega, List.take_length, List.take_of_length_le h]
  · rw [show min l.length 30 = 30 by omega]
theorem apartU_len (l : List (Int × Int)) (i : Nat) : (apartU l i).length ≤ 30 := by
  have := (fold_one (l.take (min i 30)) [] List.nodup_nil).2
  unfold apartU
  rw [List.length_take, List.length_nil] at this; omega
set_option maxHeartbeats 16000000 in
theorem apart_any (A : Option Addr) (l : List (Int × Int)) (n cap : Nat) (hn : l.length = n) (hnm : n ≤ 9223372036854775807) (w : World) (h : RowW w.heap.size w A l) :
    Calls Try.prog 23 #[.slice A n cap] w fun e w' => ∃ A1 c1 A2 c2 A3 c3, e = .returned (.tuple #[.slice A1 (apartL l).length c1, .slice A2 (apartL l).length c2, .slice A3 (apartL l).length c3]) ∧ RowW w'.heap.size w' A1 (apartL l) ∧ RowN w'.heap.size w' A2 ((apartL l).map (·.1)) ∧ RowN w'.heap.size w' A3 ((apartL l).map (·.2)) ∧ Below w.heap.size w w' := by
  have HR := Lib.hid h; have HN := Lib.hid hn
  clear h hn
  go_enter Try.func23, Try.ntmps23
  go_wp2_with fail
  go_loopw [5, 6, 7, 14] (fun ov tv nv iv wr => ∃ i : Nat, iv = .int .i64 i ∧ i ≤ n ∧ OwnW w.heap.size wr ov (apartU l i) ∧ OwnN w.heap.size wr tv ((apartU l i).map (·.1)) ∧ OwnN w.heap.size wr nv ((apartU l i).map (·.2)) ∧ (∀ g, ov.ownBlock = some g → tv.ownBlock ≠ some g ∧ nv.ownBlock ≠ some g) ∧ (∀ g, tv.ownBlock = some g → nv.ownBlock ≠ some g) ∧ Below w.heap.size w wr) (fun _ _ _ iv _ => n - (intOf iv).toNat)
  case atStart => exact ⟨0, rfl, Nat.zero_le _, World.ownsRow_nil _ _ _ _, World.ownsRow_nil _ _ _ _, World.ownsRow_nil _ _ _ _, fun g h => by simp [Value.ownBlock] at h, fun g h => by simp [Value.ownBlock] at h, Below.refl _ _⟩
  case round =>
    obtain ⟨i, rfl, hi, ho, ht, hs, hd1, hd2, hb⟩ := hrel
    have HO := Lib.hid ho; have HT := Lib.hid ht; have HS := Lib.hid hs; have HD1 := Lib.hid hd1; have HD2 := Lib.hid hd2; have HB := Lib.hid hb
    clear ho ht hs hd1 hd2 hb
    have HLN := Lib.hid (apartU_len l i)
    by_cases hlt : i < n
    · have hkl : i < l.length := by rw [HN.out]; exact hlt
      obtain ⟨x, hx⟩ : ∃ x, l[i]? = some x := ⟨_, List.getElem?_eq_getElem hkl⟩
      obtain ⟨b, o, rfl, -, hr⟩ := (HR.out.below HB.out) i x hx
      have HRG := Lib.hid hr
      have HID : Hid ((Try.prog.info? 24).map (·.size) = some [Value.int .i64 x.1, Value.int .i64 x.2].length) := infoA2
      have k0 : (0 : Int) ≤ (i : Int) := by omega
      have k1 : (i : Int) < (n : Int) := by omega
      have kw : wrap64 ((i : Int) + 1) = (i : Int) + 1 := by unfold wrap64; omega
      have HUS : Hid (i < 30 → apartU l (i + 1) = addA (apartU l i) x) := fun h => by rw [apartU_succ l i hkl h, (List.getElem?_eq_some_iff.1 hx).2]
      have HUO := Lib.hid (apartU_over l i)
      obtain ⟨c, d⟩ := x
      dsimp only at HRG HID HUS
      clear hr hx hkl
      go_upto_region 6 with (first
        | (with_reducible (show wpList _ _ _ _ _ _); refine wpList_load_mid rfl 24 (.tmp 17) rfl b (o + i * 2) rfl [.int .i64 c, .int .i64 d] _ HRG.out Try.underlying24 rfl HID.out ?_)
        | (with_reducible (show wpList _ _ _ _ _ _); refine stA rfl (.tmp 9) (.tmp 18) rfl wr.heap.size c d rfl rfl _ (heap_alloc_new _ _) rfl ?_))
      have hgg : (wr.alloc (.cells #[.int .i64 0, .int .i64 0] 24)).heap[wr.heap.size]? = some (.cells #[.int .i64 0, .int .i64 0] 24 (0, 0)) := heap_alloc_new _ _
      have hbx : Blk ((wr.alloc (.cells #[.int .i64 0, .int .i64 0] 24)).setRow wr.heap.size #[.int .i64 c, .int .i64 d]) wr.heap.size 24 #[.int .i64 c, .int .i64 d] := setRow_heap _ _ _ _ _ _ hgg
      have hbw : Below wr.heap.size wr ((wr.alloc (.cells #[.int .i64 0, .int .i64 0] 24)).setRow wr.heap.size #[.int .i64 c, .int .i64 d]) := (((But.refl (fun b => b = wr.heap.size) wr).alloc _).row wr.heap.size _ (.inl rfl)).below (Nat.le_refl _) fun b _ h => Nat.le_of_eq h.symm
      have hgs : wr.heap.size < ((wr.alloc (.cells #[.int .i64 0, .int .i64 0] 24)).setRow wr.heap.size #[.int .i64 c, .int .i64 d]).heap.size := hbx.lt
      clear hgg
      generalize (wr.alloc (.cells #[.int .i64 0, .int .i64 0] 24)).setRow wr.heap.size #[.int .i64 c, .int .i64 d] = V2 at *
      have HBV := Lib.hid (HB.out.trans (hbw.mono HB.out.size))
      have hgn : wr.grownBy V2 none := ⟨hbw.os, hbw.tape, hbw.output, hbw.size, fun j hj _ => hbw.block j hj⟩
      have HOV : Hid (OwnW w.heap.size V2 u5 (apartU l i)) := HO.out.kept hgn (by cases u5.ownBlock <;> simp)
      have HTV : Hid (OwnN w.heap.size V2 u6 ((apartU l i).map (·.1))) := HT.out.kept hgn (by cases u6.ownBlock <;> simp)
      have HSV : Hid (OwnN w.heap.size V2 u7 ((apartU l i).map (·.2))) := HS.out.kept hgn (by cases u7.ownBlock <;> simp)
      have L5 : Hid (∀ k, u5.ownBlock = some k → k < wr.heap.size) := fun k e => (HO.out.lt k e).2
      have L6 : Hid (∀ k, u6.ownBlock = some k → k < wr.heap.size) := fun k e => (HT.out.lt k e).2
      have L7 : Hid (∀ k, u7.ownBlock = some k → k < wr.heap.size) := fun k e => (HS.out.lt k e).2
      have HGS := Lib.hid hgs
      clear hbw HRG HID hgn hgs
      have HBK := Lib.hid hbx
      clear hbx
      generalize wr.heap.size = g at *
      have e0 : V2.cell? ⟨g, 0, none⟩ = some (.int .i64 c) := HBK.out.cell 0
      have e1 : V2.cell? ⟨g, 1, none⟩ = some (.int .i64 d) := HBK.out.cell 1
      obtain ⟨A6, c6, rfl, -, hr6⟩ := ownN_rowQ HTV.out
      obtain ⟨A7, c7, rfl, -, hr7⟩ := ownN_rowQ HSV.out
      have HON := Lib.hid (on_any A6 A7 (apartU l i) (apartU l i).length c6 c7 rfl (Nat.le_trans HLN.out (by omega)) V2.heap.size c V2 hr6 hr7)
      clear hr6 hr7
      rw [List.length_map, List.length_map] at *
      generalize hU : apartU l i = U at *
      have HU := Lib.hid hU
      clear hU
      match hv : nxt U c with
      | some u =>
        have HST : Hid (apartU l (i + 1) = U) := by
          show _ = _
          by_cases h30 : i < 30
          · rw [HUS.out h30]; unfold addA; rw [if_neg (by rw [hv]; simp)]
          · exact HUO.out (by omega)
        rw [hv] at HON
        unfold tupO at HON
        clear hv
        go_wp2_with (go_at_call 29; (with_reducible refine HON.out.mono ?_); rintro e w3 ⟨rfl, rfl⟩)
        go_roundw
        case rel =>
          exact ⟨i + 1, by first | rfl | go_num, by omega, by rw [HST.out]; exact HOV.out, by rw [HST.out]; exact HTV.out, by rw [HST.out]; exact HSV.out, HD1.out, HD2.out, HBV.out⟩
        case measure => simp [intOf]; omega
      | none =>
        rw [hv] at HON
        unfold tupO at HON
        by_cases h30 : i < 30
        · have HST : Hid (apartU l (i + 1) = U ++ [(c, d)]) := by show _ = _; rw [HUS.out h30]; unfold addA; rw [if_pos hv]
          have g30 : ¬ (30 : Int) ≤ (i : Int) := by omega
          have HUL : Hid (U.length ≤ 100000) := Nat.le_trans HLN.out (by omega)
          have HUL1 : Hid ((U.map (·.1)).length ≤ 100000) := by show _ ≤ _; rw [List.length_map]; exact HUL.out
          have HUL2 : Hid ((U.map (·.2)).length ≤ 100000) := by show _ ≤ _; rw [List.length_map]; exact HUL.out
          clear hv
          go_upto_region 8 with (go_at_call 29; (with_reducible refine HON.out.mono ?_); rintro e w3 ⟨rfl, rfl⟩)
          have hvs := HBV.out.size
          go_upto_region 9 with (with_reducible (show wpList _ _ _ _ _ _); refine app_w rfl (.tmp 32) (.tmp 38) rfl w.heap.size u5 U rfl (HOV.out.alloc _) V2.heap.size 1 (c, d) rfl (Blk.new V2 _ _) HUL.out (by simp; omega) ?_; intro v5 w5 ho5 hg5 ha5; have HO5 := Lib.hid ho5; have HG5 := Lib.hid hg5; have HA5 := Lib.hid ha5; clear ho5 hg5 ha5)
          clear hvs
          have HB5 : Hid (Below w.heap.size w w5) := (HBV.out.alloc HBV.out.size _).grown HG5.out (by have := HBV.out.size; simp; omega) (fun r e => (HOV.out.lt r e).1)
          have HT5 : Hid (OwnN w.heap.size w5 (.slice A6 U.length c6) (U.map (·.1))) := (HTV.out.alloc _).kept HG5.out (apart_of fun g e => (HD1.out g e).1)
          have HS5 : Hid (OwnN w.heap.size w5 (.slice A7 U.length c7) (U.map (·.2))) := (HSV.out.alloc _).kept HG5.out (apart_of fun g e => (HD1.out g e).2)
          have S5 : Hid (V2.heap.size < w5.heap.size) := by show V2.heap.size < w5.heap.size; have := HG5.out.size; simp at this; omega
          have hgb : ∀ k, u5.ownBlock = some k → k ≠ g := fun k e => by have := L5.out k e; omega
          have f0 : w5.cell? ⟨g, 0, none⟩ = some (.int .i64 c) := HG5.out.cell (show (V2.alloc _).cell? ⟨g, 0, none⟩ = _ from (HBK.out.alloc _).cell 0) (fun e => hgb g e.symm rfl)
          have f1 : w5.cell? ⟨g, 1, none⟩ = some (.int .i64 d) := HG5.out.cell (show (V2.alloc _).cell? ⟨g, 1, none⟩ = _ from (HBK.out.alloc _).cell 1) (fun e => hgb g e.symm rfl)
          clear hgb
          have HF0 := Lib.hid f0; have HF1 := Lib.hid f1
          clear e0 e1 f1
          have hvs := HB5.out.size
          go_upto_region 10 with (with_reducible (show wpList _ _ _ _ _ _); refine app_n3 rfl (.tmp 40) (.tmp 43) rfl w.heap.size (.slice A6 U.length c6) (U.map (·.1)) rfl (HT5.out.alloc _) w5.heap.size 1 c rfl ((Blk.new w5 _ _).cell 0) HUL1.out (by simp; omega) ?_; intro v6 w6 ho6 hg6 ha6; have HO6 := Lib.hid ho6; have HG6 := Lib.hid hg6; have HA6 := Lib.hid ha6; clear ho6 hg6 ha6)
          clear f0 hvs
          have hgb6 : ∀ k, (Value.slice A6 U.length c6).ownBlock = some k → k ≠ g := fun k e => by have := L6.out k e; omega
          have f1 : w6.cell? ⟨g, 1, none⟩ = some (.int .i64 d) := HG6.out.cell (show (w5.alloc _).cell? ⟨g, 1, none⟩ = _ from (World.cell?_of_block (Below.heap_alloc w5 _ g (by have := S5.out; have := HGS.out; omega))).trans HF1.out) (fun e => hgb6 g e.symm rfl)
          clear hgb6
          have HB6 : Hid (Below w.heap.size w w6) := (HB5.out.alloc HB5.out.size _).grown HG6.out (by have := HB5.out.size; simp; omega) (fun r e => (HT5.out.lt r e).1)
          have D56 : Hid (∀ g, (Value.slice A6 U.length c6).ownBlock = some g → v5.ownBlock ≠ some g) := fun k e1 e2 => by
            rcases HA5.out with h | h
            · exact (HD1.out k (h ▸ e2)).1 e1
            · rw [h] at e2; injection e2 with e2; have := L6.out k e1; have := HGS.out; simp at e2; omega
          have HO56 : Hid (OwnW w.heap.size w6 v5 (U ++ [(c, d)])) := (HO5.out.alloc _).kept HG6.out (apart_of D56.out)
          have HS6 : Hid (OwnN w.heap.size w6 (.slice A7 U.length c7) (U.map (·.2))) := (HS5.out.alloc _).kept HG6.out (apart_of HD2.out)
          have S6 : Hid (w5.heap.size < w6.heap.size) := by show w5.heap.size < w6.heap.size; have := HG6.out.size; simp at this; omega
          have hvs := HB6.out.size
          go_upto_region 11 with (with_reducible (show wpList _ _ _ _ _ _); refine app_n3 rfl (.tmp 45) (.tmp 48) rfl w.heap.size (.slice A7 U.length c7) (U.map (·.2)) rfl (HS6.out.alloc _) w6.heap.size 1 d rfl ((Blk.new w6 _ _).cell 0) HUL2.out (by simp; omega) ?_; intro v7 w7 ho7 hg7 ha7; have HO7 := Lib.hid ho7; have HG7 := Lib.hid hg7; have HA7 := Lib.hid ha7; clear ho7 hg7 ha7)
          clear f1 hvs
          have HB7 : Hid (Below w.heap.size w w7) := (HB6.out.alloc HB6.out.size _).grown HG7.out (by have := HB6.out.size; simp; omega) (fun r e => (HS6.out.lt r e).1)
          have D57 : Hid (∀ g, (Value.slice A7 U.length c7).ownBlock = some g → v5.ownBlock ≠ some g) := fun k e1 e2 => by
            rcases HA5.out with h | h
            · exact (HD1.out k (h ▸ e2)).2 e1
            · rw [h] at e2; injection e2 with e2; have := L7.out k e1; have := HGS.out; simp at e2; omega
          have D67 : Hid (∀ g, (Value.slice A7 U.length c7).ownBlock = some g → v6.ownBlock ≠ some g) := fun k e1 e2 => by
            rcases HA6.out with h | h
            · exact HD2.out k (h ▸ e2) e1
            · rw [h] at e2; injection e2 with e2; have := L7.out k e1; have := HGS.out; have := S5.out; simp at e2; omega
          have HO57 : Hid (OwnW w.heap.size w7 v5 (U ++ [(c, d)])) := (HO56.out.alloc _).kept HG7.out (apart_of D57.out)
          have HO67 : Hid (OwnN w.heap.size w7 v6 (U.map (·.1) ++ [c])) := (HO6.out.alloc _).kept HG7.out (apart_of D67.out)
          have E56 : Hid (∀ g, v5.ownBlock = some g → v6.ownBlock ≠ some g) := fun k e1 e2 => by
            rcases HA6.out with h | h
            · exact D56.out k (h ▸ e2) e1
            · rw [h] at e2; injection e2 with e2; have := (HO5.out.lt k e1).2; simp at e2; omega
          have E57 : Hid (∀ g, v5.ownBlock = some g → v7.ownBlock ≠ some g) := fun k e1 e2 => by
            rcases HA7.out with h | h
            · exact D57.out k (h ▸ e2) e1
            · rw [h] at e2; injection e2 with e2; have := (HO56.out.lt k e1).2; simp at e2; omega
          have E67 : Hid (∀ g, v6.ownBlock = some g → v7.ownBlock ≠ some g) := fun k e1 e2 => by
            rcases HA7.out with h | h
            · exact D67.out k (h ▸ e2) e1
            · rw [h] at e2; injection e2 with e2; have := (HO6.out.lt k e1).2; simp at e2; omega
          go_wp2_with fail
          go_roundw
          case rel => exact ⟨i + 1, by first | rfl | go_num, by omega, by rw [HST.out]; exact HO57.out, by rw [HST.out, List.map_append]; exact HO67.out, by rw [HST.out, List.map_append]; exact HO7.out, fun g e => ⟨E56.out g e, E57.out g e⟩, E67.out, HB7.out⟩
          case measure => simp [intOf]; omega
        · have HST : Hid (apartU l (i + 1) = U) := HUO.out (by omega)
          have g30 : (30 : Int) ≤ (i : Int) := by omega
          clear hv
          go_wp2_with (go_at_call 29; (with_reducible refine HON.out.mono ?_); rintro e w3 ⟨rfl, rfl⟩)
          go_roundw
          case rel =>
            exact ⟨i + 1, by first | rfl | go_num, by omega, by rw [HST.out]; exact HOV.out, by rw [HST.out]; exact HTV.out, by rw [HST.out]; exact HSV.out, HD1.out, HD2.out, HBV.out⟩
          case measure => simp [intOf]; omega
    · obtain rfl : i = n := by omega
      have HE : Hid (apartU l i = apartL l) := by show _ = _; rw [← HN.out]; exact apartU_all l
      rw [HE.out] at HO HT HS
      obtain ⟨A1, c1, rfl, -, h1⟩ := ownW_row HO.out
      obtain ⟨A2, c2, rfl, -, h2⟩ := ownN_rowQ HT.out
      obtain ⟨A3, c3, rfl, -, h3⟩ := ownN_rowQ HS.out
      have H1 := Lib.hid h1; have H2 := Lib.hid h2; have H3 := Lib.hid h3
      clear h1 h2 h3
      rw [List.length_map, List.length_map] at *
      go_wp2_with fail
      go_ret3
      exact ⟨A1, c1, A2, c2, A3, c3, rfl, H1.out, H2.out, H3.out, HB.out⟩
end Go.Proofs.Ytogplndhciaoeaa
