/- layer 27 (stuck): the document's Rising. -/
import Derived.Test.YtogplndhciaoeaaQh
import Derived.Test.YtogplndhciaoeaaPc
import Derived.Deep.AppendLies
import Derived.Laws.OwnMore
namespace Go.Proofs.Ytogplndhciaoeaa
open Go.RowKit Go.Maps
set_option maxRecDepth 100000

theorem step_run_append {P : Program} {w : World} {ops : Array Oper} {o : Oper} {a : Act} {K : Act → World → Prop} {Q : Exit → Act → World → Prop} {E : Prop} (hgd : o.guard = none) (s x : Operand) (t : TypeId)
    (ho : o.op = .call { callee := .builtin .append, args := #[s, x], argTypes := #[t, t] }) (va vx : Value) (hs : a.eval s = va) (hx : a.eval x = vx) (r : Value) (w' : World) (hrun : (Builtin.append_ #[t, t] o.type #[va, vx]).run P w = .ok r w') (h : K (a.put o.dst r) w') :
    if Region.wanted o (yielded ops a.tmps) = true then Oper.wp P o a w K Q else E := by
  have hw : Region.wanted o (yielded ops a.tmps) = true := by simp [Region.wanted, hgd]
  rw [if_pos hw]
  unfold Oper.wp execOp
  simp only [ho, resolve, invoke, builtin, Sem.run_bind, Sem.run_pure, Result.andThen_ok, List.map_toArray, List.map_cons, List.map_nil, hs, hx, hrun]
  exact h
theorem rowN_cells {w : World} {g : Nat} {cur : Array Value} {l : List Int} (hh : w.heap[g]? = some (.cells cur 3 (0, 0))) (ht : cur.toList.take l.length = l.map (Value.int .i64)) (k : Nat) : ∀ j u, ((l.drop k).map (Value.int .i64))[j]? = some u → w.cell? ((⟨g, k, none⟩ : Addr).add j) = some u := fun j u hu => by
  rw [Addr.add_mid, cell_of_row w g (k + j) cur 3 (0, 0) hh, ← Array.getElem?_toList]
  have hj : k + j < l.length := by
    have := (List.getElem?_eq_some_iff.1 hu).1
    rw [List.length_map, List.length_drop] at this; omega
  have h1 : (cur.toList.take l.length)[k + j]? = (l.map (Value.int .i64))[k + j]? := by rw [ht]
  rw [List.getElem?_take_of_lt hj] at h1
  rw [h1, ← hu, List.getElem?_map, List.getElem?_map, List.getElem?_drop]
/-- the last row of the two: onto a row that has no more room. -/
theorem run_join {w : World} {B : Nat} (t ty : TypeId) (ht : Try.prog.underlying t = some (.slice 3)) (b : Addr) (k : Nat) (olds : List Int) (hk : olds.length = k) (hc : ∀ j u, (olds.map (Value.int .i64))[j]? = some u → w.cell? (b.add j) = some u)
    (ad : Addr) (m c : Nat) (news : List Int) (hm : news.length = m) (hc2 : ∀ j u, (news.map (Value.int .i64))[j]? = some u → w.cell? (ad.add j) = some u) (hm0 : 0 < m) (hl : k + m ≤ 100000) (hB : B ≤ w.heap.size) :
    ∃ v w', (Builtin.append_ #[t, t] ty #[.slice (some b) k k, .slice (some ad) m c]).run Try.prog w = .ok v w' ∧ OwnN B w' v (olds ++ news) ∧ Below w.heap.size w w' := by
  obtain ⟨i0, hi0, hz0, hz1, hz2⟩ := info_partsN infoI
  have hr := run_append_grow (P := Try.prog) w t ty 3 i0 (.int .i64 0) ht hi0 hz0 b k k (olds.map (Value.int .i64)) (by rw [List.length_map, hk, hz1, Nat.mul_one]) hc ad m c (news.map (Value.int .i64)) (by rw [List.length_map, hm, hz1, Nat.mul_one]) hc2 (by omega) (by omega) (growslice_fits (by omega) (by rw [hz2]; omega))
  have hge := grownCap_ge w (k + m) k 3
  have hcm : grownCap w (k + m) k 3 ≤ maxLen := grownCap_le_maxLen w (k + m) k 3 (by unfold maxLen; omega)
  refine ⟨_, _, hr, ?_, ⟨rfl, rfl, rfl, by simp, fun j hj => Below.heap_alloc w.drew _ j hj⟩⟩
  have hlen : (olds ++ news).length = k + m := by rw [List.length_append, hk, hm]
  unfold OwnN
  rw [hlen]
  refine ⟨by rw [List.length_map, hlen, Nat.mul_one], .inr ⟨w.heap.size, _, _, rfl, hB, heap_alloc_new w.drew _, hge, hcm, ?_, ?_⟩⟩
  · simp only [Array.size_append, List.size_toArray, size_zeroCells, List.length_map, hk, hm]
    show k + m + (grownCap w (k + m) k 3 - (k + m)) * 1 = _
    omega
  · simp only [Array.toList_append, List.append_assoc]
    rw [← List.append_assoc, ← List.map_append, Nat.mul_one, ← hlen, ← List.length_map (f := Value.int .i64)]
    exact List.take_left
theorem run_join_nil {w : World} {B : Nat} (t ty : TypeId) (ht : Try.prog.underlying t = some (.slice 3)) (ad : Addr) (c : Nat) (x : Int) (hc2 : w.cell? ad = some (.int .i64 x)) (hB : B ≤ w.heap.size) :
    ∃ v w', (Builtin.append_ #[t, t] ty #[.slice none 0 0, .slice (some ad) 1 c]).run Try.prog w = .ok v w' ∧ OwnN B w' v [x] ∧ Below w.heap.size w w' := by
  obtain ⟨i0, hi0, hz0, hz1, hz2⟩ := info_partsN infoI
  obtain ⟨v', w', hr, h1, h2, _⟩ := run_append_own (P := Try.prog) w B t ty 3 i0 (.int .i64 0) 1 8 ht hi0 hz0 hz1 hz2 rfl (by decide) (.slice none 0 0) 0 [] (World.ownsRow_nil _ _ _ _) ad 1 c [.int .i64 x] rfl (fun j u hu => by
    match j, hu with
    | 0, hu => simp at hu; subst hu; rw [show ad.add 0 = ad by unfold Addr.add; rw [if_pos rfl]]; exact hc2) (by intro u hu; simp at hu; subst hu; rfl) (by unfold maxLen; omega) (by omega) hB
  refine ⟨v', w', hr, ?_, ⟨h2.os, h2.tape, h2.output, h2.size, fun k hk => h2.block k hk (by simp [Value.ownBlock])⟩⟩
  unfold OwnN; simpa using h1
theorem one_own (W : World) (B : Nat) (hB : B ≤ W.heap.size) (x : Int) : OwnN B (W.drew.alloc (.cells #[.int .i64 x] 3)) (.slice (some ⟨W.heap.size, 0, none⟩) 1 1) [x] :=
  ⟨rfl, .inr ⟨W.heap.size, 1, _, rfl, hB, heap_alloc_new W.drew _, Nat.le_refl _, by decide, rfl, rfl⟩⟩
/-- x goes into its place of a row that has something. -/
theorem ins_some {W : World} {B g n cap : Nat} {out : List Int} (t : TypeId) (ht : Try.prog.underlying t = some (.slice 3)) (ty1 ty2 : TypeId) (h : OwnN B W (.slice (some ⟨g, 0, none⟩) n cap) out) (hn : out.length = n) (hn0 : 0 < n) (hl : n ≤ 1000) (hB : B ≤ W.heap.size) (x : Int) (k : Nat) (hk : posR x out out.length = k) :
    ∃ v1 w1 v2 w2, (Builtin.append_ #[t, t] ty1 #[.slice (some ⟨W.heap.size, 0, none⟩) 1 1, .slice (if cap = k then some ⟨g, 0, none⟩ else some ⟨g, k, none⟩) (n - k) (cap - k)]).run Try.prog (W.drew.alloc (.cells #[.int .i64 x] 3)) = .ok v1 w1 ∧
      (Builtin.append_ #[t, t] ty2 #[.slice (some ⟨g, 0, none⟩) k k, v1]).run Try.prog w1 = .ok v2 w2 ∧ Below W.heap.size W w1 ∧ Below W.heap.size W w2 ∧ OwnN B w2 v2 (insR x out) := by
  obtain ⟨i0, hi0, hz0, hz1, hz2⟩ := info_partsN infoI
  have hkn : k ≤ n := by rw [← hk, ← hn]; exact posR_le x out out.length
  rcases h.2 with ⟨h0, _⟩ | ⟨g', cap', cur, hv, hbg, hh, hnc, hcm, hcs, ht0⟩
  · cases h0
  injection hv with hv1 hv2 hv3
  injection hv1 with hv1
  injection hv1 with hg
  subst hg; subst hv3
  rw [Nat.mul_one] at ht0
  have hgl : g < W.heap.size := (Array.getElem?_eq_some_iff.1 hh).1
  have hh1 : (W.drew.alloc (.cells #[.int .i64 x] 3)).heap[g]? = some (.cells cur 3 (0, 0)) := (Below.heap_alloc W.drew _ g hgl).trans hh
  obtain ⟨ad2, had2, hnews⟩ : ∃ ad2 : Addr, (if cap = k then some (⟨g, 0, none⟩ : Addr) else some ⟨g, k, none⟩) = some ad2 ∧ ∀ j u, ((out.drop k).map (Value.int .i64))[j]? = some u → (W.drew.alloc (.cells #[.int .i64 x] 3)).cell? (ad2.add j) = some u := by
    by_cases hck : cap = k
    · refine ⟨⟨g, 0, none⟩, by rw [if_pos hck], fun j u hu => ?_⟩
      have : out.drop k = [] := List.drop_eq_nil_of_le (by omega)
      rw [this] at hu; simp at hu
    · exact ⟨⟨g, k, none⟩, by rw [if_neg hck], rowN_cells hh1 ht0 k⟩
  rw [had2]
  obtain ⟨v1, w1, hr1, ho1, hg1, _⟩ := run_append_own (P := Try.prog) (W.drew.alloc (.cells #[.int .i64 x] 3)) W.heap.size t ty1 3 i0 (.int .i64 0) 1 8 ht hi0 hz0 hz1 hz2 rfl (by decide) (.slice (some ⟨W.heap.size, 0, none⟩) 1 1) 1 [.int .i64 x] (one_own W W.heap.size (Nat.le_refl _) x) ad2 (n - k) (cap - k) ((out.drop k).map (Value.int .i64)) (by rw [List.length_map, List.length_drop, hn, Nat.mul_one]) hnews (by intro u hu; obtain ⟨y, _, rfl⟩ := List.mem_map.1 hu; rfl) (by unfold maxLen; omega) (by omega) (by simp)
  have ho1' : OwnN W.heap.size w1 v1 (x :: out.drop k) := by
    unfold OwnN
    rw [List.length_cons, List.length_drop, hn, Nat.add_comm]
    exact ho1
  obtain ⟨g1, c1, rfl, hg1b, hg1l⟩ := World.ownsRow.form ho1 (by omega)
  have hb1 : Below W.heap.size (W.drew.alloc (.cells #[.int .i64 x] 3)) w1 := ⟨hg1.os, hg1.tape, hg1.output, hg1.size, fun j hj => hg1.block j (by simp; omega) (fun e => by simp [Value.ownBlock] at e; omega)⟩
  have hb0 : Below W.heap.size W w1 := ((Below.refl _ W).drew.alloc (Nat.le_refl _) _).trans hb1
  have hh2 : w1.heap[g]? = some (.cells cur 3 (0, 0)) := (hb1.block g hgl).trans hh1
  obtain ⟨v2, w2, hr2, ho2, hb2⟩ := run_join (B := B) t ty2 ht ⟨g, 0, none⟩ k (out.take k) (by rw [List.length_take]; omega) (fun j u hu => rowN_cells hh2 ht0 0 j u (by
      rw [List.drop_zero]
      rw [List.getElem?_map, List.getElem?_take] at hu
      rw [List.getElem?_map]
      split at hu
      · exact hu
      · cases hu)) ⟨g1, 0, none⟩ (1 + (n - k)) c1 (x :: out.drop k) (by rw [List.length_cons, List.length_drop, hn, Nat.add_comm]) (ho1'.cells (g := g1) rfl) (by omega) (by omega) (Nat.le_trans hB hb0.size)
  refine ⟨_, _, _, _, hr1, hr2, hb0, hb0.trans (hb2.mono hb0.size), ?_⟩
  unfold insR
  rw [hk]; exact ho2
/-- .. of a row that has nothing. -/
theorem ins_none {W : World} {B : Nat} (t : TypeId) (ht : Try.prog.underlying t = some (.slice 3)) (ty1 ty2 : TypeId) (hB : B ≤ W.heap.size) (x : Int) :
    ∃ v2 w2, (Builtin.append_ #[t, t] ty1 #[.slice (some ⟨W.heap.size, 0, none⟩) 1 1, .slice none 0 0]).run Try.prog (W.drew.alloc (.cells #[.int .i64 x] 3)) = .ok (.slice (some ⟨W.heap.size, 0, none⟩) 1 1) (W.drew.alloc (.cells #[.int .i64 x] 3)) ∧
      (Builtin.append_ #[t, t] ty2 #[.slice none 0 0, .slice (some ⟨W.heap.size, 0, none⟩) 1 1]).run Try.prog (W.drew.alloc (.cells #[.int .i64 x] 3)) = .ok v2 w2 ∧ Below W.heap.size W w2 ∧ OwnN B w2 v2 (insR x []) := by
  obtain ⟨i0, hi0, hz0, hz1, hz2⟩ := info_partsN infoI
  have hr1 := run_append_owned_none (P := Try.prog) (w := W.drew.alloc (.cells #[.int .i64 x] 3)) W.heap.size t ty1 3 i0 1 ht hi0 (.slice (some ⟨W.heap.size, 0, none⟩) 1 1) 1 [.int .i64 x] (one_own W W.heap.size (Nat.le_refl _) x)
  obtain ⟨v2, w2, hr2, ho2, hb2⟩ := run_join_nil (w := W.drew.alloc (.cells #[.int .i64 x] 3)) (B := B) t ty2 ht ⟨W.heap.size, 0, none⟩ 1 x ((Blk.new W.drew 3 #[.int .i64 x]).cell 0) (by simp; omega)
  exact ⟨v2, w2, hr1, hr2, ((Below.refl _ W).drew.alloc (Nat.le_refl _) _).trans (hb2.mono (by simp)), ho2⟩
theorem posR_succ (x : Int) (out : List Int) (k : Nat) : posR x out (k + 1) = if out.getD k 0 > x then posR x out k else k + 1 := rfl
theorem rising_snoc (l : List Int) (x : Int) : risingL (l ++ [x]) = insR x (risingL l) := by unfold risingL; rw [List.foldl_append]; rfl
set_option maxHeartbeats 16000000 in
theorem refrising_any (A : Option Addr) (l : List Int) (n0 cap0 : Nat) (hn : l.length = n0) (hl : n0 ≤ 900) (w : World) (hR : RowN w.heap.size w A l) :
    Calls Try.prog 41 #[.slice A n0 cap0] w fun e w' => ∃ v, e = .returned v ∧ OwnN w.heap.size w' v (risingL l) ∧ Below w.heap.size w w' := by
  have HR := Lib.hid hR; have HN := Lib.hid hn
  clear hR hn
  go_enter Try.func41, Try.ntmps41
  go_wp2_with fail
  go_loopw [3, 9] (fun rv iv wr => ∃ i : Nat, iv = .int .i64 i ∧ i ≤ n0 ∧ OwnN w.heap.size wr rv (risingL (l.take i)) ∧ (i = 0 → rv = .slice none 0 0) ∧ Below w.heap.size w wr) (fun _ iv _ => n0 - (intOf iv).toNat)
  case atStart => exact ⟨0, rfl, Nat.zero_le _, World.ownsRow_nil _ _ _ _, fun _ => rfl, Below.refl _ _⟩
  case round =>
    obtain ⟨i, rfl, hi, ho, hzi, hb⟩ := hrel
    have HO := Lib.hid ho; have HBW := Lib.hid hb
    clear ho hb
    obtain ⟨W, hW⟩ : ∃ x, x = wr := ⟨_, rfl⟩
    subst hW
    by_cases hlt : i < n0
    · obtain ⟨b, o, rfl, -, hc⟩ := (HR.out.below HBW.out) i (by rw [HN.out]; exact hlt)
      obtain ⟨x, hx⟩ : ∃ x, l[i]'(by rw [HN.out]; exact hlt) = x := ⟨_, rfl⟩
      rw [hx] at hc
      have HTK : Hid (risingL (l.take (i + 1)) = insR x (risingL (l.take i))) := by show _ = _; rw [List.take_succ_eq_append_getElem (by rw [HN.out]; exact hlt), hx, rising_snoc]
      have HLN : Hid ((risingL (l.take i)).length = i) := by show _ = _; rw [(rising_perm _).length_eq, List.length_take, HN.out]; omega
      clear hx
      have i0 : (0 : Int) ≤ (i : Int) := by omega
      have i1 : (i : Int) < (n0 : Int) := by omega
      generalize risingL (l.take i) = out at *
      by_cases hz : i = 0
      · obtain rfl : out = [] := List.eq_nil_of_length_eq_zero (HLN.out.trans hz)
        obtain rfl : u3 = .slice none 0 0 := hzi hz
        clear hzi hz
        go_wp2_with fail
        go_loopw [6] (fun kv wr => kv = .int .i64 0 ∧ W = wr) (fun _ _ => 0)
        case atStart => exact ⟨rfl, rfl⟩
        case round =>
          obtain ⟨rfl, rfl⟩ := hrel
          clear hc
          go_upto_region 8 with fail
          obtain ⟨v2, w2, hr1, hr2, hb2, ho2⟩ := ins_none (W := W) (B := w.heap.size) 23 Try.underlying23 23 23 HBW.out.size x
          have HR1 := Lib.hid hr1; have HR2 := Lib.hid hr2; have HBW2 := Lib.hid hb2; have HO2 := Lib.hid ho2
          clear hr1 hr2 hb2 ho2
          have HS := Lib.hid (Below.refl W.heap.size W).drew
          refine wp_region_held_drew (S := fun X => Below W.heap.size W X) (by kernel_rfl) HS.out (fun _ => ?_)
          show wpAnyH _ _ _ _ _ _ _ _ _
          refine wpAnyH_take (i := 0) (v := ?_) rfl (by kernel_rfl) (by kernel_rfl) (by kernel_rfl) (fun _ _ _ h => h) (Or.inl ⟨by rfl, fun W hW => by go_simp <;> with_reducible rfl⟩) HS.out ?_
          go_simp
          refine wpAnyH_take (i := 1) (v := ?_) rfl (by kernel_rfl) (by kernel_rfl) (by kernel_rfl) (fun _ _ _ h => h) (Or.inl ⟨by rfl, fun W hW => by go_simp <;> with_reducible rfl⟩) HS.out ?_
          go_simp
          refine wpAnyH_take (i := 2) (v := ?_) rfl (by kernel_rfl) (by kernel_rfl) (by kernel_rfl) (fun _ _ _ h => h) (Or.inl ⟨by rfl, fun W hW => by go_simp <;> with_reducible rfl⟩) HS.out ?_
          go_simp
          refine wpAnyH_take (i := 3) (v := ?_) rfl (by kernel_rfl) (by kernel_rfl) (by kernel_rfl) (fun _ _ _ h => h) (Or.inl ⟨by rfl, fun W hW => by go_simp <;> with_reducible rfl⟩) HS.out ?_
          go_simp
          refine wpAnyH_take (i := 4) (v := ?_) rfl (by kernel_rfl) (by kernel_rfl) (by kernel_rfl) (fun _ _ _ h => h) (Or.inl ⟨by rfl, fun W hW => by go_simp <;> with_reducible rfl⟩) HS.out ?_
          go_simp
          refine wpAnyH_take (i := 6) (v := ?_) rfl (by kernel_rfl) (by kernel_rfl) (by kernel_rfl) (fun _ _ _ h => h) (Or.inl ⟨by rfl, fun W hW => by go_simp <;> with_reducible rfl⟩) HS.out ?_
          go_simp
          refine wpAnyH_take (i := 7) (v := ?_) rfl (by kernel_rfl) (by kernel_rfl) (by kernel_rfl) (fun _ _ _ h => h) (Or.inl ⟨by rfl, fun W hW => by go_simp <;> with_reducible rfl⟩) HS.out ?_
          go_simp
          refine wpAnyH_take (i := 8) (v := ?_) rfl (by kernel_rfl) (by kernel_rfl) (by kernel_rfl) (fun _ _ _ h => h) (Or.inl ⟨by rfl, fun W hW => by go_simp <;> with_reducible rfl⟩) HS.out ?_
          go_simp
          refine wpAnyH_ready (rs := [5]) (by kernel_rfl) (by simp) (AllReadyH.cons rfl (fun K hK => ?_) AllReadyH.nil)
          go_simp
          have HS5 : Hid (Below W.heap.size W (W.drew.alloc (.cells #[.int .i64 x] 3))) := (Below.refl _ _).drew.alloc (Nat.le_refl _) _
          have HX5 : Hid (Blk (W.drew.alloc (.cells #[.int .i64 x] 3)) W.heap.size 3 #[.int .i64 x]) := Blk.new W.drew _ _
          clear HS
          have HS := HS5
          refine hK.out _ _ HS.out (fun _ => ?_)
          clear hK K
          refine wpAnyH_ready (rs := [9]) (by kernel_rfl) (by simp) (AllReadyH.cons rfl (fun K hK => ?_) AllReadyH.nil)
          refine step_run_append rfl (.tmp 33) (.tmp 36) 23 rfl (.slice (some ⟨W.heap.size, 0, none⟩) 1 1) (.slice none 0 0) rfl rfl _ _ HR1.out ?_
          refine hK.out _ _ HS.out (fun _ => ?_)
          clear hK K
          refine wpAnyH_ready (rs := [10]) (by kernel_rfl) (by simp) (AllReadyH.cons rfl (fun K hK => ?_) AllReadyH.nil)
          refine step_run_append rfl (.tmp 31) (.tmp 37) 23 rfl (.slice none 0 0) (.slice (some ⟨W.heap.size, 0, none⟩) 1 1) rfl rfl _ _ HR2.out ?_
          have HS := HBW2
          refine hK.out _ _ HS.out (fun _ => ?_)
          clear hK K
          refine wpAnyH_take (i := 11) (v := ?_) rfl (by kernel_rfl) (by kernel_rfl) (by kernel_rfl) (fun _ _ _ h => h) (Or.inl ⟨by rfl, fun W hW => by go_simp <;> with_reducible rfl⟩) HS.out ?_
          go_simp
          refine wpAnyH_done (by kernel_rfl) ?_ _
          go_simp
          go_wp2_with fail
          go_roundw
          case rel => exact ⟨i + 1, by first | rfl | go_num, by omega, by rw [HTK.out]; exact HO2.out, fun h => absurd h (Nat.succ_ne_zero i), HBW.out.trans (HBW2.out.mono HBW.out.size)⟩
          case measure => simp [intOf]; omega
      · have hpos : 0 < i := Nat.pos_of_ne_zero hz
        rcases HO.out.2 with ⟨h, h0⟩ | ⟨g, cap, cur, rfl, hg, hh, hnc, hcm, hcs, ht0⟩
        · exact absurd (HLN.out.symm.trans h0) hz
        have HRO : Hid (∀ j (hj : j < out.length), W.cell? ⟨g, j, none⟩ = some (.int .i64 out[j])) := fun j hj => by
          have := rowN_cells hh (by rw [Nat.mul_one] at ht0; exact ht0) 0 j (.int .i64 out[j]) (by rw [List.drop_zero, List.getElem?_map, List.getElem?_eq_getElem hj]; rfl)
          rwa [Addr.add_mid, Nat.zero_add] at this
        have hic : i ≤ cap := by rw [← HLN.out]; exact hnc
        clear hg hh hnc hcm hcs ht0 hzi
        have HOv : Hid (OwnN w.heap.size W (.slice (some ⟨g, 0, none⟩) i cap) out) := by
          have := HO.out
          rw [show Value.slice (some ⟨g, 0, none⟩) out.length cap = Value.slice (some ⟨g, 0, none⟩) i cap by rw [HLN.out]] at this
          exact this
        rw [HLN.out]
        clear HO hz
        go_wp2_with fail
        clear hc
        go_loopw [6] (fun kv wr => ∃ k : Nat, kv = .int .i64 k ∧ k ≤ i ∧ posR x out k = posR x out i ∧ W = wr) (fun kv _ => (intOf kv).toNat)
        case atStart => exact ⟨i, rfl, Nat.le_refl _, rfl, rfl⟩
        case round =>
          obtain ⟨k, rfl, hk, hpk, rfl⟩ := hrel
          have HPK := Lib.hid hpk
          clear hpk
          by_cases hgo : ∃ k', k = k' + 1 ∧ out.getD k' 0 > x
          · obtain ⟨k', rfl, hgt⟩ := hgo
            have hk2 : k' < out.length := by rw [HLN.out]; omega
            have hc := HRO.out k' hk2
            have hg2 : out.getD k' 0 = out[k'] := getD_lt hk2
            have HPR : Hid (posR x out (k' + 1) = posR x out k') := by show _ = _; rw [posR_succ, if_pos hgt]
            rw [hg2] at hgt
            generalize out[k'] = y at *
            have k0 : (0 : Int) < ((k' + 1 : Nat) : Int) := by omega
            have k1 : wrap64 (((k' + 1 : Nat) : Int) - 1) = (k' : Int) := by unfold wrap64; omega
            have k2 : (0 : Int) ≤ (k' : Int) := by omega
            have k3 : (k' : Int) < (i : Int) := by omega
            clear hg2
            go_wp2_with fail
            go_roundw
            case rel => exact ⟨k', by first | rfl | go_num, by omega, by rw [← HPK.out, HPR.out], trivial⟩
            case measure => simp [intOf]
          · have HPE : Hid (posR x out out.length = k) := by
              show _ = _
              rw [HLN.out, ← HPK.out]
              match k, hgo with
              | 0, _ => rfl
              | k' + 1, h => rw [posR_succ, if_neg (fun h2 => h ⟨k', rfl, h2⟩)]
            have p0 : (0 : Int) ≤ (k : Int) := by omega
            have p1 : (k : Int) ≤ (i : Int) := by omega
            have p2 : (i : Int) ≤ (cap : Int) := by omega
            have p3 : (k : Int) ≤ (cap : Int) := by omega
            have HEX : Hid ((k = 0) ∨ ∃ k', k = k' + 1 ∧ ∃ y, out[k']? = some y ∧ ¬ x < y) := by
              match k, hgo with
              | 0, _ => exact .inl rfl
              | k' + 1, h =>
                have hk2 : k' < out.length := by rw [HLN.out]; omega
                exact .inr ⟨k', rfl, out[k'], List.getElem?_eq_getElem hk2, fun h2 => h ⟨k', rfl, by rw [getD_lt hk2]; exact h2⟩⟩
            obtain ⟨v1, w1, v2, w2, hr1, hr2, hb1, hb2, ho2⟩ := ins_some (B := w.heap.size) 23 Try.underlying23 23 23 HOv.out HLN.out hpos (by omega) HBW.out.size x k HPE.out
            have HR1 := Lib.hid hr1; have HR2 := Lib.hid hr2; have HBW1 := Lib.hid hb1; have HBW2 := Lib.hid hb2; have HO2 := Lib.hid ho2
            clear hr1 hr2 hb1 hb2 ho2
            rcases HEX.out with h0 | ⟨k', hkk, y, hy, hxy⟩
            · have f0 : ¬ (0 : Int) < (k : Int) := by omega
              clear h0
              go_upto_region 8 with fail
              have HS := Lib.hid (Below.refl W.heap.size W).drew
              refine wp_region_held_drew (S := fun X => Below W.heap.size W X) (by kernel_rfl) HS.out (fun _ => ?_)
              show wpAnyH _ _ _ _ _ _ _ _ _
              refine wpAnyH_take (i := 0) (v := ?_) rfl (by kernel_rfl) (by kernel_rfl) (by kernel_rfl) (fun _ _ _ h => h) (Or.inl ⟨by rfl, fun W hW => by go_simp <;> with_reducible rfl⟩) HS.out ?_
              go_simp
              refine wpAnyH_take (i := 1) (v := ?_) rfl (by kernel_rfl) (by kernel_rfl) (by kernel_rfl) (fun _ _ _ h => h) (Or.inl ⟨by rfl, fun W hW => by go_simp <;> with_reducible rfl⟩) HS.out ?_
              go_simp
              refine wpAnyH_take (i := 2) (v := ?_) rfl (by kernel_rfl) (by kernel_rfl) (by kernel_rfl) (fun _ _ _ h => h) (Or.inl ⟨by rfl, fun W hW => by go_simp <;> with_reducible rfl⟩) HS.out ?_
              go_simp
              refine wpAnyH_take (i := 3) (v := ?_) rfl (by kernel_rfl) (by kernel_rfl) (by kernel_rfl) (fun _ _ _ h => h) (Or.inl ⟨by rfl, fun W hW => by go_simp <;> with_reducible rfl⟩) HS.out ?_
              go_simp
              refine wpAnyH_take (i := 4) (v := ?_) rfl (by kernel_rfl) (by kernel_rfl) (by kernel_rfl) (fun _ _ _ h => h) (Or.inl ⟨by rfl, fun W hW => by go_simp <;> with_reducible rfl⟩) HS.out ?_
              go_simp
              refine wpAnyH_take (i := 6) (v := ?_) rfl (by kernel_rfl) (by kernel_rfl) (by kernel_rfl) (fun _ _ _ h => h) (Or.inl ⟨by rfl, fun W hW => by go_simp <;> with_reducible rfl⟩) HS.out ?_
              go_simp
              refine wpAnyH_take (i := 7) (v := ?_) rfl (by kernel_rfl) (by kernel_rfl) (by kernel_rfl) (fun _ _ _ h => h) (Or.inl ⟨by rfl, fun W hW => by go_simp <;> with_reducible rfl⟩) HS.out ?_
              go_simp
              refine wpAnyH_take (i := 8) (v := ?_) rfl (by kernel_rfl) (by kernel_rfl) (by kernel_rfl) (fun _ _ _ h => h) (Or.inl ⟨by rfl, fun W hW => by go_simp <;> with_reducible rfl⟩) HS.out ?_
              go_simp
              refine wpAnyH_ready (rs := [5]) (by kernel_rfl) (by simp) (AllReadyH.cons rfl (fun K hK => ?_) AllReadyH.nil)
              go_simp
              have HS5 : Hid (Below W.heap.size W (W.drew.alloc (.cells #[.int .i64 x] 3))) := (Below.refl _ _).drew.alloc (Nat.le_refl _) _
              have HX5 : Hid (Blk (W.drew.alloc (.cells #[.int .i64 x] 3)) W.heap.size 3 #[.int .i64 x]) := Blk.new W.drew _ _
              clear HS
              have HS := HS5
              refine hK.out _ _ HS.out (fun _ => ?_)
              clear hK K
              refine wpAnyH_ready (rs := [9]) (by kernel_rfl) (by simp) (AllReadyH.cons rfl (fun K hK => ?_) AllReadyH.nil)
              refine step_run_append rfl (.tmp 33) (.tmp 36) 23 rfl (.slice (some ⟨W.heap.size, 0, none⟩) 1 1) (.slice (if cap = k then some ⟨g, 0, none⟩ else some ⟨g, k, none⟩) (i - k) (cap - k)) rfl rfl _ _ HR1.out ?_
              have HS := HBW1
              refine hK.out _ _ HS.out (fun _ => ?_)
              clear hK K
              refine wpAnyH_ready (rs := [10]) (by kernel_rfl) (by simp) (AllReadyH.cons rfl (fun K hK => ?_) AllReadyH.nil)
              refine step_run_append rfl (.tmp 31) (.tmp 37) 23 rfl (.slice (some ⟨g, 0, none⟩) k k) v1 rfl rfl _ _ HR2.out ?_
              have HS := HBW2
              refine hK.out _ _ HS.out (fun _ => ?_)
              clear hK K
              refine wpAnyH_take (i := 11) (v := ?_) rfl (by kernel_rfl) (by kernel_rfl) (by kernel_rfl) (fun _ _ _ h => h) (Or.inl ⟨by rfl, fun W hW => by go_simp <;> with_reducible rfl⟩) HS.out ?_
              go_simp
              refine wpAnyH_done (by kernel_rfl) ?_ _
              go_simp
              go_wp2_with fail
              go_roundw
              case rel => exact ⟨i + 1, by first | rfl | go_num, by omega, by rw [HTK.out]; exact HO2.out, fun h => absurd h (Nat.succ_ne_zero i), HBW.out.trans (HBW2.out.mono HBW.out.size)⟩
              case measure => simp [intOf]; omega
            · have f0 : (0 : Int) < (k : Int) := by omega
              have f1 : wrap64 ((k : Int) - 1) = (k' : Int) := by unfold wrap64; omega
              have f2 : (0 : Int) ≤ (k' : Int) := by omega
              have f3 : (k' : Int) < (i : Int) := by omega
              obtain ⟨hkl, hyy⟩ := List.getElem?_eq_some_iff.1 hy
              have hc := HRO.out k' hkl
              rw [hyy, show k' = k - 1 by omega] at hc
              clear hy hyy hkl hkk
              go_upto_region 8 with fail
              clear f1 f2 f3 hc hxy
              have HS := Lib.hid (Below.refl W.heap.size W).drew
              refine wp_region_held_drew (S := fun X => Below W.heap.size W X) (by kernel_rfl) HS.out (fun _ => ?_)
              show wpAnyH _ _ _ _ _ _ _ _ _
              refine wpAnyH_take (i := 0) (v := ?_) rfl (by kernel_rfl) (by kernel_rfl) (by kernel_rfl) (fun _ _ _ h => h) (Or.inl ⟨by rfl, fun W hW => by go_simp <;> with_reducible rfl⟩) HS.out ?_
              go_simp
              refine wpAnyH_take (i := 1) (v := ?_) rfl (by kernel_rfl) (by kernel_rfl) (by kernel_rfl) (fun _ _ _ h => h) (Or.inl ⟨by rfl, fun W hW => by go_simp <;> with_reducible rfl⟩) HS.out ?_
              go_simp
              refine wpAnyH_take (i := 2) (v := ?_) rfl (by kernel_rfl) (by kernel_rfl) (by kernel_rfl) (fun _ _ _ h => h) (Or.inl ⟨by rfl, fun W hW => by go_simp <;> with_reducible rfl⟩) HS.out ?_
              go_simp
              refine wpAnyH_take (i := 3) (v := ?_) rfl (by kernel_rfl) (by kernel_rfl) (by kernel_rfl) (fun _ _ _ h => h) (Or.inl ⟨by rfl, fun W hW => by go_simp <;> with_reducible rfl⟩) HS.out ?_
              go_simp
              refine wpAnyH_take (i := 4) (v := ?_) rfl (by kernel_rfl) (by kernel_rfl) (by kernel_rfl) (fun _ _ _ h => h) (Or.inl ⟨by rfl, fun W hW => by go_simp <;> with_reducible rfl⟩) HS.out ?_
              go_simp
              refine wpAnyH_take (i := 6) (v := ?_) rfl (by kernel_rfl) (by kernel_rfl) (by kernel_rfl) (fun _ _ _ h => h) (Or.inl ⟨by rfl, fun W hW => by go_simp <;> with_reducible rfl⟩) HS.out ?_
              go_simp
              refine wpAnyH_take (i := 7) (v := ?_) rfl (by kernel_rfl) (by kernel_rfl) (by kernel_rfl) (fun _ _ _ h => h) (Or.inl ⟨by rfl, fun W hW => by go_simp <;> with_reducible rfl⟩) HS.out ?_
              go_simp
              refine wpAnyH_take (i := 8) (v := ?_) rfl (by kernel_rfl) (by kernel_rfl) (by kernel_rfl) (fun _ _ _ h => h) (Or.inl ⟨by rfl, fun W hW => by go_simp <;> with_reducible rfl⟩) HS.out ?_
              go_simp
              refine wpAnyH_ready (rs := [5]) (by kernel_rfl) (by simp) (AllReadyH.cons rfl (fun K hK => ?_) AllReadyH.nil)
              go_simp
              have HS5 : Hid (Below W.heap.size W (W.drew.alloc (.cells #[.int .i64 x] 3))) := (Below.refl _ _).drew.alloc (Nat.le_refl _) _
              have HX5 : Hid (Blk (W.drew.alloc (.cells #[.int .i64 x] 3)) W.heap.size 3 #[.int .i64 x]) := Blk.new W.drew _ _
              clear HS
              have HS := HS5
              refine hK.out _ _ HS.out (fun _ => ?_)
              clear hK K
              refine wpAnyH_ready (rs := [9]) (by kernel_rfl) (by simp) (AllReadyH.cons rfl (fun K hK => ?_) AllReadyH.nil)
              refine step_run_append rfl (.tmp 33) (.tmp 36) 23 rfl (.slice (some ⟨W.heap.size, 0, none⟩) 1 1) (.slice (if cap = k then some ⟨g, 0, none⟩ else some ⟨g, k, none⟩) (i - k) (cap - k)) rfl rfl _ _ HR1.out ?_
              have HS := HBW1
              refine hK.out _ _ HS.out (fun _ => ?_)
              clear hK K
              refine wpAnyH_ready (rs := [10]) (by kernel_rfl) (by simp) (AllReadyH.cons rfl (fun K hK => ?_) AllReadyH.nil)
              refine step_run_append rfl (.tmp 31) (.tmp 37) 23 rfl (.slice (some ⟨g, 0, none⟩) k k) v1 rfl rfl _ _ HR2.out ?_
              have HS := HBW2
              refine hK.out _ _ HS.out (fun _ => ?_)
              clear hK K
              refine wpAnyH_take (i := 11) (v := ?_) rfl (by kernel_rfl) (by kernel_rfl) (by kernel_rfl) (fun _ _ _ h => h) (Or.inl ⟨by rfl, fun W hW => by go_simp <;> with_reducible rfl⟩) HS.out ?_
              go_simp
              refine wpAnyH_done (by kernel_rfl) ?_ _
              go_simp
              go_wp2_with fail
              go_roundw
              case rel => exact ⟨i + 1, by first | rfl | go_num, by omega, by rw [HTK.out]; exact HO2.out, fun h => absurd h (Nat.succ_ne_zero i), HBW.out.trans (HBW2.out.mono HBW.out.size)⟩
              case measure => simp [intOf]; omega
    · obtain rfl : i = n0 := by omega
      have HT : Hid (l.take i = l) := by show _ = _; rw [← HN.out, List.take_length]
      rw [HT.out] at HO
      go_wp2_with fail
      go_ret
      exact ⟨_, rfl, HO.out, HBW.out⟩
end Go.Proofs.Ytogplndhciaoeaa
