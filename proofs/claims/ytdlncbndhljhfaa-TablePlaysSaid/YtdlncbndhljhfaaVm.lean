/- One thing done to both tables: Set (layer 12). -/
import Derived.Test.YtdlncbndhljhfaaVl
import Derived.Deep.RegionHeld3
namespace Go.Proofs.Ytdlncbndhljhfaa
open Go.RowKit

theorem setT_len (ts : List (List Value)) (i : Int) (cs : List Value) : ts.length ≤ (setT ts i cs).length := by
  unfold setT; split <;> simp
section
variable {w W W' : World} {E : Nat → Prop} {b c gl gn r tb : Nat} {v vL vW : Value} {ts us : List (List Value)} {ls : Nat → List Nat} {ws : List (Nat × Nat)}
set_option maxRecDepth 100000 in
set_option maxHeartbeats 8000000 in
theorem do_set (o : OpR) (hok : OkT o.x) (h : Two w E b c gl gn v tb vL vW r ts ls ts ws W) (hr : RelW r ts.length ls ws) (hk : o.kind % 7 = 2 ∨ o.kind % 7 = 3) :
    Calls Try.prog 15 #[.pointer (some ⟨b, 0, none⟩), .pointer (some ⟨tb, 0, none⟩), .agg (opL o).toArray] W (DoT w E b c gl gn tb r W) := by
  have hT1 := h.boxed (.cells (opL o).toArray 40)
  have hB1 : But (Oth w E) W (W.alloc (.cells (opL o).toArray 40)).drew := ((But.refl _ _).alloc _).drew
  have HB1 := Lib.hid hB1
  have hbx := Blk.new W 40 (opL o).toArray
  have HBX := Lib.hid hbx
  obtain ⟨y0, yr, y30, y31⟩ := op_box hok hbx
  have HR := Lib.hid hr
  have HC := Lib.hid (two_set o.id o.x hok (hT1.on ((Below.refl _ _).drew)))
  have HYR := Lib.hid yr
  have HIXX := Lib.hid (infoT.trans (congrArg some hok.len.symm))
  have HOK := Lib.hid hok
  obtain ⟨kd, xx, id, on⟩ := o
  dsimp only at hk y0 y30 y31 HYR HIXX HOK HC
  have hm : (kd : Int).tmod 7 = 2 ∨ (kd : Int).tmod 7 = 3 := by
    rw [Int.tmod_eq_emod_of_nonneg (by omega)]; omega
  obtain ⟨O, hO⟩ : ∃ O, opL ⟨kd, xx, id, on⟩ = O := ⟨_, rfl⟩
  have HO := Lib.hid hO
  rw [hO] at HB1 HBX ⊢
  simp only [hO] at HC y0 y30 y31 HYR
  clear h hr hbx yr hk hok hB1 hT1 hO
  obtain ⟨er, her⟩ : ∃ x, setE ts id xx = x := ⟨_, rfl⟩
  obtain ⟨xs, hxs⟩ : ∃ x, setT ts id xx = x := ⟨_, rfl⟩
  rw [her, hxs] at HC
  have HER := Lib.hid her; have HXS := Lib.hid hxs
  clear her hxs
  have tq : (er == er) = true := by simp
  rcases hm with hm | hm
  all_goals
    go_enter Try.func15, Try.ntmps15
    go_upto_region 4 with fail
    generalize W.alloc (.cells O.toArray 40) = W1 at *
    have n0 := World.new_ne W1 _ y30
    refine wp_region_held_drew (S := fun X => X.cell? ⟨W.heap.size, 30, none⟩ = some (.int .i64 id) ∧ X.rangeAt W.heap.size 1 xx) (by kernel_rfl) ⟨y30, HYR.out⟩ (fun hHeld => ?_)
    show wpAnyH _ _ _ _ _ _ _ _ _
    try dsimp only at hHeld
    refine wpAnyH_take (i := 0) (v := ?_) rfl (by kernel_rfl) (by kernel_rfl) (by kernel_rfl) (fun _ _ _ h => h) (Or.inl ⟨by rfl, fun X hX => by (obtain ⟨z0, z1⟩ := hX; go_simp <;> with_reducible rfl)⟩) hHeld ?_
    go_simp
    refine wpAnyH_take (i := 1) (v := ?_) rfl (by kernel_rfl) (by kernel_rfl) (by kernel_rfl) (fun _ _ _ h => h) (Or.inl ⟨by rfl, fun X hX => by (obtain ⟨z0, z1⟩ := hX; go_simp <;> with_reducible rfl)⟩) hHeld ?_
    go_simp
    refine wpAnyH_take (i := 2) (v := ?_) rfl (by kernel_rfl) (by kernel_rfl) (by kernel_rfl) (fun _ _ _ h => h) (Or.inl ⟨by rfl, fun X hX => by (obtain ⟨z0, z1⟩ := hX; go_simp <;> with_reducible rfl)⟩) hHeld ?_
    go_simp
    refine wpAnyH_take (i := 3) (v := ?_) rfl (by kernel_rfl) (by kernel_rfl) (by kernel_rfl) (fun _ _ _ h => h) (Or.inl ⟨by rfl, fun X hX => by (obtain ⟨z0, z1⟩ := hX; go_simp <;> with_reducible rfl)⟩) hHeld ?_
    go_simp
    refine wpAnyH_take (i := 4) (v := .agg xx.toArray) rfl (by kernel_rfl) (by kernel_rfl) (by kernel_rfl) (fun _ _ _ h => h) (yieldsIf_load_mid (by rfl) 38 (.tmp 20) rfl W.heap.size 1 rfl xx _ (fun X h => h.2) Try.underlying38 rfl HIXX.out) hHeld ?_
    go_simp
    refine wpAnyH_take (i := 6) (v := ?_) rfl (by kernel_rfl) (by kernel_rfl) (by kernel_rfl) (fun _ _ _ h => h) (Or.inl ⟨by rfl, fun X hX => by (obtain ⟨z0, z1⟩ := hX; go_simp <;> with_reducible rfl)⟩) hHeld ?_
    go_simp
    refine wpAnyH_take (i := 7) (v := ?_) rfl (by kernel_rfl) (by kernel_rfl) (by kernel_rfl) (fun _ _ _ h => h) (Or.inl ⟨by rfl, fun X hX => by (obtain ⟨z0, z1⟩ := hX; go_simp <;> with_reducible rfl)⟩) hHeld ?_
    go_simp
    refine wpAnyH_take (i := 8) (v := ?_) rfl (by kernel_rfl) (by kernel_rfl) (by kernel_rfl) (fun _ _ _ h => h) (Or.inl ⟨by rfl, fun X hX => by (obtain ⟨z0, z1⟩ := hX; go_simp <;> with_reducible rfl)⟩) hHeld ?_
    go_simp
    refine wpAnyH_take (i := 9) (v := ?_) rfl (by kernel_rfl) (by kernel_rfl) (by kernel_rfl) (fun _ _ _ h => h) (Or.inl ⟨by rfl, fun X hX => by (obtain ⟨z0, z1⟩ := hX; go_simp <;> with_reducible rfl)⟩) hHeld ?_
    go_simp
    refine wpAnyH_take (i := 10) (v := .agg xx.toArray) rfl (by kernel_rfl) (by kernel_rfl) (by kernel_rfl) (fun _ _ _ h => h) (yieldsIf_load_mid (by rfl) 38 (.tmp 26) rfl W.heap.size 1 rfl xx _ (fun X h => h.2) Try.underlying38 rfl HIXX.out) hHeld ?_
    go_simp
    refine wpAnyH_ready (rs := [5]) (by kernel_rfl) (by simp) (AllReadyH.cons rfl (fun K hK => ?_) AllReadyH.nil)
    go_simp
    go_at_call 20
    refine HC.out.mono ?_
    rintro e w5 ⟨rfl, h5, b5⟩
    have hb5 := Blk.but (show Blk W1.drew W.heap.size 40 _ from HBX.out) b5 (fun q => q.2 (.inr rfl))
    have hb5' := hb5
    rw [← HO.out] at hb5
    obtain ⟨-, z1, z30, -⟩ := op_box HOK.out hb5
    dsimp only at z1 z30
    have HBX5 := Lib.hid hb5'
    have HB5 := Lib.hid b5
    have HC5 := Lib.hid (two_dset id xx HOK.out h5)
    rw [HER.out, HXS.out] at HC5
    clear hb5 hb5' h5 b5 HC
    dsimp only
    (try (go_wp2_with fail))
    refine hK.out _ _ ⟨z30, z1⟩ (fun hHeld => ?_)
    clear hK K z1 z30
    refine wpAnyH_ready (rs := [11]) (by kernel_rfl) (by simp) (AllReadyH.cons rfl (fun K hK => ?_) AllReadyH.nil)
    go_simp
    go_at_call 44
    refine HC5.out.mono ?_
    rintro e w6 ⟨rfl, h6, b6⟩
    have hb6 : Blk w6 W.heap.size 40 _ := Blk.but HBX5.out b6 (fun q => q.2 (.inr rfl))
    rw [← HO.out] at hb6
    obtain ⟨-, z1, z30, -⟩ := op_box HOK.out hb6
    dsimp only at z1 z30
    have HT6 := Lib.hid h6; have HB6 := Lib.hid b6
    clear hb6 h6 b6 HC5
    dsimp only
    (try (go_wp2_with fail))
    refine hK.out _ _ ⟨z30, z1⟩ (fun hHeld => ?_)
    clear hK K z1 z30
    go_simp
    refine wpAnyH_take (i := 12) (v := ?_) rfl (by kernel_rfl) (by kernel_rfl) (by kernel_rfl) (fun _ _ _ h => h) (Or.inl ⟨by rfl, fun X hX => by (obtain ⟨z0, z1⟩ := hX; go_simp <;> with_reducible rfl)⟩) hHeld ?_
    go_simp
    refine wpAnyH_ready (rs := [13]) (by kernel_rfl) (by simp) (AllReadyH.cons rfl (fun K hK => ?_) AllReadyH.nil)
    go_simp
    refine hK.out _ _ hHeld (fun hHeld => ?_)
    clear hK K
    refine wpAnyH_done (by kernel_rfl) ?_ _
    go_wp2_with fail
    go_ret
    exact ⟨rfl, _, _, _, xs, ls, ws, HT6.out.unbox, (HXS.out ▸ HR.out.grow (setT_len ts id xx)), HB1.out.trans ((but_unbox HB5.out).trans (but_unbox HB6.out))⟩
end
end Go.Proofs.Ytdlncbndhljhfaa
