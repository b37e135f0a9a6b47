/- One thing done to both tables: Join (layer 12). -/
import Derived.Test.YtdlncbndhljhfaaVk
import Derived.Deep.RegionHeld3
namespace Go.Proofs.Ytdlncbndhljhfaa
open Go.RowKit

section
variable {w W W' : World} {E : Nat → Prop} {b c gl gn r tb : Nat} {v vL vW : Value} {ts us : List (List Value)} {ls : Nat → List Nat} {ws : List (Nat × Nat)}
set_option maxRecDepth 100000 in
set_option maxHeartbeats 8000000 in
theorem do_join (o : OpR) (hok : OkT o.x) (h : Two w E b c gl gn v tb vL vW r ts ls ts ws W) (hr : RelW r ts.length ls ws) (hk : o.kind % 7 = 4 ∨ o.kind % 7 = 5) :
    Calls Try.prog 15 #[.pointer (some ⟨b, 0, none⟩), .pointer (some ⟨tb, 0, none⟩), .agg (opL o).toArray] W (DoT w E b c gl gn tb r W) := by
  have hT1 := h.boxed (.cells (opL o).toArray 40)
  have hB1 : But (Oth w E) W (W.alloc (.cells (opL o).toArray 40)).drew := ((But.refl _ _).alloc _).drew
  have HB1 := Lib.hid hB1
  have hbx := Blk.new W 40 (opL o).toArray
  have HBX := Lib.hid hbx
  obtain ⟨y0, yr, y30, y31⟩ := op_box hok hbx
  have HR := Lib.hid hr
  have HC := Lib.hid (two_join o.id o.on ws (hT1.on ((Below.refl _ _).drew)) hr)
  have HOK := Lib.hid hok
  obtain ⟨kd, xx, id, on⟩ := o
  dsimp only at hk y0 y30 y31 HOK HC
  have hm : (kd : Int).tmod 7 = 4 ∨ (kd : Int).tmod 7 = 5 := by
    rw [Int.tmod_eq_emod_of_nonneg (by omega)]; omega
  obtain ⟨O, hO⟩ : ∃ O, opL ⟨kd, xx, id, on⟩ = O := ⟨_, rfl⟩
  have HO := Lib.hid hO
  rw [hO] at HB1 HBX ⊢
  simp only [hO] at HC y0 y30 y31
  clear h hr hbx yr hk hok hB1 hT1 hO
  obtain ⟨er, her⟩ : ∃ x, joinE ts ws id on = x := ⟨_, rfl⟩
  obtain ⟨xs, hxs⟩ : ∃ x, joinW ts ws id on = x := ⟨_, rfl⟩
  rw [her, hxs] at HC
  have HER := Lib.hid her; have HXS := Lib.hid hxs
  clear her hxs
  have tq : (er == er) = true := by simp
  rcases hm with hm | hm
  all_goals
    go_enter Try.func15, Try.ntmps15
    go_upto_region 7 with fail
    generalize W.alloc (.cells O.toArray 40) = W1 at *
    have n0 := World.new_ne W1 _ y30
    go_region_held3 (fun X => X.cell? ⟨W.heap.size, 30, none⟩ = some (.int .i64 id) ∧ X.cell? ⟨W.heap.size, 31, none⟩ = some (.int .i64 on)) (first | go_keep | exact ⟨y30, y31⟩)
      (first
        | (go_at_call 21; refine HC.out.mono ?_; rintro e w5 ⟨rfl, ls5, h5, r5, b5⟩; have hb5 := Blk.but (show Blk W1.drew W.heap.size 40 _ from HBX.out) b5 (fun q => q.2 (.inr rfl)); rw [← HO.out] at hb5; obtain ⟨-, -, y30, y31⟩ := op_box HOK.out hb5; dsimp only at y30 y31; have HR5 := Lib.hid r5; have HB5 := Lib.hid b5; have HC5 := Lib.hid (two_djoin id on ls h5 HR.out); rw [HER.out, HXS.out] at HC5; clear hb5 h5 r5 b5)
        | (go_at_call 45; refine HC5.out.mono ?_; rintro e w6 ⟨rfl, vW6, h6, b6⟩; have hb6 : Blk w6 W.heap.size 40 _ := Blk.but (Blk.but (show Blk W1.drew W.heap.size 40 _ from HBX.out) HB5.out (fun q => q.2 (.inr rfl))) b6 (fun q => q.2 (.inr rfl)); rw [← HO.out] at hb6; obtain ⟨-, -, y30, y31⟩ := op_box HOK.out hb6; dsimp only at y30 y31; have HT6 := Lib.hid h6; have HB6 := Lib.hid b6; clear hb6 h6 b6))
    all_goals
      go_wp2_with fail
      go_ret
      exact ⟨rfl, _, _, _, ts, _, xs, HT6.out.unbox, HR5.out, HB1.out.trans ((but_unbox HB5.out).trans (but_unbox HB6.out))⟩
end
end Go.Proofs.Ytdlncbndhljhfaa
