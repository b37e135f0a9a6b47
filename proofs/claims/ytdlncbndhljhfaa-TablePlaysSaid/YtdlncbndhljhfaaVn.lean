/- One thing done to both tables: Joined (layer 12). -/
import Derived.Test.YtdlncbndhljhfaaVm
namespace Go.Proofs.Ytdlncbndhljhfaa
open Go.RowKit

section
variable {w W W' : World} {E : Nat → Prop} {b c gl gn r tb : Nat} {v vL vW : Value} {ts us : List (List Value)} {ls : Nat → List Nat} {ws : List (Nat × Nat)}
theorem two_djoined2 (k : Int) (h : Two w E b c gl gn v tb vL vW r ts ls us ws W) :
    Calls Try.prog 47 #[.pointer (some ⟨tb, 0, none⟩), .int .i64 k] W fun e W' => ∃ u vW', e = .returned u ∧ MineN W.heap.size u (asI (namedW ws k)) W' ∧ Two w E b c gl gn v tb vL vW' r ts ls us (leftW ws k) W' ∧ But (Oth w E) W W' ∧ But (fun k => k = tb) W W' :=
  (djoined_any k h.ref).mono fun _ _ ⟨u, vW', he, hm, ht, hb, hg⟩ => let q := h.doc ht (hb.mono fun _ _ z => .inl z) (fun _ hg => .inl hg) fun g hg' => .inr (hg g hg'); ⟨u, vW', he, hm, q.1, q.2, hb⟩
set_option maxRecDepth 100000 in
set_option maxHeartbeats 8000000 in
theorem do_joined (o : OpR) (hok : OkT o.x) (h : Two w E b c gl gn v tb vL vW r ts ls ts ws W) (hr : RelW r ts.length ls ws) (hk : o.kind % 7 = 6) :
    Calls Try.prog 15 #[.pointer (some ⟨b, 0, none⟩), .pointer (some ⟨tb, 0, none⟩), .agg (opL o).toArray] W (DoT w E b c gl gn tb r W) := by
  have hT1 := h.boxed (.cells (opL o).toArray 40)
  have hB1 : But (Oth w E) W (W.alloc (.cells (opL o).toArray 40)).drew := ((But.refl _ _).alloc _).drew
  have HB1 := Lib.hid hB1
  have hbx := Blk.new W 40 (opL o).toArray
  have HBX := Lib.hid hbx
  have HTB := Lib.hid hT1.ref.own.lt
  have hwl : (asI (namedW ws o.on)).length ≤ 100000 := by
    rw [asI_len]; have := namedW_len ws o.on; have := h.ref.lim.2; omega
  obtain ⟨y0, yr, y30, y31⟩ := op_box hok hbx
  have HR := Lib.hid hr
  have HC := Lib.hid (two_joined o.on ws (hT1.on ((Below.refl _ _).drew)) hr)
  have HOK := Lib.hid hok
  obtain ⟨kd, xx, id, on⟩ := o
  dsimp only at hk y0 y30 y31 HOK HC hwl
  have hm : (kd : Int).tmod 7 = 6 := by
    rw [Int.tmod_eq_emod_of_nonneg (by omega)]; omega
  obtain ⟨O, hO⟩ : ∃ O, opL ⟨kd, xx, id, on⟩ = O := ⟨_, rfl⟩
  have HO := Lib.hid hO
  rw [hO] at HB1 HBX ⊢
  simp only [hO] at HC y0 y30 y31 HTB
  have HWL := Lib.hid hwl
  clear h hr hbx yr hk hok hB1 hT1 hO hwl
  obtain ⟨L, hL⟩ : ∃ x, asI (namedW ws on) = x := ⟨_, rfl⟩
  rw [hL] at HC HWL
  have HLL := Lib.hid hL
  clear hL
  go_enter Try.func15, Try.ntmps15
  go_upto_region 9 with fail
  generalize W.alloc (.cells O.toArray 40) = W1 at *
  have n0 := World.new_ne W1 _ y31
  go_region_held3 (fun X => X.cell? ⟨W.heap.size, 31, none⟩ = some (.int .i64 on)) (first | go_keep | exact y31)
    (first
      | (go_at_call 24; refine HC.out.mono ?_; rintro e w5 ⟨u5, ls5, rfl, m5, h5, r5, b5⟩; have hb5 := Blk.but (show Blk W1.drew W.heap.size 40 _ from HBX.out) b5 (fun q => q.2 (.inr rfl)); rw [← HO.out] at hb5; obtain ⟨-, -, -, y31⟩ := op_box HOK.out hb5; dsimp only at y31; have HM5 := Lib.hid m5; have HR5 := Lib.hid r5; have HB5 := Lib.hid b5; have HC5 := Lib.hid (two_djoined2 on h5); rw [HLL.out] at HC5; clear hb5 h5 r5 b5 m5)
      | (go_at_call 47; refine HC5.out.mono ?_; rintro e w6 ⟨u6, vW6, rfl, m6, h6, b6, c6⟩; have hb6 : Blk w6 W.heap.size 40 _ := Blk.but (Blk.but (show Blk W1.drew W.heap.size 40 _ from HBX.out) HB5.out (fun q => q.2 (.inr rfl))) b6 (fun q => q.2 (.inr rfl)); rw [← HO.out] at hb6; obtain ⟨-, -, -, y31⟩ := op_box HOK.out hb6; dsimp only at y31; have hm5 : MineN W1.drew.heap.size u5 L w6 := row_but HM5.out c6 (fun g hg q => by have e1 : g = tb := q; have e2 : W1.heap.size ≤ g := (HM5.out.lt g hg).1; have e3 := HTB.out; omega); obtain ⟨A5, cap5, rfl, n5⟩ := hm5.nums; obtain ⟨A6, cap6, rfl, n6⟩ := m6.nums; have HT6 := Lib.hid h6; have HB6 := Lib.hid b6; have HS6 := Lib.hid (same04_yes A5 A6 L cap5 cap6 w6 HWL.out n5 n6); clear hb6 h6 b6 c6 m6 hm5 n5 n6)
      | (go_at_call 46; refine HS6.out.mono ?_; rintro e w7 ⟨rfl, b7⟩; have hb7 : Blk w7 W.heap.size 40 _ := Blk.below (Blk.but (Blk.but (show Blk W1.drew W.heap.size 40 _ from HBX.out) HB5.out (fun q => q.2 (.inr rfl))) HB6.out (fun q => q.2 (.inr rfl))) b7 (HT6.out.elt _ (.inr rfl)); rw [← HO.out] at hb7; obtain ⟨-, -, -, y31⟩ := op_box HOK.out hb7; dsimp only at y31; have HT7 := Lib.hid (HT6.out.on b7); have HB7 : Hid (But (Oth w E) w6 w7) := Lib.hid (But.of_below b7); clear hb7 b7))
  all_goals
    go_wp2_with fail
    go_ret
    exact ⟨rfl, _, _, _, ts, _, _, HT7.out.unbox, HR5.out, HB1.out.trans ((but_unbox HB5.out).trans ((but_unbox HB6.out).trans HB7.out))⟩
theorem do_any (o : OpR) (hok : OkT o.x) (h : Two w E b c gl gn v tb vL vW r ts ls ts ws W) (hr : RelW r ts.length ls ws) :
    Calls Try.prog 15 #[.pointer (some ⟨b, 0, none⟩), .pointer (some ⟨tb, 0, none⟩), .agg (opL o).toArray] W (DoT w E b c gl gn tb r W) := by
  rcases (by omega : (o.kind % 7 = 0 ∨ o.kind % 7 = 1) ∨ (o.kind % 7 = 2 ∨ o.kind % 7 = 3) ∨ (o.kind % 7 = 4 ∨ o.kind % 7 = 5) ∨ o.kind % 7 = 6) with hk | hk | hk | hk
  · exact do_add o hok h hr hk
  · exact do_set o hok h hr hk
  · exact do_join o hok h hr hk
  · exact do_joined o hok h hr hk
end
end Go.Proofs.Ytdlncbndhljhfaa
