/- One thing done to both tables: Add (layer 12). -/
import Derived.Test.YtdlncbndhljhfaaVj
import Derived.Test.YtdlncbndhljhfaaTw
namespace Go.Proofs.Ytdlncbndhljhfaa
open Go.RowKit

/-- Both answered alike, and both are the same table behind it. -/
abbrev DoT (w : World) (E : Nat → Prop) (b c gl gn tb r : Nat) (W : World) : Ending → World → Prop := fun e W' =>
  e = .returned (.bool true) ∧ ∃ (v vL vW : Value) (ts : List (List Value)) (ls : Nat → List Nat) (ws : List (Nat × Nat)), Two w E b c gl gn v tb vL vW r ts ls ts ws W' ∧ RelW r ts.length ls ws ∧ But (Oth w E) W W'
abbrev Ebox (E : Nat → Prop) (x : Nat) : Nat → Prop := fun k => E k ∨ k = x
section
variable {w W W' : World} {E : Nat → Prop} {b c gl gn r tb : Nat} {v vL vW : Value} {ts us : List (List Value)} {ls : Nat → List Nat} {ws : List (Nat × Nat)}
theorem Two.boxed (h : Two w E b c gl gn v tb vL vW r ts ls us ws W) (O : Obj) : Two w (Ebox E W.heap.size) b c gl gn v tb vL vW r ts ls us ws (W.alloc O) := by
  have hal : Below W.heap.size W (W.alloc O) := (Below.refl _ _).alloc (Nat.le_refl _) _
  refine (h.on hal).more fun k hk => hk.elim .inl fun e => .inr ⟨by rw [e]; simp, fun q => ?_, fun q => ?_⟩
  · have := h.tab.lt q; omega
  · have := h.ref.lt q; omega
theorem Two.unbox {x : Nat} (h : Two w (Ebox E x) b c gl gn v tb vL vW r ts ls us ws W) : Two w E b c gl gn v tb vL vW r ts ls us ws W := h.more fun _ hk => .inl (.inl hk)
theorem but_unbox {x : Nat} (h : But (Oth w (Ebox E x)) W W') : But (Oth w E) W W' := h.mono fun _ _ q => ⟨q.1, fun e => q.2 (.inl e)⟩
theorem addT_len (ts : List (List Value)) (r : Nat) (cs : List Value) : ts.length ≤ (addT ts r cs).length := by
  unfold addT; split <;> simp
set_option maxRecDepth 100000 in
set_option maxHeartbeats 8000000 in
theorem do_add (o : OpR) (hok : OkT o.x) (h : Two w E b c gl gn v tb vL vW r ts ls ts ws W) (hr : RelW r ts.length ls ws) (hk : o.kind % 7 = 0 ∨ o.kind % 7 = 1) :
    Calls Try.prog 15 #[.pointer (some ⟨b, 0, none⟩), .pointer (some ⟨tb, 0, none⟩), .agg (opL o).toArray] W (DoT w E b c gl gn tb r W) := by
  have HT1 := Lib.hid (h.boxed (.cells (opL o).toArray 40))
  have hB1 : But (Oth w E) W (W.alloc (.cells (opL o).toArray 40)) := (But.refl _ _).alloc _
  have HB1 := Lib.hid hB1
  have hbx := Blk.new W 40 (opL o).toArray
  have HBX := Lib.hid hbx
  obtain ⟨y0, yr, y30, y31⟩ := op_box hok hbx
  have HYR := Lib.hid yr
  have HIXX := Lib.hid (infoT.trans (congrArg some hok.len.symm))
  have HR := Lib.hid hr
  have HC := Lib.hid (two_add o.x hok HT1.out)
  have HOK := Lib.hid hok
  obtain ⟨kd, xx, id, on⟩ := o
  dsimp only at hk y0 y30 y31 HYR HOK HIXX HC
  have hm : (kd : Int).tmod 7 = 0 ∨ (kd : Int).tmod 7 = 1 := by
    rw [Int.tmod_eq_emod_of_nonneg (by omega)]; omega
  obtain ⟨O, hO⟩ : ∃ O, opL ⟨kd, xx, id, on⟩ = O := ⟨_, rfl⟩
  have HO := Lib.hid hO
  rw [hO] at HT1 HB1 HBX ⊢
  simp only [hO] at HC y0 y30 y31 HYR
  clear hO
  clear h hr hbx yr hk hok hB1
  rcases hm with hm | hm
  all_goals
    go_enter Try.func15, Try.ntmps15
    go_wp2_with (with_reducible (show wpList _ _ _ _ _ _); refine wpList_load_mid rfl 38 (.tmp 59) rfl W.heap.size 1 rfl xx _ HYR.out Try.underlying38 rfl HIXX.out ?_)
    refine HC.out.mono ?_
    rintro e w2 ⟨rfl, v2, h2, b2⟩
    dsimp only
    have HT2 := Lib.hid h2; have HB2 := Lib.hid b2
    have HYR2 : Hid (w2.rangeAt W.heap.size 1 xx) := Lib.hid (op_box HOK.out (o := ⟨kd, xx, id, on⟩) (by rw [HO.out]; exact Blk.but HBX.out b2 (fun q => q.2 (.inr rfl)))).2.1
    have HC2 := Lib.hid (two_dadd xx HOK.out HT2.out)
    clear h2 b2 HC HT1 HYR y0 y30 y31
    go_wp2_with (with_reducible (show wpList _ _ _ _ _ _); refine wpList_load_mid rfl 38 (.tmp 66) rfl W.heap.size 1 rfl xx _ HYR2.out Try.underlying38 rfl HIXX.out ?_)
    refine HC2.out.mono ?_
    rintro e w3 ⟨rfl, vL3, h3, b3⟩
    dsimp only
    have HT3 := Lib.hid h3; have HB3 := Lib.hid b3
    have HRR := Lib.hid (HR.out.grow (addT_len ts r xx))
    clear h3 b3 HC2 HT2 HYR2
    generalize addT ts r xx = ts' at *
    generalize addE ts r xx = ee at *
    obtain ⟨e1, e2⟩ := ee
    dsimp only
    have q1 : (e1 == e1) = true := by simp
    have q2 : (e2 == e2) = true := by simp
    go_wp2_with fail
    go_ret
    exact ⟨rfl, _, _, _, ts', ls, ws, HT3.out.unbox, HRR.out, HB1.out.trans ((but_unbox HB2.out).trans (but_unbox HB3.out))⟩
end
end Go.Proofs.Ytdlncbndhljhfaa
