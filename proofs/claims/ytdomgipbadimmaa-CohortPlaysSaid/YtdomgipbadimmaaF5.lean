/- Both are alike (layer 14). -/
import Derived.Test.YtdomgipbadimmaaF3
import Derived.Test.YtdomgipbadimmaaF4
import Derived.Deep.RegionHeld
namespace Go.Proofs.Ytdomgipbadimmaa
open Go.RowKit
set_option maxRecDepth 100000

section
variable {w0 W : World} {Z : Nat → Prop} {pb lb xb k n : Nat} {ks : List Coh}
theorem do14_any (K : Nat) (I J L : Int) (h : TwoD w0 Z pb lb xb k ks W) (hn : ks.length = n) (hk : k ≤ 80) : Calls Try.prog 15 #[.pointer (some ⟨pb, 0, none⟩), .slice (some ⟨xb, 0, none⟩) n n, .agg #[.int .u64 K, .int .i64 I, .int .i64 J, .int .i64 L]] W (DoP14 w0 Z W pb lb xb k n) := by
  by_cases hi : 0 ≤ I ∧ I < (n : Int)
  · obtain ⟨i, rfl⟩ : ∃ i : Nat, I = i := ⟨I.toNat, by omega⟩
    by_cases hK : K % 5 < 2
    · exact do_take_in K i J L h hn hk hK (by omega)
    · exact do_give_in K i J L h hn hk hK (by omega)
  · by_cases hK : K % 5 < 2
    · exact do_take_out K I J L h hn hK hi
    · exact do_give_out K I J L h hn hK hi
theorem isOf_doc (c : Coh) (t : Int) : isOfC c t = (heldD c && (ownD c == t)) := by
  unfold isOfC heldD ownD
  by_cases q : c.own = -1
  · rw [q]
    by_cases e : t = -1
    · subst e; rfl
    · rw [show ((-1 : Int) == t) = false by simpa using fun a => e a.symm]; simp
  · rw [if_neg q, show (c.own == -1) = false by simpa using q]
    by_cases e : c.own = t
    · rw [show (t == -1) = false by rw [← e]; simpa using q]
    · rw [show (c.own == t) = false by simpa using e]; simp
set_option maxHeartbeats 32000000 in
theorem alike14_any (t : Int) (h : Two14 w0 pb lb xb k ks W) (hn : ks.length = n) (hn16 : n ≤ 16) (hk : k ≤ 80) : Calls Try.prog 14 #[.pointer (some ⟨pb, 0, none⟩), .slice (some ⟨xb, 0, none⟩) n n, .int .i64 t] W fun e w' => e = .returned (.bool true) ∧ Below W.heap.size W w' := by
  obtain ⟨D, lab, a, b, d⟩ := h.ex
  have HA := Lib.hid a; have HB := Lib.hid b; have HN := Lib.hid hn
  clear h a b d hn
  go_enter Try.func14, Try.ntmps14
  go_wp2_with fail
  go_loopw [7, 18] (fun ov iv wr => ∃ (i : Nat) (v : Value), v = ov ∧ iv = .int .i64 i ∧ i ≤ n ∧ MineN W.heap.size v (ownedL t ks i) wr ∧ Below W.heap.size W wr) (fun _ iv _ => n - (intOf iv).toNat)
  case atStart => exact ⟨0, _, rfl, rfl, Nat.zero_le _, mineN_nil _ _, Below.refl _ _⟩
  case round =>
    obtain ⟨i, v, rfl, rfl, hin, hv, hb⟩ := hrel
    have HV := Lib.hid hv; have HBW := Lib.hid hb
    clear hv
    by_cases hlt : i < n
    · obtain ⟨c, hc⟩ : ∃ c, ks[i]? = some c := ⟨_, List.getElem?_eq_getElem (by rw [HN.out]; exact hlt)⟩
      have hu0 : But Nob W wr := But.of_below hb
      obtain ⟨E, wv, rv, hdl, hrel, hEk, hcb, x0, x1, x2, x3, x4, x5⟩ := (HB.out.but hu0 fun _ _ q => q).at hc
      obtain ⟨A1, n1, c1, rfl⟩ := hdl.wts.slice
      obtain ⟨A2, n2, c2, rfl⟩ := hdl.rnd.slice
      have HLT := Lib.hid hlt
      have i0 : (0 : Int) ≤ (i : Int) := by omega
      have i1 : (i : Int) < (n : Int) := by omega
      have hcb9 : CohB c 900 := ⟨by have := hcb.pas; omega, by have := hcb.rnd; omega, fun x hx => by have := hcb.row x hx; omega⟩
      have hRL : (allR c.rnd).length ≤ 1000000 := by
        have h1 := allR_len (L := c.rnd) (m := 900) hcb9.row
        have := Nat.mul_le_mul_left 900 hcb9.rnd
        omega
      have HRL := Lib.hid hRL
      have HSU : Hid (ownedL t ks (i + 1) = ownedL t ks i ++ (if isOfC c t then [(i : Int)] else [])) := by
        show ownedL t ks (i + 1) = _
        rw [ownedL_succ]
        unfold ownAt; rw [hc]
      have HLL : Hid ((ownedL t ks i).length ≤ 16) := by
        have := ownedL_len t ks i
        show _ ≤ _
        omega
      have hal : But Nob wr (wr.alloc (.cells #[.bool (heldD c), .int .i64 (ownD c), .int .i64 c.soc, .int .i64 c.pas, .slice A1 n1 c1, .slice A2 n2 c2] 93)) := (But.refl _ _).alloc _
      have KO : Hid (Calls Try.prog 18 #[.pointer (some ⟨pb, 0, none⟩), .int .i64 (i : Int)] (wr.alloc (.cells #[.bool (heldD c), .int .i64 (ownD c), .int .i64 c.soc, .int .i64 c.pas, .slice A1 n1 c1, .slice A2 n2 c2] 93)) fun e w' => e = .returned (.tuple #[.int .i64 (ownD c), .bool (heldD c)]) ∧ (wr.alloc (.cells #[.bool (heldD c), .int .i64 (ownD c), .int .i64 c.soc, .int .i64 c.pas, .slice A1 n1 c1, .slice A2 n2 c2] 93)) = w') := ownerL_any (HA.out.nob (hu0.trans hal)) hc
      have KS : Hid (∀ X, But Nob (wr.alloc (.cells #[.bool (heldD c), .int .i64 (ownD c), .int .i64 c.soc, .int .i64 c.pas, .slice A1 n1 c1, .slice A2 n2 c2] 93)) X → Calls Try.prog 19 #[.pointer (some ⟨pb, 0, none⟩), .int .i64 (i : Int)] X fun e w' => e = .returned (.int .i64 c.soc) ∧ X = w') := fun X hX => socketL_any (HA.out.nob ((hu0.trans hal).trans hX)) hc
      have KW : Hid (∀ X, But Nob (wr.alloc (.cells #[.bool (heldD c), .int .i64 (ownD c), .int .i64 c.soc, .int .i64 c.pas, .slice A1 n1 c1, .slice A2 n2 c2] 93)) X → Calls Try.prog 20 #[.pointer (some ⟨pb, 0, none⟩), .int .i64 (i : Int)] X fun e w' => ∃ A5 n5 c5, e = .returned (.slice A5 n5 c5) ∧ SIn (fun _ => True) (.slice A5 n5 c5) (allR c.rnd).length (numC (allR c.rnd)) w' ∧ Below X.heap.size X w') := fun X hX => by
        refine (waitL_any (HA.out.nob ((hu0.trans hal).trans hX)) hc hcb9).mono ?_
        rintro e w' ⟨v, rfl, hv, hb⟩
        have hs := hv.sin (D := fun _ => True) (fun _ _ => trivial)
        obtain ⟨A5, n5, c5, rfl⟩ := hs.slice
        exact ⟨A5, n5, c5, rfl, hs, hb⟩
      have KD : Hid (∀ X, But Nob (wr.alloc (.cells #[.bool (heldD c), .int .i64 (ownD c), .int .i64 c.soc, .int .i64 c.pas, .slice A1 n1 c1, .slice A2 n2 c2] 93)) X → Calls Try.prog 40 #[.agg #[.bool (heldD c), .int .i64 (ownD c), .int .i64 c.soc, .int .i64 c.pas, .slice A1 n1 c1, .slice A2 n2 c2]] X fun e w' => ∃ A5 n5 c5, e = .returned (.slice A5 n5 c5) ∧ SIn (fun _ => True) (.slice A5 n5 c5) (allR c.rnd).length (numC (allR c.rnd)) w' ∧ Below X.heap.size X w') := fun X hX => by
        refine (dwait_any (hdl.but (hal.trans hX) fun _ _ q => q) (by omega) (by have := hcb.rnd; unfold rndL; rw [List.length_map]; omega)).mono ?_
        rintro e w' ⟨v, rfl, hv, hb⟩
        rw [hrel.all] at hv
        have hs := hv.sin (D := fun _ => True) (fun _ _ => trivial)
        obtain ⟨A5, n5, c5, rfl⟩ := hs.slice
        exact ⟨A5, n5, c5, rfl, hs, hb⟩
      have HIS := Lib.hid (isOf_doc c t)
      have hOWN : heldD c = false → ownD c = 0 := fun q => by
        unfold heldD at q; unfold ownD; rw [if_pos (by simpa using q)]
      obtain ⟨bh, hbh⟩ : ∃ x, heldD c = x := ⟨_, rfl⟩
      obtain ⟨o, ho⟩ : ∃ x, ownD c = x := ⟨_, rfl⟩
      obtain ⟨b2, hb2⟩ : ∃ x, c.soc = x := ⟨_, rfl⟩
      obtain ⟨b3, hb3⟩ : ∃ x, c.pas = x := ⟨_, rfl⟩
      rw [hbh, ho, hb2, hb3] at KO KS KW KD hal
      rw [hbh] at x0 hOWN HIS; rw [ho] at x1 hOWN HIS; rw [hb2] at x2; rw [hb3] at x3
      clear hdl hrel hEk hcb hcb9 hRL hu0 hbh ho hb2 hb3 hb hlt hc
      have HAL := Lib.hid hal
      have HV2' := Lib.hid (MineN.on HV.out (hal.below (B := wr.heap.size) (Nat.le_refl _) fun _ _ q => q.elim))
      have HBL := Lib.hid (HBW.out.trans (hal.below (B := W.heap.size) HBW.out.size fun _ _ q => q.elim))
      have hyb := Blk.new wr 93 #[.bool bh, .int .i64 o, .int .i64 b2, .int .i64 b3, .slice A1 n1 c1, .slice A2 n2 c2]
      clear hal HV HBW
      go_upto_region 6 with (go_at_call 18; (with_reducible refine KO.out.mono ?_); rintro e2 w2 ⟨rfl, rfl⟩)
      clear x0 x1 x2 x3 x4 x5 KO
      generalize wr.alloc (.cells #[.bool bh, .int .i64 o, .int .i64 b2, .int .i64 b3, .slice A1 n1 c1, .slice A2 n2 c2] 93) = W2 at *
      obtain ⟨yb, hybe⟩ : ∃ y, wr.heap.size = y := ⟨_, rfl⟩
      rw [hybe] at hyb ⊢
      have ts : (b2 != b2) = false := by simp
      have to' : (o != o) = false := by simp
      have HYL := Lib.hid hyb.lt
      cases bh with
      | true =>
        have HYC : Hid (∀ X, But Nob W2 X → X.cell? ⟨yb, 0, none⟩ = some (.bool true) ∧ X.cell? ⟨yb, 1, none⟩ = some (.int .i64 o) ∧ X.cell? ⟨yb, 2, none⟩ = some (.int .i64 b2) ∧ X.cell? ⟨yb, 3, none⟩ = some (.int .i64 b3) ∧ X.cell? ⟨yb, 4, none⟩ = some (.slice A1 n1 c1) ∧ X.cell? ⟨yb, 5, none⟩ = some (.slice A2 n2 c2)) := fun X hX =>
          ⟨(hX.cell0 hyb.lt id).trans (hyb.cell 0), (hX.cell0 hyb.lt id).trans (hyb.cell 1), (hX.cell0 hyb.lt id).trans (hyb.cell 2), (hX.cell0 hyb.lt id).trans (hyb.cell 3), (hX.cell0 hyb.lt id).trans (hyb.cell 4), (hX.cell0 hyb.lt id).trans (hyb.cell 5)⟩
        have HBD := Lib.hid ((But.refl Nob W2).drew)
        obtain ⟨y0, y1, y2, y3, y4, y5⟩ := HYC.out W2 (But.refl _ _)
        clear hyb hOWN hybe
        refine wp_region_held_drew (S := fun X => X.cell? ⟨yb, 0, none⟩ = some (.bool true) ∧ X.cell? ⟨yb, 1, none⟩ = some (.int .i64 o) ∧ X.cell? ⟨yb, 2, none⟩ = some (.int .i64 b2) ∧ X.cell? ⟨yb, 3, none⟩ = some (.int .i64 b3) ∧ X.cell? ⟨yb, 4, none⟩ = some (.slice A1 n1 c1) ∧ X.cell? ⟨yb, 5, none⟩ = some (.slice A2 n2 c2)) (by kernel_rfl) (HYC.out _ HBD.out) (fun hHeld => ?_)
        show wpAnyH _ _ _ _ _ _ _ _ _
        try dsimp only at hHeld
        refine wpAnyH_take (i := 0) (v := ?_) rfl (by kernel_rfl) (by kernel_rfl) (by kernel_rfl) (fun _ _ _ h => h) (Or.inl ⟨by rfl, fun X hX => by (obtain ⟨z0, z1, z2, z3, z4, z5⟩ := hX; go_simp <;> with_reducible rfl)⟩) hHeld ?_
        go_simp
        refine wpAnyH_take (i := 1) (v := ?_) rfl (by kernel_rfl) (by kernel_rfl) (by kernel_rfl) (fun _ _ _ h => h) (Or.inl ⟨by rfl, fun X hX => by (obtain ⟨z0, z1, z2, z3, z4, z5⟩ := hX; go_simp <;> with_reducible rfl)⟩) hHeld ?_
        go_simp
        refine wpAnyH_take (i := 2) (v := ?_) rfl (by kernel_rfl) (by kernel_rfl) (by kernel_rfl) (fun _ _ _ h => h) (Or.inl ⟨by rfl, fun X hX => by (obtain ⟨z0, z1, z2, z3, z4, z5⟩ := hX; go_simp <;> with_reducible rfl)⟩) hHeld ?_
        go_simp
        refine wpAnyH_take (i := 3) (v := ?_) rfl (by kernel_rfl) (by kernel_rfl) (by kernel_rfl) (fun _ _ _ h => h) (Or.inl ⟨by rfl, fun X hX => by (obtain ⟨z0, z1, z2, z3, z4, z5⟩ := hX; go_simp <;> with_reducible rfl)⟩) hHeld ?_
        go_simp
        refine wpAnyH_take (i := 4) (v := ?_) rfl (by kernel_rfl) (by kernel_rfl) (by kernel_rfl) (fun _ _ _ h => h) (Or.inl ⟨by rfl, fun X hX => by (obtain ⟨z0, z1, z2, z3, z4, z5⟩ := hX; go_simp <;> with_reducible rfl)⟩) hHeld ?_
        go_simp
        refine wpAnyH_take (i := 5) (v := ?_) rfl (by kernel_rfl) (by kernel_rfl) (by kernel_rfl) (fun _ _ _ h => h) (Or.inl ⟨by rfl, fun X hX => by (obtain ⟨z0, z1, z2, z3, z4, z5⟩ := hX; go_simp <;> with_reducible rfl)⟩) hHeld ?_
        go_simp
        refine wpAnyH_take (i := 6) (v := ?_) rfl (by kernel_rfl) (by kernel_rfl) (by kernel_rfl) (fun _ _ _ h => h) (Or.inl ⟨by rfl, fun X hX => by (obtain ⟨z0, z1, z2, z3, z4, z5⟩ := hX; go_simp <;> with_reducible rfl)⟩) hHeld ?_
        go_simp
        refine wpAnyH_take (i := 7) (v := ?_) rfl (by kernel_rfl) (by kernel_rfl) (by kernel_rfl) (fun _ _ _ h => h) (Or.inl ⟨by rfl, fun X hX => by (obtain ⟨z0, z1, z2, z3, z4, z5⟩ := hX; go_simp <;> with_reducible rfl)⟩) hHeld ?_
        go_simp
        refine wpAnyH_take (i := 8) (v := ?_) rfl (by kernel_rfl) (by kernel_rfl) (by kernel_rfl) (fun _ _ _ h => h) (Or.inl ⟨by rfl, fun X hX => by (obtain ⟨z0, z1, z2, z3, z4, z5⟩ := hX; go_simp <;> with_reducible rfl)⟩) hHeld ?_
        go_simp
        refine wpAnyH_take (i := 9) (v := ?_) rfl (by kernel_rfl) (by kernel_rfl) (by kernel_rfl) (fun _ _ _ h => h) (Or.inl ⟨by rfl, fun X hX => by (obtain ⟨z0, z1, z2, z3, z4, z5⟩ := hX; go_simp <;> with_reducible rfl)⟩) hHeld ?_
        go_simp
        refine wpAnyH_take (i := 10) (v := ?_) rfl (by kernel_rfl) (by kernel_rfl) (by kernel_rfl) (fun _ _ _ h => h) (Or.inl ⟨by rfl, fun X hX => by (obtain ⟨z0, z1, z2, z3, z4, z5⟩ := hX; go_simp <;> with_reducible rfl)⟩) hHeld ?_
        go_simp
        refine wpAnyH_take (i := 11) (v := ?_) rfl (by kernel_rfl) (by kernel_rfl) (by kernel_rfl) (fun _ _ _ h => h) (Or.inl ⟨by rfl, fun X hX => by (obtain ⟨z0, z1, z2, z3, z4, z5⟩ := hX; go_simp <;> with_reducible rfl)⟩) hHeld ?_
        go_simp
        refine wpAnyH_take (i := 12) (v := ?_) rfl (by kernel_rfl) (by kernel_rfl) (by kernel_rfl) (fun _ _ _ h => h) (Or.inl ⟨by rfl, fun X hX => by (obtain ⟨z0, z1, z2, z3, z4, z5⟩ := hX; go_simp <;> with_reducible rfl)⟩) hHeld ?_
        go_simp
        refine wpAnyH_take (i := 13) (v := ?_) rfl (by kernel_rfl) (by kernel_rfl) (by kernel_rfl) (fun _ _ _ h => h) (Or.inl ⟨by rfl, fun X hX => by (obtain ⟨z0, z1, z2, z3, z4, z5⟩ := hX; go_simp <;> with_reducible rfl)⟩) hHeld ?_
        go_simp
        refine wpAnyH_take (i := 14) (v := ?_) rfl (by kernel_rfl) (by kernel_rfl) (by kernel_rfl) (fun _ _ _ h => h) (Or.inl ⟨by rfl, fun X hX => by (obtain ⟨z0, z1, z2, z3, z4, z5⟩ := hX; go_simp <;> with_reducible rfl)⟩) hHeld ?_
        go_simp
        refine wpAnyH_take (i := 15) (v := ?_) rfl (by kernel_rfl) (by kernel_rfl) (by kernel_rfl) (fun _ _ _ h => h) (Or.inl ⟨by rfl, fun X hX => by (obtain ⟨z0, z1, z2, z3, z4, z5⟩ := hX; go_simp <;> with_reducible rfl)⟩) hHeld ?_
        go_simp
        refine wpAnyH_take (i := 16) (v := ?_) rfl (by kernel_rfl) (by kernel_rfl) (by kernel_rfl) (fun _ _ _ h => h) (Or.inl ⟨by rfl, fun X hX => by (obtain ⟨z0, z1, z2, z3, z4, z5⟩ := hX; go_simp <;> with_reducible rfl)⟩) hHeld ?_
        go_simp
        refine wpAnyH_take (i := 17) (v := undef) rfl (by kernel_rfl) (by kernel_rfl) (by kernel_rfl) (fun _ _ _ h => h) (Or.inr ⟨by rfl, rfl⟩) hHeld ?_
        go_simp
        refine wpAnyH_take (i := 18) (v := undef) rfl (by kernel_rfl) (by kernel_rfl) (by kernel_rfl) (fun _ _ _ h => h) (Or.inr ⟨by rfl, rfl⟩) hHeld ?_
        go_simp
        refine wpAnyH_take (i := 19) (v := ?_) rfl (by kernel_rfl) (by kernel_rfl) (by kernel_rfl) (fun _ _ _ h => h) (Or.inl ⟨by rfl, fun X hX => by (obtain ⟨z0, z1, z2, z3, z4, z5⟩ := hX; go_simp <;> with_reducible rfl)⟩) hHeld ?_
        go_simp
        refine wpAnyH_take (i := 20) (v := ?_) rfl (by kernel_rfl) (by kernel_rfl) (by kernel_rfl) (fun _ _ _ h => h) (Or.inl ⟨by rfl, fun X hX => by (obtain ⟨z0, z1, z2, z3, z4, z5⟩ := hX; go_simp <;> with_reducible rfl)⟩) hHeld ?_
        go_simp
        refine wpAnyH_take (i := 21) (v := ?_) rfl (by kernel_rfl) (by kernel_rfl) (by kernel_rfl) (fun _ _ _ h => h) (Or.inl ⟨by rfl, fun X hX => by (obtain ⟨z0, z1, z2, z3, z4, z5⟩ := hX; go_simp <;> with_reducible rfl)⟩) hHeld ?_
        go_simp
        refine wpAnyH_take (i := 22) (v := ?_) rfl (by kernel_rfl) (by kernel_rfl) (by kernel_rfl) (fun _ _ _ h => h) (Or.inl ⟨by rfl, fun X hX => by (obtain ⟨z0, z1, z2, z3, z4, z5⟩ := hX; go_simp <;> with_reducible rfl)⟩) hHeld ?_
        go_simp
        refine wpAnyH_take (i := 23) (v := ?_) rfl (by kernel_rfl) (by kernel_rfl) (by kernel_rfl) (fun _ _ _ h => h) (Or.inl ⟨by rfl, fun X hX => by (obtain ⟨z0, z1, z2, z3, z4, z5⟩ := hX; go_simp <;> with_reducible rfl)⟩) hHeld ?_
        go_simp
        refine wpAnyH_take (i := 25) (v := ?_) rfl (by kernel_rfl) (by kernel_rfl) (by kernel_rfl) (fun _ _ _ h => h) (Or.inl ⟨by rfl, fun X hX => by (obtain ⟨z0, z1, z2, z3, z4, z5⟩ := hX; go_simp <;> with_reducible rfl)⟩) hHeld ?_
        go_simp
        refine wpAnyH_take (i := 26) (v := ?_) rfl (by kernel_rfl) (by kernel_rfl) (by kernel_rfl) (fun _ _ _ h => h) (Or.inl ⟨by rfl, fun X hX => by (obtain ⟨z0, z1, z2, z3, z4, z5⟩ := hX; go_simp <;> with_reducible rfl)⟩) hHeld ?_
        go_simp
        refine wpAnyH_ready (rs := [24]) (by kernel_rfl) (by simp) ?_
        refine AllReadyH.cons rfl (fun K hK => ?_) AllReadyH.nil
        go_simp
        go_at_call 19; refine (KS.out _ HBD.out).mono ?_; rintro e3 w3 ⟨rfl, rfl⟩
        (try (go_wp2_with fail))
        refine hK.out _ _ hHeld (fun hHeld => ?_)
        clear hK K
        go_simp
        refine wpAnyH_take (i := 27) (v := ?_) rfl (by kernel_rfl) (by kernel_rfl) (by kernel_rfl) (fun _ _ _ h => h) (Or.inl ⟨by rfl, fun X hX => by (obtain ⟨z0, z1, z2, z3, z4, z5⟩ := hX; go_simp <;> with_reducible rfl)⟩) hHeld ?_
        go_simp
        refine wpAnyH_take (i := 28) (v := ?_) rfl (by kernel_rfl) (by kernel_rfl) (by kernel_rfl) (fun _ _ _ h => h) (Or.inl ⟨by rfl, fun X hX => by (obtain ⟨z0, z1, z2, z3, z4, z5⟩ := hX; go_simp <;> with_reducible rfl)⟩) hHeld ?_
        go_simp
        refine wpAnyH_take (i := 29) (v := ?_) rfl (by kernel_rfl) (by kernel_rfl) (by kernel_rfl) (fun _ _ _ h => h) (Or.inl ⟨by rfl, fun X hX => by (obtain ⟨z0, z1, z2, z3, z4, z5⟩ := hX; go_simp <;> with_reducible rfl)⟩) hHeld ?_
        go_simp
        refine wpAnyH_take (i := 30) (v := ?_) rfl (by kernel_rfl) (by kernel_rfl) (by kernel_rfl) (fun _ _ _ h => h) (Or.inl ⟨by rfl, fun X hX => by (obtain ⟨z0, z1, z2, z3, z4, z5⟩ := hX; go_simp <;> with_reducible rfl)⟩) hHeld ?_
        go_simp
        refine wpAnyH_take (i := 31) (v := ?_) rfl (by kernel_rfl) (by kernel_rfl) (by kernel_rfl) (fun _ _ _ h => h) (Or.inl ⟨by rfl, fun X hX => by (obtain ⟨z0, z1, z2, z3, z4, z5⟩ := hX; go_simp <;> with_reducible rfl)⟩) hHeld ?_
        go_simp
        refine wpAnyH_take (i := 33) (v := ?_) rfl (by kernel_rfl) (by kernel_rfl) (by kernel_rfl) (fun _ _ _ h => h) (Or.inl ⟨by rfl, fun X hX => by (obtain ⟨z0, z1, z2, z3, z4, z5⟩ := hX; go_simp <;> with_reducible rfl)⟩) hHeld ?_
        go_simp
        refine wpAnyH_ready (rs := [32]) (by kernel_rfl) (by simp) ?_
        refine AllReadyH.cons rfl (fun K hK => ?_) AllReadyH.nil
        go_simp
        go_at_call 20; refine (KW.out _ HBD.out).mono ?_; rintro e5 w5 ⟨A5, n5, c5, rfl, hv5, hb5⟩; have hu5 := (HBD.out).trans (But.of_below (X := Nob) hb5); have hs5 := HYC.out w5 hu5; have HB5 := Lib.hid hu5; have HV1 := Lib.hid hv5; clear hv5 hb5 hu5
        (try (go_wp2_with fail))
        refine hK.out _ _ hs5 (fun hHeld => ?_)
        clear hK K
        go_simp
        refine wpAnyH_ready (rs := [34]) (by kernel_rfl) (by simp) ?_
        refine AllReadyH.cons rfl (fun K hK => ?_) AllReadyH.nil
        go_simp
        go_at_call 40; refine (KD.out _ HB5.out).mono ?_; rintro e6 w6 ⟨A6, n6, c6, rfl, hv6, hb6⟩; have hu6 := (HB5.out).trans (But.of_below (X := Nob) hb6); have hs6 := HYC.out w6 hu6; have HB6 := Lib.hid hu6; have HV2 := Lib.hid hv6; have HV1b := Lib.hid (HV1.out.below hb6); clear hv6 hb6 hu6
        (try (go_wp2_with fail))
        refine hK.out _ _ hs6 (fun hHeld => ?_)
        clear hK K
        go_simp
        refine wpAnyH_ready (rs := [35]) (by kernel_rfl) (by simp) ?_
        refine AllReadyH.cons rfl (fun K hK => ?_) AllReadyH.nil
        go_simp
        go_at_call 37; refine (same04_sin HV1b.out HV2.out HRL.out).mono ?_; rintro e7 w7 ⟨rfl, hu⟩; have hu7 := (HB6.out).trans hu; have hs7 := HYC.out w7 hu7; have HB7 := Lib.hid hu7; clear hu hu7
        (try (go_wp2_with fail))
        refine hK.out _ _ hs7 (fun hHeld => ?_)
        clear hK K
        go_simp
        refine wpAnyH_take (i := 36) (v := ?_) rfl (by kernel_rfl) (by kernel_rfl) (by kernel_rfl) (fun _ _ _ h => h) (Or.inl ⟨by rfl, fun X hX => by (obtain ⟨z0, z1, z2, z3, z4, z5⟩ := hX; go_simp <;> with_reducible rfl)⟩) hHeld ?_
        go_simp
        refine wpAnyH_take (i := 37) (v := ?_) rfl (by kernel_rfl) (by kernel_rfl) (by kernel_rfl) (fun _ _ _ h => h) (Or.inl ⟨by rfl, fun X hX => by (obtain ⟨z0, z1, z2, z3, z4, z5⟩ := hX; go_simp <;> with_reducible rfl)⟩) hHeld ?_
        go_simp
        refine wpAnyH_done (by kernel_rfl) ?_ _
        obtain ⟨c0, c1', c2', c3', c4', c5'⟩ := HYC.out w7 HB7.out
        have HV7 := Lib.hid (MineN.on HV2'.out (HB7.out.below (B := W2.heap.size) (Nat.le_refl _) fun _ _ q => q.elim))
        have HB8 := Lib.hid (HBL.out.trans (HB7.out.below (B := W.heap.size) HBL.out.size fun _ _ q => q.elim))
        clear HV2' HBL HB5 HB6 HV1 HV2 HV1b hHeld hs5 hs6 hs7 KS KW KD HYC HBD HRL HAL HA HB
        by_cases q : o = t
        · have tq : (o == t) = true := by simpa using q
          have HIT : Hid (isOfC c t = true) := by show _ = _; rw [HIS.out, tq]; rfl
          have hbx : Below w7.heap.size w7 (w7.alloc (.cells #[.int .i64 i] 3)) := (Below.refl _ _).alloc (Nat.le_refl _) _
          have HO12 := Lib.hid (MineN.on HV7.out hbx)
          have HC12 := Lib.hid (HB8.out.trans (hbx.mono HB8.out.size))
          have hbs := (Blk.new w7 3 #[.int .i64 (i : Int)]).cell 0
          simp only [List.getElem?_toArray, List.getElem?_cons_zero] at hbs
          have HBS := Lib.hid hbs
          clear hbx hbs q HV7 HB8
          go_wp2_with (at_builtin; refine haltC ?_)
          refine Lib.hid ?_
          refine app_num rfl (.tmp 75) (.tmp 77) rfl W.heap.size v (ownedL t ks i) rfl HO12.out _ (i : Int) rfl HBS.out (by have := HLL.out; omega) HC12.out.size ?_
          intro v13 w13 own13 gr13 bk13
          have hc13 : Below W.heap.size W w13 := HC12.out.trans ((Below.refl _ _).grown gr13 HC12.out.size fun k hk => (World.ownsRow.lt HO12.out k hk).1)
          have HN14 : Hid (MineN W.heap.size v13 (ownedL t ks (i + 1)) w13) := by
            show MineN _ _ _ _
            rw [HSU.out, HIT.out, if_pos rfl]; exact own13
          have HU14 := Lib.hid hc13
          clear own13 gr13 bk13 hc13 HO12 HC12 HBS
          go_wp2_with fail
          go_roundw
          case rel => exact ⟨i + 1, _, rfl, by go_num, by have := HLT.out; omega, HN14.out, HU14.out⟩
          case measure => have := HLT.out; simp [intOf]; omega
        · have tq : (o == t) = false := by simpa using q
          have HN14 : Hid (MineN W.heap.size v (ownedL t ks (i + 1)) w7) := by
            show MineN _ _ _ _
            rw [HSU.out, HIS.out, tq]
            simpa using HV7.out
          clear q
          go_wp2_with fail
          go_roundw
          case rel => exact ⟨i + 1, _, rfl, by go_num, by have := HLT.out; omega, HN14.out, HB8.out⟩
          case measure => have := HLT.out; simp [intOf]; omega
      | false =>
        obtain rfl := hOWN rfl
        have HYC : Hid (∀ X, But Nob W2 X → X.cell? ⟨yb, 0, none⟩ = some (.bool false) ∧ X.cell? ⟨yb, 1, none⟩ = some (.int .i64 0) ∧ X.cell? ⟨yb, 2, none⟩ = some (.int .i64 b2) ∧ X.cell? ⟨yb, 3, none⟩ = some (.int .i64 b3) ∧ X.cell? ⟨yb, 4, none⟩ = some (.slice A1 n1 c1) ∧ X.cell? ⟨yb, 5, none⟩ = some (.slice A2 n2 c2)) := fun X hX =>
          ⟨(hX.cell0 hyb.lt id).trans (hyb.cell 0), (hX.cell0 hyb.lt id).trans (hyb.cell 1), (hX.cell0 hyb.lt id).trans (hyb.cell 2), (hX.cell0 hyb.lt id).trans (hyb.cell 3), (hX.cell0 hyb.lt id).trans (hyb.cell 4), (hX.cell0 hyb.lt id).trans (hyb.cell 5)⟩
        have HBD := Lib.hid ((But.refl Nob W2).drew)
        clear hyb hybe
        refine wp_region_held_drew (S := fun X => X.cell? ⟨yb, 0, none⟩ = some (.bool false) ∧ X.cell? ⟨yb, 1, none⟩ = some (.int .i64 0) ∧ X.cell? ⟨yb, 2, none⟩ = some (.int .i64 b2) ∧ X.cell? ⟨yb, 3, none⟩ = some (.int .i64 b3) ∧ X.cell? ⟨yb, 4, none⟩ = some (.slice A1 n1 c1) ∧ X.cell? ⟨yb, 5, none⟩ = some (.slice A2 n2 c2)) (by kernel_rfl) (HYC.out _ HBD.out) (fun hHeld => ?_)
        show wpAnyH _ _ _ _ _ _ _ _ _
        try dsimp only at hHeld
        refine wpAnyH_take (i := 0) (v := ?_) rfl (by kernel_rfl) (by kernel_rfl) (by kernel_rfl) (fun _ _ _ h => h) (Or.inl ⟨by rfl, fun X hX => by (obtain ⟨z0, z1, z2, z3, z4, z5⟩ := hX; go_simp <;> with_reducible rfl)⟩) hHeld ?_
        go_simp
        refine wpAnyH_take (i := 1) (v := ?_) rfl (by kernel_rfl) (by kernel_rfl) (by kernel_rfl) (fun _ _ _ h => h) (Or.inl ⟨by rfl, fun X hX => by (obtain ⟨z0, z1, z2, z3, z4, z5⟩ := hX; go_simp <;> with_reducible rfl)⟩) hHeld ?_
        go_simp
        refine wpAnyH_take (i := 2) (v := ?_) rfl (by kernel_rfl) (by kernel_rfl) (by kernel_rfl) (fun _ _ _ h => h) (Or.inl ⟨by rfl, fun X hX => by (obtain ⟨z0, z1, z2, z3, z4, z5⟩ := hX; go_simp <;> with_reducible rfl)⟩) hHeld ?_
        go_simp
        refine wpAnyH_take (i := 3) (v := ?_) rfl (by kernel_rfl) (by kernel_rfl) (by kernel_rfl) (fun _ _ _ h => h) (Or.inl ⟨by rfl, fun X hX => by (obtain ⟨z0, z1, z2, z3, z4, z5⟩ := hX; go_simp <;> with_reducible rfl)⟩) hHeld ?_
        go_simp
        refine wpAnyH_take (i := 4) (v := ?_) rfl (by kernel_rfl) (by kernel_rfl) (by kernel_rfl) (fun _ _ _ h => h) (Or.inl ⟨by rfl, fun X hX => by (obtain ⟨z0, z1, z2, z3, z4, z5⟩ := hX; go_simp <;> with_reducible rfl)⟩) hHeld ?_
        go_simp
        refine wpAnyH_take (i := 5) (v := ?_) rfl (by kernel_rfl) (by kernel_rfl) (by kernel_rfl) (fun _ _ _ h => h) (Or.inl ⟨by rfl, fun X hX => by (obtain ⟨z0, z1, z2, z3, z4, z5⟩ := hX; go_simp <;> with_reducible rfl)⟩) hHeld ?_
        go_simp
        refine wpAnyH_take (i := 6) (v := ?_) rfl (by kernel_rfl) (by kernel_rfl) (by kernel_rfl) (fun _ _ _ h => h) (Or.inl ⟨by rfl, fun X hX => by (obtain ⟨z0, z1, z2, z3, z4, z5⟩ := hX; go_simp <;> with_reducible rfl)⟩) hHeld ?_
        go_simp
        refine wpAnyH_take (i := 7) (v := undef) rfl (by kernel_rfl) (by kernel_rfl) (by kernel_rfl) (fun _ _ _ h => h) (Or.inr ⟨by rfl, rfl⟩) hHeld ?_
        go_simp
        refine wpAnyH_take (i := 8) (v := undef) rfl (by kernel_rfl) (by kernel_rfl) (by kernel_rfl) (fun _ _ _ h => h) (Or.inr ⟨by rfl, rfl⟩) hHeld ?_
        go_simp
        refine wpAnyH_take (i := 9) (v := undef) rfl (by kernel_rfl) (by kernel_rfl) (by kernel_rfl) (fun _ _ _ h => h) (Or.inr ⟨by rfl, rfl⟩) hHeld ?_
        go_simp
        refine wpAnyH_take (i := 10) (v := undef) rfl (by kernel_rfl) (by kernel_rfl) (by kernel_rfl) (fun _ _ _ h => h) (Or.inr ⟨by rfl, rfl⟩) hHeld ?_
        go_simp
        refine wpAnyH_take (i := 11) (v := ?_) rfl (by kernel_rfl) (by kernel_rfl) (by kernel_rfl) (fun _ _ _ h => h) (Or.inl ⟨by rfl, fun X hX => by (obtain ⟨z0, z1, z2, z3, z4, z5⟩ := hX; go_simp <;> with_reducible rfl)⟩) hHeld ?_
        go_simp
        refine wpAnyH_take (i := 12) (v := ?_) rfl (by kernel_rfl) (by kernel_rfl) (by kernel_rfl) (fun _ _ _ h => h) (Or.inl ⟨by rfl, fun X hX => by (obtain ⟨z0, z1, z2, z3, z4, z5⟩ := hX; go_simp <;> with_reducible rfl)⟩) hHeld ?_
        go_simp
        refine wpAnyH_take (i := 13) (v := ?_) rfl (by kernel_rfl) (by kernel_rfl) (by kernel_rfl) (fun _ _ _ h => h) (Or.inl ⟨by rfl, fun X hX => by (obtain ⟨z0, z1, z2, z3, z4, z5⟩ := hX; go_simp <;> with_reducible rfl)⟩) hHeld ?_
        go_simp
        refine wpAnyH_take (i := 14) (v := ?_) rfl (by kernel_rfl) (by kernel_rfl) (by kernel_rfl) (fun _ _ _ h => h) (Or.inl ⟨by rfl, fun X hX => by (obtain ⟨z0, z1, z2, z3, z4, z5⟩ := hX; go_simp <;> with_reducible rfl)⟩) hHeld ?_
        go_simp
        refine wpAnyH_take (i := 15) (v := ?_) rfl (by kernel_rfl) (by kernel_rfl) (by kernel_rfl) (fun _ _ _ h => h) (Or.inl ⟨by rfl, fun X hX => by (obtain ⟨z0, z1, z2, z3, z4, z5⟩ := hX; go_simp <;> with_reducible rfl)⟩) hHeld ?_
        go_simp
        refine wpAnyH_take (i := 16) (v := ?_) rfl (by kernel_rfl) (by kernel_rfl) (by kernel_rfl) (fun _ _ _ h => h) (Or.inl ⟨by rfl, fun X hX => by (obtain ⟨z0, z1, z2, z3, z4, z5⟩ := hX; go_simp <;> with_reducible rfl)⟩) hHeld ?_
        go_simp
        refine wpAnyH_take (i := 17) (v := ?_) rfl (by kernel_rfl) (by kernel_rfl) (by kernel_rfl) (fun _ _ _ h => h) (Or.inl ⟨by rfl, fun X hX => by (obtain ⟨z0, z1, z2, z3, z4, z5⟩ := hX; go_simp <;> with_reducible rfl)⟩) hHeld ?_
        go_simp
        refine wpAnyH_take (i := 18) (v := ?_) rfl (by kernel_rfl) (by kernel_rfl) (by kernel_rfl) (fun _ _ _ h => h) (Or.inl ⟨by rfl, fun X hX => by (obtain ⟨z0, z1, z2, z3, z4, z5⟩ := hX; go_simp <;> with_reducible rfl)⟩) hHeld ?_
        go_simp
        refine wpAnyH_take (i := 19) (v := ?_) rfl (by kernel_rfl) (by kernel_rfl) (by kernel_rfl) (fun _ _ _ h => h) (Or.inl ⟨by rfl, fun X hX => by (obtain ⟨z0, z1, z2, z3, z4, z5⟩ := hX; go_simp <;> with_reducible rfl)⟩) hHeld ?_
        go_simp
        refine wpAnyH_take (i := 20) (v := ?_) rfl (by kernel_rfl) (by kernel_rfl) (by kernel_rfl) (fun _ _ _ h => h) (Or.inl ⟨by rfl, fun X hX => by (obtain ⟨z0, z1, z2, z3, z4, z5⟩ := hX; go_simp <;> with_reducible rfl)⟩) hHeld ?_
        go_simp
        refine wpAnyH_take (i := 21) (v := ?_) rfl (by kernel_rfl) (by kernel_rfl) (by kernel_rfl) (fun _ _ _ h => h) (Or.inl ⟨by rfl, fun X hX => by (obtain ⟨z0, z1, z2, z3, z4, z5⟩ := hX; go_simp <;> with_reducible rfl)⟩) hHeld ?_
        go_simp
        refine wpAnyH_take (i := 22) (v := ?_) rfl (by kernel_rfl) (by kernel_rfl) (by kernel_rfl) (fun _ _ _ h => h) (Or.inl ⟨by rfl, fun X hX => by (obtain ⟨z0, z1, z2, z3, z4, z5⟩ := hX; go_simp <;> with_reducible rfl)⟩) hHeld ?_
        go_simp
        refine wpAnyH_take (i := 23) (v := ?_) rfl (by kernel_rfl) (by kernel_rfl) (by kernel_rfl) (fun _ _ _ h => h) (Or.inl ⟨by rfl, fun X hX => by (obtain ⟨z0, z1, z2, z3, z4, z5⟩ := hX; go_simp <;> with_reducible rfl)⟩) hHeld ?_
        go_simp
        refine wpAnyH_take (i := 25) (v := ?_) rfl (by kernel_rfl) (by kernel_rfl) (by kernel_rfl) (fun _ _ _ h => h) (Or.inl ⟨by rfl, fun X hX => by (obtain ⟨z0, z1, z2, z3, z4, z5⟩ := hX; go_simp <;> with_reducible rfl)⟩) hHeld ?_
        go_simp
        refine wpAnyH_take (i := 26) (v := ?_) rfl (by kernel_rfl) (by kernel_rfl) (by kernel_rfl) (fun _ _ _ h => h) (Or.inl ⟨by rfl, fun X hX => by (obtain ⟨z0, z1, z2, z3, z4, z5⟩ := hX; go_simp <;> with_reducible rfl)⟩) hHeld ?_
        go_simp
        refine wpAnyH_ready (rs := [24]) (by kernel_rfl) (by simp) ?_
        refine AllReadyH.cons rfl (fun K hK => ?_) AllReadyH.nil
        go_simp
        go_at_call 19; refine (KS.out _ HBD.out).mono ?_; rintro e3 w3 ⟨rfl, rfl⟩
        (try (go_wp2_with fail))
        refine hK.out _ _ hHeld (fun hHeld => ?_)
        clear hK K
        go_simp
        refine wpAnyH_take (i := 27) (v := ?_) rfl (by kernel_rfl) (by kernel_rfl) (by kernel_rfl) (fun _ _ _ h => h) (Or.inl ⟨by rfl, fun X hX => by (obtain ⟨z0, z1, z2, z3, z4, z5⟩ := hX; go_simp <;> with_reducible rfl)⟩) hHeld ?_
        go_simp
        refine wpAnyH_take (i := 28) (v := ?_) rfl (by kernel_rfl) (by kernel_rfl) (by kernel_rfl) (fun _ _ _ h => h) (Or.inl ⟨by rfl, fun X hX => by (obtain ⟨z0, z1, z2, z3, z4, z5⟩ := hX; go_simp <;> with_reducible rfl)⟩) hHeld ?_
        go_simp
        refine wpAnyH_take (i := 29) (v := ?_) rfl (by kernel_rfl) (by kernel_rfl) (by kernel_rfl) (fun _ _ _ h => h) (Or.inl ⟨by rfl, fun X hX => by (obtain ⟨z0, z1, z2, z3, z4, z5⟩ := hX; go_simp <;> with_reducible rfl)⟩) hHeld ?_
        go_simp
        refine wpAnyH_take (i := 30) (v := ?_) rfl (by kernel_rfl) (by kernel_rfl) (by kernel_rfl) (fun _ _ _ h => h) (Or.inl ⟨by rfl, fun X hX => by (obtain ⟨z0, z1, z2, z3, z4, z5⟩ := hX; go_simp <;> with_reducible rfl)⟩) hHeld ?_
        go_simp
        refine wpAnyH_take (i := 31) (v := ?_) rfl (by kernel_rfl) (by kernel_rfl) (by kernel_rfl) (fun _ _ _ h => h) (Or.inl ⟨by rfl, fun X hX => by (obtain ⟨z0, z1, z2, z3, z4, z5⟩ := hX; go_simp <;> with_reducible rfl)⟩) hHeld ?_
        go_simp
        refine wpAnyH_take (i := 33) (v := ?_) rfl (by kernel_rfl) (by kernel_rfl) (by kernel_rfl) (fun _ _ _ h => h) (Or.inl ⟨by rfl, fun X hX => by (obtain ⟨z0, z1, z2, z3, z4, z5⟩ := hX; go_simp <;> with_reducible rfl)⟩) hHeld ?_
        go_simp
        refine wpAnyH_ready (rs := [32]) (by kernel_rfl) (by simp) ?_
        refine AllReadyH.cons rfl (fun K hK => ?_) AllReadyH.nil
        go_simp
        go_at_call 20; refine (KW.out _ HBD.out).mono ?_; rintro e5 w5 ⟨A5, n5, c5, rfl, hv5, hb5⟩; have hu5 := (HBD.out).trans (But.of_below (X := Nob) hb5); have hs5 := HYC.out w5 hu5; have HB5 := Lib.hid hu5; have HV1 := Lib.hid hv5; clear hv5 hb5 hu5
        (try (go_wp2_with fail))
        refine hK.out _ _ hs5 (fun hHeld => ?_)
        clear hK K
        go_simp
        refine wpAnyH_ready (rs := [34]) (by kernel_rfl) (by simp) ?_
        refine AllReadyH.cons rfl (fun K hK => ?_) AllReadyH.nil
        go_simp
        go_at_call 40; refine (KD.out _ HB5.out).mono ?_; rintro e6 w6 ⟨A6, n6, c6, rfl, hv6, hb6⟩; have hu6 := (HB5.out).trans (But.of_below (X := Nob) hb6); have hs6 := HYC.out w6 hu6; have HB6 := Lib.hid hu6; have HV2 := Lib.hid hv6; have HV1b := Lib.hid (HV1.out.below hb6); clear hv6 hb6 hu6
        (try (go_wp2_with fail))
        refine hK.out _ _ hs6 (fun hHeld => ?_)
        clear hK K
        go_simp
        refine wpAnyH_ready (rs := [35]) (by kernel_rfl) (by simp) ?_
        refine AllReadyH.cons rfl (fun K hK => ?_) AllReadyH.nil
        go_simp
        go_at_call 37; refine (same04_sin HV1b.out HV2.out HRL.out).mono ?_; rintro e7 w7 ⟨rfl, hu⟩; have hu7 := (HB6.out).trans hu; have hs7 := HYC.out w7 hu7; have HB7 := Lib.hid hu7; clear hu hu7
        (try (go_wp2_with fail))
        refine hK.out _ _ hs7 (fun hHeld => ?_)
        clear hK K
        go_simp
        refine wpAnyH_take (i := 36) (v := ?_) rfl (by kernel_rfl) (by kernel_rfl) (by kernel_rfl) (fun _ _ _ h => h) (Or.inl ⟨by rfl, fun X hX => by (obtain ⟨z0, z1, z2, z3, z4, z5⟩ := hX; go_simp <;> with_reducible rfl)⟩) hHeld ?_
        go_simp
        refine wpAnyH_take (i := 37) (v := ?_) rfl (by kernel_rfl) (by kernel_rfl) (by kernel_rfl) (fun _ _ _ h => h) (Or.inl ⟨by rfl, fun X hX => by (obtain ⟨z0, z1, z2, z3, z4, z5⟩ := hX; go_simp <;> with_reducible rfl)⟩) hHeld ?_
        go_simp
        refine wpAnyH_done (by kernel_rfl) ?_ _
        obtain ⟨c0, c1', c2', c3', c4', c5'⟩ := HYC.out w7 HB7.out
        have HV7 := Lib.hid (MineN.on HV2'.out (HB7.out.below (B := W2.heap.size) (Nat.le_refl _) fun _ _ q => q.elim))
        have HB8 := Lib.hid (HBL.out.trans (HB7.out.below (B := W.heap.size) HBL.out.size fun _ _ q => q.elim))
        clear HV2' HBL HB5 HB6 HV1 HV2 HV1b hHeld hs5 hs6 hs7 KS KW KD HYC HBD HRL HAL HA HB
        have HN14 : Hid (MineN W.heap.size v (ownedL t ks (i + 1)) w7) := by
          show MineN _ _ _ _
          rw [HSU.out, HIS.out]
          simpa using HV7.out
        go_wp2_with fail
        go_roundw
        case rel => exact ⟨i + 1, _, rfl, by go_num, by have := HLT.out; omega, HN14.out, HB8.out⟩
        case measure => have := HLT.out; simp [intOf]; omega
    · have hin' : i = n := by omega
      have ti : ¬ (i : Int) < (n : Int) := by omega
      have hu0 : But Nob W wr := But.of_below hb
      have K1 : Hid (∀ X, But Nob W X → Calls Try.prog 18 #[.pointer (some ⟨pb, 0, none⟩), .int .i64 (-1)] X fun e w' => e = .returned (.tuple #[.int .i64 0, .bool false]) ∧ X = w') := fun X hX => ownerL_out (HA.out.nob hX) (-1) (by omega)
      have K2 : Hid (∀ X, But Nob W X → Calls Try.prog 18 #[.pointer (some ⟨pb, 0, none⟩), .int .i64 (n : Int)] X fun e w' => e = .returned (.tuple #[.int .i64 0, .bool false]) ∧ X = w') := fun X hX => ownerL_out (HA.out.nob hX) n (by rw [HN.out]; omega)
      have K3 : Hid (Calls Try.prog 23 #[.pointer (some ⟨pb, 0, none⟩), .int .i64 t] wr fun e w' => ∃ v, e = .returned v ∧ MineN wr.heap.size v (ownedL t ks n) w' ∧ Below wr.heap.size wr w') := by
        have := ownedL_any (HA.out.nob hu0) (by rw [HN.out]; omega) t
        rwa [HN.out] at this
      have K4 : Hid (∀ X, But Nob W X → Calls Try.prog 22 #[.pointer (some ⟨pb, 0, none⟩)] X fun e w' => e = .returned (.int .i64 (n : Int)) ∧ X = w') := fun X hX => by
        have := len_any (HA.out.nob hX)
        rwa [HN.out] at this
      have K1' := Lib.hid (K1.out wr hu0); have K2' := Lib.hid (K2.out wr hu0)
      have HU0 := Lib.hid hu0
      have hv9 := HV.out
      rw [hin'] at hv9
      have HV9 := Lib.hid hv9
      have HLL : Hid ((ownedL t ks n).length ≤ 1000000) := by
        have := ownedL_len t ks n
        show _ ≤ _
        omega
      clear hin' hb hu0 hv9 HV HA HB K1 K2
      have tnn : ((n : Int) == (n : Int)) = true := by simp
      go_wp2_with (first
        | (go_at_call 23; (with_reducible refine K3.out.mono ?_); rintro e9 w9 ⟨v9, rfl, hv9, hb9⟩; have HV1 := Lib.hid (MineN.sin (D := fun _ => True) hv9 (fun _ _ => trivial)); have HV2 := Lib.hid (MineN.sin (D := fun _ => True) (MineN.on HV9.out hb9) (fun _ _ => trivial)); have HB9 := Lib.hid (HU0.out.trans (But.of_below (X := Nob) hb9)); clear hv9 hb9)
        | (go_at_call 37; (with_reducible refine (same04_sin HV1.out HV2.out HLL.out).mono ?_); rintro e10 w10 ⟨rfl, hu⟩; have HB10 := Lib.hid (HB9.out.trans hu); clear hu)
        | (go_at_call 22; (with_reducible refine (K4.out _ HB10.out).mono ?_); rintro e11 w11 ⟨rfl, rfl⟩)
        | (go_at_call 18; (with_reducible refine K1'.out.mono ?_); rintro e7 w7 ⟨rfl, rfl⟩)
        | (go_at_call 18; (with_reducible refine K2'.out.mono ?_); rintro e8 w8 ⟨rfl, rfl⟩))
      go_ret
      exact ⟨rfl, HB10.out.below (B := W.heap.size) (Nat.le_refl _) fun _ _ q => q.elim⟩
end
end Go.Proofs.Ytdomgipbadimmaa
