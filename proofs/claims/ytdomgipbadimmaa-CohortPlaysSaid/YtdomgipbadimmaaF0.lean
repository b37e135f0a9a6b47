/- The document's Give, any lock; its Waiting (layer 14). -/
import Derived.Test.YtdomgipbadimmaaE9
namespace Go.Proofs.Ytdomgipbadimmaa
open Go.RowKit
set_option maxRecDepth 100000

section
variable {D : Nat → Prop} {c : Coh} {E : List Ent} {wv rv : Value} {W w' : World} {t : Int}
theorem isOf_own (hi : isOfC c t = true) : c.own = t ∧ c.own ≠ -1 := by
  unfold isOfC at hi
  simp only [Bool.and_eq_true, Bool.not_eq_true', beq_eq_false_iff_ne, ne_eq, beq_iff_eq] at hi
  exact ⟨hi.2, fun e => hi.1 (hi.2.symm.trans e)⟩
theorem oth_or (hg : goesC c = true) (h1 : ¬ (0 ≤ ownI c ∧ (c.pas < 3 ∨ othI c < 0))) : 0 ≤ othI c := by
  unfold goesC at hg
  simp only [Bool.or_eq_true, decide_eq_true_eq] at hg
  by_cases q : 0 ≤ othI c
  · exact q
  · exact absurd ⟨hg.resolve_right q, .inr (by omega)⟩ h1
theorem RelC.give (hr : RelC c E) : RelC (giveC c) (dropW (giveC c).soc E) := by
  by_cases hE : E.length = 0
  · have he : E = [] := List.eq_nil_of_length_eq_zero hE
    have hg : goesC c = false := by rw [hr.none, hE]; rfl
    rw [give_none hg, he]; exact relC_z
  · have hg : goesC c = true := by rw [hr.none, show (E.length == 0) = false from beq_false_of_ne hE]; rfl
    by_cases h1 : 0 ≤ ownI c ∧ (c.pas < 3 ∨ othI c < 0)
    · obtain ⟨x, xs, _, a, _, b, _⟩ := hr.stay h1.1 h1.2
      rw [b]; exact a
    · obtain ⟨zt, x, xs, _, _, _, a, _, b, _⟩ := hr.leave h1 (oth_or hg h1)
      rw [b]; exact a
theorem dgive_any (t : Int) (h : DLk D c E wv rv W) (hr : RelC c E) (hE : E.length ≤ 900) (hR : (rndL c).length ≤ 900) (hp : c.pas ≤ 900) : Calls Try.prog 42 #[.agg (dcells c wv rv).toArray, .int .i64 t] W (DGiveP D c E t W) := by
  cases hi : isOfC c t with
  | false => exact dgive_no t h hi
  | true =>
    obtain ⟨hot, hn⟩ := isOf_own hi
    by_cases hE0 : E.length = 0
    · have he : E = [] := List.eq_nil_of_length_eq_zero hE0
      have hg : goesC c = false := by rw [hr.none, hE0]; rfl
      subst he
      exact dgive_free t h hi hg hot hn
    · have hg : goesC c = true := by rw [hr.none, show (E.length == 0) = false from beq_false_of_ne hE0]; rfl
      by_cases h1 : 0 ≤ ownI c ∧ (c.pas < 3 ∨ othI c < 0)
      · exact dgive_stay t h hr hi hot hn h1.1 h1.2 (by omega) hE hR ⟨hr.ok.pas, hp⟩
      · exact dgive_leave t h hr hi hot hn h1 (oth_or hg h1) (by omega) hE hR
theorem wof_len (s : Int) (E : List Ent) : (wof s E).length ≤ E.length := by
  induction E with
  | nil => exact Nat.le_refl _
  | cons e l ih => unfold wof; split <;> simp only [List.length_cons] <;> omega
theorem flat_len (E : List Ent) : ∀ l : List Int, (l.flatMap fun s => wof s E).length ≤ l.length * E.length
  | [] => by simp
  | s :: l => by
    rw [List.flatMap_cons, List.length_append, List.length_cons, Nat.succ_mul]
    have := flat_len E l
    have := wof_len s E
    omega
set_option maxHeartbeats 16000000 in
theorem dwait_any (h : DLk D c E wv rv W) (hE : E.length ≤ 90) (hR : (rndL c).length ≤ 90) : Calls Try.prog 40 #[.agg (dcells c wv rv).toArray] W fun e w' => ∃ v, e = .returned v ∧ MineN W.heap.size v ((rndL c).flatMap fun s => wof s E) w' ∧ Below W.heap.size W w' := by
  obtain ⟨A1, c1, rfl, hc1, -, hent⟩ := h.ent
  obtain ⟨A2, c2, rfl, hc2, -, hnum⟩ := h.rnd.num
  have HEN := Lib.hid hent; have HNU := Lib.hid hnum
  obtain ⟨n, hn⟩ : ∃ n, E.length = n := ⟨_, rfl⟩
  obtain ⟨m, hm⟩ : ∃ m, (rndL c).length = m := ⟨_, rfl⟩
  have HN := Lib.hid hn; have HM := Lib.hid hm
  unfold dcells
  rw [hn] at hE hc1 ⊢; rw [hm] at hR hc2 ⊢
  generalize heldD c = b0 at *
  generalize ownD c = o at *
  generalize c.soc = b2 at *
  generalize c.pas = b3 at *
  clear h hent hnum hn hm
  show Calls _ _ #[.agg #[.bool b0, .int .i64 o, .int .i64 b2, .int .i64 b3, .slice A1 n c1, .slice A2 m c2]] _ _
  go_enter Try.func40, Try.ntmps40
  go_wp2_with fail
  have hX1 := Blk.new W 93 #[.bool b0, .int .i64 o, .int .i64 b2, .int .i64 b3, .slice A1 n c1, .slice A2 m c2]
  have hb1 : Below W.heap.size W (W.alloc (.cells #[.bool b0, .int .i64 o, .int .i64 b2, .int .i64 b3, .slice A1 n c1, .slice A2 m c2] 93)) := (Below.refl _ _).alloc (Nat.le_refl _) _
  generalize W.alloc (.cells #[.bool b0, .int .i64 o, .int .i64 b2, .int .i64 b3, .slice A1 n c1, .slice A2 m c2] 93) = W1 at *
  obtain ⟨xb, hxb⟩ : ∃ xb, W.heap.size = xb := ⟨_, rfl⟩
  have HX1 := Lib.hid hX1; have HB1 := Lib.hid hb1
  rw [hxb] at HX1 ⊢
  have HXB := Lib.hid hxb
  clear hX1 hb1 hxb
  go_loopw [3, 11] (fun ov iv wr => ∃ (k : Nat) (v : Value), v = ov ∧ iv = .int .i64 k ∧ k ≤ m ∧ MineN W1.heap.size v (((rndL c).take k).flatMap fun s => wof s E) wr ∧ Below W1.heap.size W1 wr) (fun _ iv _ => m - (intOf iv).toNat)
  case atStart => exact ⟨0, _, rfl, rfl, Nat.zero_le _, mineN_nil _ _, Below.refl _ _⟩
  case round =>
    obtain ⟨k, v, rfl, rfl, hk, hv, hu⟩ := hrel
    have HV := Lib.hid hv; have HU := Lib.hid hu
    clear hv
    by_cases hlt : k < m
    · obtain ⟨s, hs⟩ : ∃ s, (rndL c)[k]? = some s := ⟨_, List.getElem?_eq_getElem (by rw [HM.out]; exact hlt)⟩
      obtain ⟨g, rfl, l0, f0⟩ := HNU.out k s hs
      have g0 := ((HB1.out.trans (hu.mono HB1.out.size)).cell (p := ⟨g, k, none⟩) l0).trans f0
      have x4 := (HX1.out.below hu HX1.out.lt).cell 4
      simp only [List.getElem?_toArray, List.getElem?_cons_zero, List.getElem?_cons_succ] at x4
      have HLT := Lib.hid hlt
      have k0 : (0 : Int) ≤ (k : Int) := by omega
      have k1 : (k : Int) < (m : Int) := by omega
      have k2 : (k : Int) < (c2 : Int) := by omega
      have HFL : Hid ((((rndL c).take (k + 1)).flatMap fun s => wof s E) = (((rndL c).take k).flatMap fun s => wof s E) ++ wof s E) := by
        show _ = _
        rw [List.take_add_one, hs, List.flatMap_append]; simp
      have HBL : Hid ((((rndL c).take k).flatMap fun s => wof s E).length ≤ 8100) := by
        show _ ≤ _
        have h1 := flat_len E ((rndL c).take k)
        rw [List.length_take, HM.out, HN.out] at h1
        have h2 : min k m * n ≤ 90 * 90 := Nat.mul_le_mul (by omega) hE
        omega
      clear l0 f0 hs hu hlt
      go_wp2_with fail
      go_loopw [3, 18] (fun ov iv wr2 => ∃ (j : Nat) (v2 : Value), v2 = ov ∧ iv = .int .i64 j ∧ j ≤ n ∧ MineN W1.heap.size v2 ((((rndL c).take k).flatMap fun s => wof s E) ++ wof s (E.take j)) wr2 ∧ Below W1.heap.size W1 wr2) (fun _ iv _ => n - (intOf iv).toNat)
      case atStart => exact ⟨0, _, rfl, rfl, Nat.zero_le _, by simpa [wof] using HV.out, HU.out⟩
      case round =>
        obtain ⟨j, v2, rfl, rfl, hj, hv2, hu2⟩ := hrel
        have HV2 := Lib.hid hv2; have HU2 := Lib.hid hu2
        clear hv2 HV HU
        by_cases hjl : j < n
        · obtain ⟨x, hx⟩ : ∃ x, E[j]? = some x := ⟨_, List.getElem?_eq_getElem (by rw [HN.out]; exact hjl)⟩
          obtain ⟨g', rfl, l0, f0, f1⟩ := HEN.out j x hx
          have y0 := ((HB1.out.trans (hu2.mono HB1.out.size)).cell (p := ⟨g', j * 2, none⟩) l0).trans f0
          have y1 := ((HB1.out.trans (hu2.mono HB1.out.size)).cell (p := ⟨g', j * 2 + 1, none⟩) l0).trans f1
          have HJL := Lib.hid hjl
          have j0 : (0 : Int) ≤ (j : Int) := by omega
          have j1 : (j : Int) < (n : Int) := by omega
          have j2 : (j : Int) < (c1 : Int) := by omega
          have hws := wof_succ (z := s) hx
          have hwl : (wof s (E.take j)).length ≤ 90 := by
            have := wof_len s (E.take j)
            rw [List.length_take] at this; omega
          have HWL := Lib.hid hwl
          have hal : Below wr.heap.size wr (wr.alloc (.cells #[.int .i64 x.tsk, .int .i64 x.soc] 62)) := (Below.refl _ _).alloc (Nat.le_refl _) _
          have HV3 := Lib.hid (MineN.on HV2.out hal)
          have HU3 := Lib.hid (HU2.out.trans (hal.mono HU2.out.size))
          have hbx := Blk.new wr 62 #[.int .i64 x.tsk, .int .i64 x.soc]
          have d0 := hbx.cell 0; have d1 := hbx.cell 1
          simp only [List.getElem?_toArray, List.getElem?_cons_zero, List.getElem?_cons_succ] at d0 d1
          clear l0 f0 f1 hx hu2 hjl hal hbx hwl
          go_upto_region 8 with fail
          clear y0 y1
          generalize wr.alloc (.cells #[.int .i64 x.tsk, .int .i64 x.soc] 62) = W3 at *
          generalize wr.heap.size = wb at *
          by_cases q : x.soc = s
          · have tq : (x.soc == s) = true := by simpa using q
            rw [if_pos q] at hws
            have HWS := Lib.hid hws
            have hb7 : Below W3.heap.size W3 (W3.alloc (.cells #[.int .i64 x.tsk] 3)) := (Below.refl _ _).alloc (Nat.le_refl _) _
            have HO12 := Lib.hid (MineN.on HV3.out hb7)
            have HC12 := Lib.hid (HU3.out.trans (hb7.mono HU3.out.size))
            have hbs := (Blk.new W3 3 #[.int .i64 x.tsk]).cell 0
            simp only [List.getElem?_toArray, List.getElem?_cons_zero] at hbs
            have HBS := Lib.hid hbs
            clear q hws hb7 hbs HV3 HU3 HV2 HU2
            go_wp2_with (at_builtin; refine haltC ?_)
            refine Lib.hid ?_
            refine app_num rfl (.tmp 26) (.tmp 29) rfl W1.heap.size v2 ((((rndL c).take k).flatMap fun s => wof s E) ++ wof s (E.take j)) rfl HO12.out _ x.tsk rfl HBS.out (by rw [List.length_append]; have := HBL.out; have := HWL.out; omega) HC12.out.size ?_
            intro v13 w13 own13 gr13 bk13
            have hc13 : Below W1.heap.size W1 w13 := HC12.out.trans ((Below.refl _ _).grown gr13 HC12.out.size fun k hk => (World.ownsRow.lt HO12.out k hk).1)
            have HN14 : Hid (MineN W1.heap.size v13 ((((rndL c).take k).flatMap fun s => wof s E) ++ wof s (E.take (j + 1))) w13) := by
              show MineN _ _ _ _
              rw [HWS.out, ← List.append_assoc]; exact own13
            have HU14 := Lib.hid hc13
            clear own13 gr13 bk13 hc13 HO12 HC12 HBS
            go_wp2_with fail
            go_roundw
            case rel => exact ⟨j + 1, _, rfl, by go_num, by have := HJL.out; omega, HN14.out, HU14.out⟩
            case measure => have := HJL.out; simp [intOf]; omega
          · have tq : (x.soc == s) = false := by simpa using q
            rw [if_neg q, List.append_nil] at hws
            have HWS := Lib.hid hws
            clear q hws HV2 HU2 d0
            go_wp2_with fail
            go_roundw
            case rel => exact ⟨j + 1, _, rfl, by go_num, by have := HJL.out; omega, by rw [HWS.out]; exact HV3.out, HU3.out⟩
            case measure => have := HJL.out; simp [intOf]; omega
        · have hjn : j = n := by omega
          have tj : ¬ (j : Int) < (n : Int) := by omega
          have hte : E.take j = E := List.take_of_length_le (by rw [HN.out]; omega)
          have HV4 : Hid (MineN W1.heap.size v2 (((rndL c).take (k + 1)).flatMap fun s => wof s E) wr) := by
            show MineN _ _ _ _
            have := HV2.out
            rw [hte] at this
            rw [HFL.out]; exact this
          clear hjn hte hu2 HV2
          go_wp2_with fail
          go_roundw
          case rel => exact ⟨k + 1, _, rfl, by go_num, by have := HLT.out; omega, HV4.out, HU2.out⟩
          case measure => have := HLT.out; simp [intOf]; omega
    · have hkm : k = m := by omega
      have tk : ¬ (k : Int) < (m : Int) := by omega
      have hte : (rndL c).take k = rndL c := List.take_of_length_le (by rw [HM.out]; omega)
      have hv9 := HV.out
      rw [hte] at hv9
      have HV9 : Hid (MineN W.heap.size v ((rndL c).flatMap fun s => wof s E) wr) := ⟨hv9.1, hv9.2.imp id fun ⟨g, cap, cur, a, b, rest⟩ => ⟨g, cap, cur, a, Nat.le_trans HB1.out.size b, rest⟩⟩
      have HB9 := Lib.hid (HB1.out.trans (hu.mono HB1.out.size))
      clear hu hv9 hte hkm HV HU
      go_wp2_with fail
      go_ret
      exact ⟨_, rfl, HV9.out, HB9.out⟩
end
end Go.Proofs.Ytdomgipbadimmaa
