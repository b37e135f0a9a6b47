/- layer 33 (fair): the document's Window. -/
import Derived.Test.YtogplndhciaoeaaGa
import Derived.Test.YtogplndhciaoeaaGb
namespace Go.Proofs.Ytogplndhciaoeaa
open Go.RowKit
set_option maxRecDepth 100000

theorem allC_snoc (l : List En) (n f : Nat) (cs : List Int) (c : Int) : allC l n f (cs ++ [c]) = (allC l n f cs && hasW l n f c) := by unfold allC; rw [List.all_append]; simp
theorem allF_succ (l : List En) (n : Nat) (cs : List Int) (f : Nat) : allF l n cs (f + 1) = (allF l n cs f && allC l n f cs) := by unfold allF; rw [List.range_succ, List.all_append]; simp
theorem winT_succ (l : List En) (n f t : Nat) (c : Int) (x : En) (ht : t < n) (hx : l[f + t]? = some x) : (((l.drop f).take n).take (t + 1)).any (isS c) = ((((l.drop f).take n).take t).any (isS c) || isS c x) := by
  have hl : f + t < l.length := (List.getElem?_eq_some_iff.1 hx).1
  have h1 : t < ((l.drop f).take n).length := by simp; omega
  have h2 : ((l.drop f).take n)[t] = x := by
    have := (List.getElem?_eq_some_iff.1 hx).2
    simp [this]
  rw [List.take_succ_eq_append_getElem h1, h2, List.any_append]; simp
set_option maxHeartbeats 16000000 in
theorem refwindow_any (A A2 : Option Addr) (L : List En) (n cap : Nat) (cs : List Int) (m cap2 : Nat) (hn : L.length = n) (hle : n ≤ 1000) (hm : cs.length = m) (hle2 : m ≤ 1000) (hc : n ≤ cap) (w : World) (hR : RowsE w.heap.size w A L) (hN : RowN w.heap.size w A2 cs) :
    Calls Try.prog 18 #[.slice A n cap, .slice A2 m cap2] w fun e w' => e = .returned (.int .i64 ((gapM L cs : Nat) + 1 : Int)) ∧ Below w.heap.size w w' := by
  have HR := Lib.hid hR; have HN := Lib.hid hN; have HL := Lib.hid hn; have HM := Lib.hid hm
  have HAF : Hid (∀ v, 1 ≤ v → v ≤ n → (allF L v cs (n - v + 1) = true ↔ gapM L cs < v)) := fun v h1 h2 => by have := allF_iff L cs v h1 (by omega); rw [hn] at this; exact this
  have HGL : Hid (gapM L cs ≤ n) := by have := gapM_le L cs; rw [hn] at this; exact this
  clear hR hN hn hm
  go_enter Try.func18, Try.ntmps18
  go_wp2_with fail
  go_loopw [5] (fun iv wr => ∃ v : Nat, iv = .int .i64 v ∧ 1 ≤ v ∧ v ≤ n + 1 ∧ (∀ u, 1 ≤ u → u < v → allF L u cs (n - u + 1) = false) ∧ Below w.heap.size w wr) (fun iv _ => n + 1 - (intOf iv).toNat)
  case atStart => exact ⟨1, rfl, Nat.le_refl _, by omega, fun u h1 h2 => by omega, Below.refl _ _⟩
  case round =>
    obtain ⟨v, rfl, hv1, hvn, hall, hb⟩ := hrel
    have HALL := Lib.hid hall; have HB := Lib.hid hb
    clear hall hb
    obtain ⟨w0, hw0⟩ : ∃ x, x = wr := ⟨_, rfl⟩
    subst hw0
    by_cases hlt : v ≤ n
    · have v1 : (v : Int) ≤ (n : Int) := by omega
      obtain ⟨b, o, rfl, -, -⟩ := HR.out 0 (L[0]'(by rw [HL.out]; omega)) (List.getElem?_eq_getElem _)
      go_wp2_with fail
      go_loopw [6, 7] (fun av fv wr => ∃ f : Nat, av = .bool (allF L v cs f) ∧ fv = .int .i64 f ∧ f + v ≤ n + 1 ∧ Below w.heap.size w wr) (fun _ fv _ => n + 1 - (intOf fv).toNat)
      case atStart => exact ⟨0, by simp [allF], rfl, by omega, HB.out⟩
      case round =>
        obtain ⟨f, rfl, rfl, hf, hb⟩ := hrel
        have HB2 := Lib.hid hb
        clear hb
        obtain ⟨w1, hw1⟩ : ∃ x, x = wr := ⟨_, rfl⟩
        subst hw1
        by_cases hfl : f + v ≤ n
        · have f1 : (f : Int) + (v : Int) ≤ (n : Int) := by omega
          have f2 : wrap64 ((f : Int) + (v : Int)) = (f : Int) + (v : Int) := by unfold wrap64; omega
          go_wp2_with fail
          clear f2
          have HAS := Lib.hid (allF_succ L v cs f)
          generalize allF L v cs f = bf at *
          go_loopw [6, 29] (fun av iv wr => ∃ k : Nat, av = .bool (bf && allC L v f (cs.take k)) ∧ iv = .int .i64 k ∧ k ≤ m ∧ Below w.heap.size w wr) (fun _ iv _ => m - (intOf iv).toNat)
          case atStart => exact ⟨0, by simp [allC], rfl, Nat.zero_le _, HB2.out⟩
          case round =>
            obtain ⟨k, rfl, rfl, hk, hb⟩ := hrel
            have HB3 := Lib.hid hb
            clear hb
            obtain ⟨w2, hw2⟩ : ∃ x, x = wr := ⟨_, rfl⟩
            subst hw2
            by_cases hkm : k < m
            · obtain ⟨b2, o2, rfl, -, hcc⟩ := (HN.out.below HB3.out) k (by rw [HM.out]; exact hkm)
              have hkl : k < cs.length := by rw [HM.out]; exact hkm
              obtain ⟨c, hcx⟩ : ∃ c, cs[k] = c := ⟨_, rfl⟩
              rw [hcx] at hcc
              have HTK : Hid (allC L v f (cs.take (k + 1)) = (allC L v f (cs.take k) && hasW L v f c)) := by show _ = _; rw [List.take_succ_eq_append_getElem hkl, hcx, allC_snoc]
              clear hcx hkl
              have k0 : (0 : Int) ≤ (k : Int) := by omega
              have k1 : (k : Int) < (m : Int) := by omega
              have f2 : wrap64 ((f : Int) + (v : Int)) = (f : Int) + (v : Int) := by unfold wrap64; omega
              have f3 : (f : Int) + (v : Int) ≤ (cap : Int) := by omega
              have f4 : (0 : Int) ≤ (f : Int) := by omega
              have f5 : (f : Int) ≤ (f : Int) + (v : Int) := by omega
              go_wp2_with fail
              clear f2 f3 f4 f5 hcc
              rw [show f + v - f = v by omega]
              go_loopw [10, 40] (fun sv iv wr => ∃ t : Nat, sv = .bool ((((L.drop f).take v).take t).any (isS c)) ∧ iv = .int .i64 t ∧ t ≤ v ∧ Below w.heap.size w wr) (fun _ iv _ => v - (intOf iv).toNat)
              case atStart => exact ⟨0, by simp, rfl, Nat.zero_le _, HB3.out⟩
              case round =>
                obtain ⟨t, rfl, rfl, ht, hb⟩ := hrel
                have HB4 := Lib.hid hb
                clear hb
                by_cases htv : t < v
                · obtain ⟨x, hx⟩ : ∃ x, L[f + t]? = some x := ⟨_, List.getElem?_eq_getElem (by rw [HL.out]; omega)⟩
                  obtain ⟨b', o', e', -, hr⟩ := (HR.out.below HB4.out) (f + t) x hx
                  obtain ⟨rfl, rfl⟩ : b = b' ∧ o = o' := by injection e' with e1; injection e1 with x y z; exact ⟨x, y⟩
                  have HRG : Hid (wr.rangeAt b (o + f * 5 + t * 5) (clE x)) := by
                    show wr.rangeAt _ _ _
                    rw [show o + f * 5 + t * 5 = o + (f + t) * 5 by rw [Nat.add_mul]; omega]; exact hr
                  have HID : Hid ((Try.prog.info? 34).map (·.size) = some (clE x).length) := by show _ = _; rw [infoE5, clE_len]
                  have t0 : (0 : Int) ≤ (t : Int) := by omega
                  have t1 : (t : Int) < (v : Int) := by omega
                  have HAN := Lib.hid (winT_succ L v f t c x htv hx)
                  clear hr hx e'
                  go_upto_region 15 with (first
                    | (with_reducible (show wpList _ _ _ _ _ _); refine wpList_load_mid rfl 34 (.tmp 42) rfl b (o + f * 5 + t * 5) rfl (clE x) _ HRG.out Try.underlying34 rfl HID.out ?_)
                    | (with_reducible (show wpList _ _ _ _ _ _); refine stE rfl (.tmp 12) (.tmp 43) rfl wr.heap.size rfl rfl _ (Blk.new wr _ _) rfl ?_))
                  have hbx : Blk ((wr.alloc (.cells #[.int .i64 0, .int .i64 0, .int .i64 0, .int .i64 0, .int .u64 0] 34)).setRow wr.heap.size (clE x).toArray) wr.heap.size 34 (clE x).toArray := setRow_heap _ _ _ _ _ _ (Blk.new wr _ _)
                  have hbw : Below wr.heap.size wr ((wr.alloc (.cells #[.int .i64 0, .int .i64 0, .int .i64 0, .int .i64 0, .int .u64 0] 34)).setRow wr.heap.size (clE x).toArray) := (((But.of_below (X := fun k => wr.heap.size ≤ k) (Below.refl _ _)).alloc _).row _ _ (.inl (Nat.le_refl _))).below (Nat.le_refl _) fun k _ z => z
                  generalize (wr.alloc (.cells #[.int .i64 0, .int .i64 0, .int .i64 0, .int .i64 0, .int .u64 0] 34)).setRow wr.heap.size (clE x).toArray = V at *
                  have HBV := Lib.hid (HB4.out.trans (hbw.mono HB4.out.size))
                  have HBK := Lib.hid hbx
                  clear hbw HRG HID hbx
                  generalize wr.heap.size = gg at *
                  obtain ⟨xk, xa, xb, xc, xd⟩ := x
                  have HIS : Hid (Calls Try.prog 14 #[.agg #[.int .i64 xk, .int .i64 xa, .int .i64 xb, .int .i64 xc, .int .u64 xd], .int .i64 c] V fun e w' => e = .returned (.bool (isS c ⟨xk, xa, xb, xc, xd⟩)) ∧ Below V.heap.size V w') := is_any ⟨xk, xa, xb, xc, xd⟩ c V
                  have e0 : V.cell? ⟨gg, 0, none⟩ = some (.int .i64 xk) := HBK.out.cell 0
                  have e1 : V.cell? ⟨gg, 1, none⟩ = some (.int .i64 xa) := HBK.out.cell 1
                  have e2 : V.cell? ⟨gg, 2, none⟩ = some (.int .i64 xb) := HBK.out.cell 2
                  have e3 : V.cell? ⟨gg, 3, none⟩ = some (.int .i64 xc) := HBK.out.cell 3
                  have e4 : V.cell? ⟨gg, 4, none⟩ = some (.int .u64 xd) := HBK.out.cell 4
                  generalize ((((L.drop f).take v).take t).any (isS c)) = sb at *
                  generalize isS c ⟨xk, xa, xb, xc, xd⟩ = sx at *
                  cases sb with
                  | true =>
                    go_wp2_with fail
                    go_roundw
                    case rel => exact ⟨t + 1, by rw [HAN.out]; rfl, by go_num, by omega, HBV.out⟩
                    case measure => simp [intOf]; omega
                  | false =>
                    go_wp2_with (go_at_call 14; (with_reducible refine HIS.out.mono ?_); rintro e w3 ⟨rfl, hb3⟩; have HB5 := Lib.hid hb3; clear hb3)
                    go_roundw
                    case rel => exact ⟨t + 1, by rw [HAN.out]; rfl, by go_num, by omega, HBV.out.trans (HB5.out.mono HBV.out.size)⟩
                    case measure => simp [intOf]; omega
                · obtain rfl : t = v := by omega
                  have HAN : Hid ((((L.drop f).take t).take t).any (isS c) = hasW L t f c) := by show _ = _; unfold hasW; rw [List.take_take, Nat.min_self]
                  rw [HAN.out]
                  generalize hasW L t f c = hw at *
                  generalize allC L t f (cs.take k) = ac at *
                  cases bf <;> cases ac <;> cases hw
                  all_goals
                    go_wp2_with fail
                    go_roundw
                    case rel => exact ⟨k + 1, by rw [HTK.out]; rfl, by go_num, by omega, HB4.out⟩
                    case measure => simp [intOf]; omega
            · obtain rfl : k = m := by omega
              have HT : Hid (cs.take k = cs) := by show _ = _; rw [← HM.out, List.take_length]
              rw [HT.out, ← HAS.out]
              have f6 : wrap64 ((f : Int) + 1) = (f : Int) + 1 := by unfold wrap64; omega
              go_wp2_with fail
              go_roundw
              case rel => exact ⟨f + 1, rfl, by go_num, by omega, HB3.out⟩
              case measure => simp [intOf]; omega
        · have hfe : f = n - v + 1 := by omega
          have f1 : ¬ (f : Int) + (v : Int) ≤ (n : Int) := by omega
          have f2 : wrap64 ((f : Int) + (v : Int)) = (f : Int) + (v : Int) := by unfold wrap64; omega
          have HA := Lib.hid (HAF.out v hv1 hlt)
          rw [← hfe] at HA
          cases hbv : allF L v cs f with
          | true =>
            have HG : Hid (gapM L cs < v) := HA.out.1 hbv
            have HE : Hid ((gapM L cs : Int) + 1 = (v : Int)) := by
              show _ = _
              have h1 := HG.out
              by_cases h2 : gapM L cs + 1 < v
              · have h3 := HALL.out (gapM L cs + 1) (by omega) h2
                rw [(HAF.out (gapM L cs + 1) (by omega) (by omega)).2 (by omega)] at h3
                cases h3
              · omega
            clear hbv hfe
            go_wp2_with fail
            go_ret
            rw [HE.out]; exact ⟨rfl, HB2.out⟩
          | false =>
            have HF2 : Hid (allF L v cs (n - v + 1) = false) := by show _ = _; rw [← hfe]; exact hbv
            clear hbv hfe
            go_wp2_with fail
            go_roundw
            case rel => exact ⟨v + 1, by go_num, by omega, by omega, fun u h1 h2 => by
              by_cases c : u = v
              · subst c; exact HF2.out
              · exact HALL.out u h1 (by omega), HB2.out⟩
            case measure => simp [intOf]; omega
    · obtain rfl : v = n + 1 := by omega
      have v1 : ¬ ((n + 1 : Nat) : Int) ≤ (n : Int) := by omega
      have HE : Hid (gapM L cs = n) := by
        show _ = _
        have h1 := HGL.out
        by_cases h2 : gapM L cs < n
        · have h3 := HALL.out n (by omega) (by omega)
          rw [(HAF.out n (by omega) (Nat.le_refl _)).2 h2] at h3
          cases h3
        · omega
      go_wp2_with fail
      go_ret
      rw [HE.out]
      refine ⟨?_, HB.out⟩
      first | rfl | (rw [show wrap64 ((n : Int) + 1) = (n : Int) + 1 by unfold wrap64; omega]; rfl)
end Go.Proofs.Ytogplndhciaoeaa
