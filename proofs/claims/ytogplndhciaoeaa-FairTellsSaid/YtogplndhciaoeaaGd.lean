/- layer 33 (fair): FairTells' walk. -/
import Derived.Test.YtogplndhciaoeaaGc
import Derived.Test.YtogplndhciaoeaaFl
import Derived.Test.YtogplndhciaoeaaFh
import Derived.Test.YtogplndhciaoeaaFo
import Derived.Deep.Cut
namespace Go.Proofs.Ytogplndhciaoeaa
open Go.RowKit
set_option maxRecDepth 100000

theorem ownN_on {w w' : World} {B : Nat} {v : Value} {l : List Int} (h : OwnN B w v l) (hb : Below w.heap.size w w') : OwnN B w' v l :=
  h.kept (row := none) ⟨hb.os, hb.tape, hb.output, hb.size, fun j hj _ => hb.block j hj⟩ (by cases v.ownBlock <;> simp)
set_option maxHeartbeats 4000000 in
theorem same4_any (A A2 : Option Addr) (l : List Int) (n c c2 : Nat) (hn : l.length = n) (hl : n ≤ 1000000) (w : World) (h : RowN w.heap.size w A l) (h2 : RowN w.heap.size w A2 l) :
    Calls Try.prog 19 #[.slice A n c, .slice A2 n c2] w fun e w' => e = .returned (.bool true) ∧ Below w.heap.size w w' := by
  have H := Lib.hid h; have H2 := Lib.hid h2; have HN := Lib.hid hn
  clear h h2 hn
  have t0 : ((n : Int) != (n : Int)) = false := by simp
  go_enter Try.func19, Try.ntmps19
  go_wp2_with fail
  go_loopw [13] (fun iv wr => ∃ k : Nat, iv = .int .i64 k ∧ k ≤ n ∧ Below w.heap.size w wr) (fun iv _ => n - (intOf iv).toNat)
  case atStart => exact ⟨0, rfl, Nat.zero_le _, Below.refl _ _⟩
  case round =>
    obtain ⟨k, rfl, hk, hb⟩ := hrel
    have HB := Lib.hid hb
    by_cases hlt : k < n
    · obtain ⟨b, o, rfl, -, c1⟩ := (H.out.below hb) k (by rw [HN.out]; exact hlt)
      obtain ⟨b', o', rfl, -, c2⟩ := (H2.out.below hb) k (by rw [HN.out]; exact hlt)
      generalize l[k]'(by rw [HN.out]; exact hlt) = z at *
      have k0 : (0 : Int) ≤ (k : Int) := by omega
      have k1 : (k : Int) < (n : Int) := by omega
      have t1 : (z != z) = false := by simp
      clear hb
      go_upto_region 6 with fail
      go_region
      go_wp2_with fail
      go_roundw
      case rel => exact ⟨k + 1, by go_num, by omega, HB.out.os, HB.out.tape, HB.out.output, HB.out.size, HB.out.block⟩
      case measure => simp [intOf]; omega
    · obtain rfl : k = n := by omega
      have tk : ¬ (k : Int) < (k : Int) := by omega
      clear hb
      go_wp2_with fail
      go_ret
      exact ⟨rfl, HB.out⟩
/-- do no two differ by more than one? as the law reckons it, one by one. -/
def evP (s : List Int) : Bool := decide (∀ x ∈ s, ∀ y ∈ s, x - y ≤ 1)
def evN (n : Int) (s : List Int) : Bool := s.all fun m => decide (m - n ≤ 1) && decide (n - m ≤ 1)
theorem evP_snoc (s : List Int) (n : Int) : evP (s ++ [n]) = (evP s && evN n s) := by
  rw [Bool.eq_iff_iff]
  unfold evP evN
  simp only [decide_eq_true_eq, Bool.and_eq_true, List.all_eq_true, List.mem_append, List.mem_singleton]
  constructor
  · intro h
    exact ⟨fun x hx y hy => h x (.inl hx) y (.inl hy), fun m hm => ⟨h m (.inl hm) n (.inr rfl), h n (.inr rfl) m (.inl hm)⟩⟩
  · rintro ⟨h1, h2⟩ x hx y hy
    rcases hx with hx | rfl <;> rcases hy with hy | rfl
    · exact h1 x hx y hy
    · exact (h2 x hx).1
    · exact (h2 y hy).2
    · omega
theorem evN_snoc (s : List Int) (n m : Int) : evN n (s ++ [m]) = (evN n s && (decide (m - n ≤ 1) && decide (n - m ≤ 1))) := by unfold evN; rw [List.all_append]; simp
open Classical in
theorem evP_even (s : List Int) : decide (evenL s) = evP s := by
  rw [Bool.eq_iff_iff]
  unfold evP
  simp only [decide_eq_true_eq]
  exact evenL_iff s
open Classical in
set_option maxHeartbeats 16000000 in
theorem tells33_any (A A2 : Option Addr) (L : List En) (n cap : Nat) (cpus : List Int) (m cap2 : Nat) (hn : L.length = n) (hm : cpus.length = m) (hc : n ≤ cap) (hc2 : m ≤ cap2) (hf : ∀ x ∈ L, FitE x) (hf2 : ∀ x ∈ cpus, W64 x) (w : World) (hR : RowsE w.heap.size w A L) (hN : RowN w.heap.size w A2 cpus) :
    Calls Try.prog 4 #[.slice A n cap, .slice A2 m cap2] w fun e w' => e = .returned (.bool true) ∧ Below w.heap.size w w' := by
  obtain ⟨n', hn'⟩ : ∃ n', n' = min n 40 := ⟨_, rfl⟩
  obtain ⟨m', hm'⟩ : ∃ m', m' = min m 6 := ⟨_, rfl⟩
  have q1 : (n ≤ 40 ∧ n' = n) ∨ (40 < n ∧ n' = 40) := by omega
  have q2 : (m ≤ 6 ∧ m' = m) ∨ (6 < m ∧ m' = 6) := by omega
  have HL : Hid ((L.take n').length = n') := by show _ = _; rw [List.length_take]; omega
  have HM : Hid ((cpus.take m').length = m') := by show _ = _; rw [List.length_take]; omega
  have HR := Lib.hid (hR.take n'); have HN := Lib.hid (hN.take m')
  have HF : Hid (∀ x ∈ L.take n', W64 x.a) := fun x hx => (hf x (List.mem_of_mem_take hx)).2.1
  have HF2 : Hid (∀ x ∈ cpus.take m', W64 x) := fun x hx => hf2 x (List.mem_of_mem_take hx)
  have hn40 : n' ≤ 40 := by omega
  have hm6 : m' ≤ 6 := by omega
  have hcn : n' ≤ cap := by omega
  clear hn hm hR hN hn' hm' hf hf2
  generalize L.take n' = L' at *
  generalize cpus.take m' = cs at *
  go_enter Try.func4, Try.ntmps4
  go_upto_region 1 with fail
  go_cut [0, 1] (fun s t wx => s = .slice A n' cap ∧ t = .slice A2 m' cap2 ∧ Below w.heap.size w wx)
  case rest =>
    obtain ⟨rfl, rfl, hb⟩ := hcut
    have HB0 := Lib.hid hb
    clear hb q1 q2 hc hc2
    go_wp2_with fail
    go_loopw [5, 6, 26] (fun sv ev iv wr => ∃ k : Nat, OwnN w.heap.size wr sv (stepsL L' (cs.take k)) ∧ ev = .bool (evP (stepsL L' (cs.take k))) ∧ iv = .int .i64 k ∧ k ≤ m' ∧ Below w.heap.size w wr) (fun _ _ iv _ => m' - (intOf iv).toNat)
    case atStart => exact ⟨0, World.ownsRow_nil _ _ _ _, rfl, rfl, Nat.zero_le _, HB0.out⟩
    case round =>
      obtain ⟨k, ho, rfl, rfl, hk, hb⟩ := hrel
      have HO := Lib.hid ho; have HB := Lib.hid hb
      clear ho hb
      obtain ⟨w0, hw0⟩ : ∃ x, x = wr := ⟨_, rfl⟩
      subst hw0
      by_cases hlt : k < m'
      · obtain ⟨b, o, rfl, hbn, hcc⟩ := (HN.out.below HB.out) k (by rw [HM.out]; exact hlt)
        have hkl : k < cs.length := by rw [HM.out]; exact hlt
        obtain ⟨c, hx⟩ : ∃ c, cs[k] = c := ⟨_, rfl⟩
        rw [hx] at hcc
        have HX : Hid (stepsL L' (cs.take (k + 1)) = stepsL L' (cs.take k) ++ [((L'.countP (isS c) : Nat) : Int)]) := by show _ = _; rw [List.take_succ_eq_append_getElem hkl, hx]; unfold stepsL; rw [List.map_append]; rfl
        have HLS : Hid ((stepsL L' (cs.take k)).length = k) := by show _ = _; unfold stepsL; rw [List.length_map, List.length_take]; omega
        have HSB := Lib.hid (stepsL_bound L' (cs.take k))
        rw [HL.out] at HSB
        clear hx hkl
        generalize stepsL L' (cs.take k) = S at *
        have k0 : (0 : Int) ≤ (k : Int) := by omega
        have k1 : (k : Int) < (m' : Int) := by omega
        go_wp2_with fail
        clear hcc
        go_loopw [9, 32] (fun nv iv wr => ∃ t : Nat, nv = .int .i64 ((L'.take t).countP (isS c) : Nat) ∧ iv = .int .i64 t ∧ t ≤ n' ∧ Below w0.heap.size w0 wr) (fun _ iv _ => n' - (intOf iv).toNat)
        case atStart => exact ⟨0, rfl, rfl, Nat.zero_le _, Below.refl _ _⟩
        case round =>
          obtain ⟨t, rfl, rfl, ht, hb⟩ := hrel
          have HB2 := Lib.hid hb
          clear hb
          have HCT : Hid ((L'.take t).countP (isS c) ≤ 40) := by show _ ≤ _; have := List.countP_le_length (p := isS c) (l := L'.take t); rw [List.length_take] at this; omega
          by_cases htn : t < n'
          · obtain ⟨x, hx⟩ : ∃ x, L'[t]? = some x := ⟨_, List.getElem?_eq_getElem (by rw [HL.out]; omega)⟩
            obtain ⟨b', o', rfl, -, hr⟩ := ((HR.out.below HB.out).below (HB2.out.mono HB.out.size)) t x hx
            have HRG := Lib.hid hr
            have HID : Hid ((Try.prog.info? 34).map (·.size) = some (clE x).length) := by show _ = _; rw [infoE5, clE_len]
            have t0 : (0 : Int) ≤ (t : Int) := by omega
            have t1 : (t : Int) < (n' : Int) := by omega
            have HST : Hid ((L'.take (t + 1)).countP (isS c) = (L'.take t).countP (isS c) + if isS c x then 1 else 0) := by
              show _ = _
              have htl : t < L'.length := (List.getElem?_eq_some_iff.1 hx).1
              rw [List.take_succ_eq_append_getElem htl, (List.getElem?_eq_some_iff.1 hx).2, countS_snoc]
            clear hr hx
            generalize (L'.take t).countP (isS c) = ct at *
            go_upto_region 11 with (first
              | (with_reducible (show wpList _ _ _ _ _ _); refine wpList_load_mid rfl 34 (.tmp 34) rfl b' (o' + t * 5) rfl (clE x) _ HRG.out Try.underlying34 rfl HID.out ?_)
              | (with_reducible (show wpList _ _ _ _ _ _); refine stE rfl (.tmp 11) (.tmp 35) rfl wr.heap.size rfl rfl _ (Blk.new wr _ _) rfl ?_))
            have hbx : Blk ((wr.alloc (.cells #[.int .i64 0, .int .i64 0, .int .i64 0, .int .i64 0, .int .u64 0] 34)).setRow wr.heap.size (clE x).toArray) wr.heap.size 34 (clE x).toArray := setRow_heap _ _ _ _ _ _ (Blk.new wr _ _)
            have hbw : Below wr.heap.size wr ((wr.alloc (.cells #[.int .i64 0, .int .i64 0, .int .i64 0, .int .i64 0, .int .u64 0] 34)).setRow wr.heap.size (clE x).toArray) := (((But.of_below (X := fun k => wr.heap.size ≤ k) (Below.refl _ _)).alloc _).row _ _ (.inl (Nat.le_refl _))).below (Nat.le_refl _) fun k _ z => z
            generalize (wr.alloc (.cells #[.int .i64 0, .int .i64 0, .int .i64 0, .int .i64 0, .int .u64 0] 34)).setRow wr.heap.size (clE x).toArray = V at *
            have HBV := Lib.hid (HB2.out.trans (hbw.mono HB2.out.size))
            have HBK := Lib.hid hbx
            clear hbw HRG HID hbx
            generalize wr.heap.size = gg at *
            have HIS := Lib.hid (is_any x c V)
            have HRX : Hid (V.rangeAt gg 0 (clE x)) := fun j u hu => by rw [Nat.zero_add, HBK.out.cell]; simpa using hu
            have HID2 : Hid ((Try.prog.info? 34).map (·.size) = some (clE x).length) := by show _ = _; rw [infoE5, clE_len]
            have hct := HCT.out
            generalize isS c x = sx at *
            cases sx with
            | true =>
              go_wp2_with (first
                | (with_reducible (show wpList _ _ _ _ _ _); refine wpList_load_mid rfl 34 (.tmp 11) rfl gg 0 rfl (clE x) _ HRX.out Try.underlying34 rfl HID2.out ?_)
                | (go_at_call 14; (with_reducible refine HIS.out.mono ?_); rintro e w3 ⟨rfl, hb3⟩; have HB3 := Lib.hid hb3; clear hb3))
              go_roundw
              case rel => exact ⟨t + 1, by rw [HST.out]; go_num, by go_num, by omega, HBV.out.trans (HB3.out.mono HBV.out.size)⟩
              case measure => simp [intOf]; omega
            | false =>
              go_wp2_with (first
                | (with_reducible (show wpList _ _ _ _ _ _); refine wpList_load_mid rfl 34 (.tmp 11) rfl gg 0 rfl (clE x) _ HRX.out Try.underlying34 rfl HID2.out ?_)
                | (go_at_call 14; (with_reducible refine HIS.out.mono ?_); rintro e w3 ⟨rfl, hb3⟩; have HB3 := Lib.hid hb3; clear hb3))
              go_roundw
              case rel => exact ⟨t + 1, by rw [HST.out]; go_num, by go_num, by omega, HBV.out.trans (HB3.out.mono HBV.out.size)⟩
              case measure => simp [intOf]; omega
          · obtain rfl : t = n' := by omega
            have HTT : Hid (L'.take t = L') := by show _ = _; rw [← HL.out, List.take_length]
            rw [HTT.out] at HCT ⊢
            obtain ⟨w1, hw1⟩ : ∃ x, x = wr := ⟨_, rfl⟩
            subst hw1
            have HO1 := Lib.hid (ownN_on HO.out HB2.out)
            obtain ⟨As, cps, rfl, -, hrs⟩ := ownN_row HO1.out
            have HRS := Lib.hid hrs
            rw [HLS.out]
            clear hrs
            have HEV := Lib.hid (evP_snoc S ((L'.countP (isS c) : Nat) : Int))
            have hct := HCT.out
            generalize L'.countP (isS c) = ct at *
            generalize evP S = es at *
            go_wp2_with fail
            go_loopw [6, 44] (fun ev iv wr => ∃ j : Nat, ev = .bool (es && evN (ct : Int) (S.take j)) ∧ iv = .int .i64 j ∧ j ≤ k ∧ w1 = wr) (fun _ iv _ => k - (intOf iv).toNat)
            case atStart => exact ⟨0, by simp [evN], rfl, Nat.zero_le _, rfl⟩
            case round =>
              obtain ⟨j, rfl, rfl, hj, rfl⟩ := hrel
              by_cases hjk : j < k
              · obtain ⟨bs, os, rfl, -, hcs⟩ := HRS.out j (by rw [HLS.out]; exact hjk)
                have hjl : j < S.length := by rw [HLS.out]; exact hjk
                obtain ⟨z, hz⟩ : ∃ z, S[j] = z := ⟨_, rfl⟩
                rw [hz] at hcs
                have HZ : Hid (evN (ct : Int) (S.take (j + 1)) = (evN (ct : Int) (S.take j) && (decide (z - (ct : Int) ≤ 1) && decide ((ct : Int) - z ≤ 1)))) := by show _ = _; rw [List.take_succ_eq_append_getElem hjl, hz, evN_snoc]
                have hzb := HSB.out z (by rw [← hz]; exact List.getElem_mem _)
                clear hz hjl
                have j0 : (0 : Int) ≤ (j : Int) := by omega
                have j1 : (j : Int) < (k : Int) := by omega
                have w1z : wrap64 (z - (ct : Int)) = z - (ct : Int) := by unfold wrap64; omega
                have w2z : wrap64 ((ct : Int) - z) = (ct : Int) - z := by unfold wrap64; omega
                generalize evN (ct : Int) (S.take j) = en at *
                generalize hd1 : decide (z - (ct : Int) ≤ 1) = d1 at *
                generalize hd2 : decide ((ct : Int) - z ≤ 1) = d2 at *
                cases es <;> cases en <;> cases d1 <;> cases d2
                all_goals
                  go_wp2_with fail
                  go_roundw
                  case rel => exact ⟨j + 1, by rw [HZ.out]; rfl, by go_num, by omega, trivial⟩
                  case measure => simp [intOf]; omega
              · obtain rfl : j = k := by omega
                have HTS : Hid (S.take j = S) := by show _ = _; rw [← HLS.out, List.take_length]
                have HEV2 : Hid (evP (S ++ [(ct : Int)]) = (es && evN (ct : Int) (S.take j))) := by show _ = _; rw [HTS.out]; exact HEV.out
                generalize evN (ct : Int) (S.take j) = en at *
                have HOV : Hid (OwnN w.heap.size w1 (.slice As j cps) S) := by
                  have := HO1.out
                  rw [show Value.slice As S.length cps = Value.slice As j cps by rw [HLS.out]] at this
                  exact this
                have HBW1 : Hid (Below w.heap.size w w1) := HB.out.trans (HB2.out.mono HB.out.size)
                have HLL : Hid (S.length ≤ 100000) := by show _ ≤ _; rw [HLS.out]; omega
                obtain ⟨g, hg⟩ : ∃ g, gapL L' c = g := ⟨_, rfl⟩
                have HG1 : Hid (∀ W, Below w.heap.size w W → Calls Try.prog 15 #[.slice A t cap, .int .i64 c] W fun e W' => e = .returned (.int .i64 (g : Int)) ∧ Below W.heap.size W W') := fun W h => by
                  rw [← hg]; exact gap_any A L' t cap c HL.out (by omega) W ((HR.out.below h).mono h.size)
                have HG2 : Hid (∀ W, Below w.heap.size w W → Calls Try.prog 16 #[.slice A t cap, .int .i64 c] W fun e W' => e = .returned (.int .i64 (g : Int)) ∧ Below W.heap.size W W') := fun W h => by
                  rw [← hg]; exact refgap_any A L' t cap c HL.out (by omega) W ((HR.out.below h).mono h.size)
                clear hg
                have g0 : ((g : Int) != (g : Int)) = false := by simp
                go_wp2_with (first
                  | (with_reducible (show wpList _ _ _ _ _ _); refine app_n rfl (.tmp 62) (.tmp 64) rfl w.heap.size (.slice As j cps) S rfl (HOV.out.alloc _) w1.heap.size 1 (ct : Int) rfl ((Blk.new w1 _ _).cell 0) HLL.out (by have := HBW1.out.size; simp; omega) ?_; intro v5 w5 ho5 hg5; have HO5 := Lib.hid ho5; have HBW5 := Lib.hid ((HBW1.out.alloc HBW1.out.size _).grown hg5 (by have := HBW1.out.size; simp; omega) (fun r e => (HOV.out.lt r e).1)); clear ho5 hg5)
                  | (go_at_call 15; (with_reducible refine (HG1.out _ HBW5.out).mono ?_); rintro e w6 ⟨rfl, hb6⟩; have HB6 := Lib.hid hb6; have HBW6 := Lib.hid (HBW5.out.trans (hb6.mono HBW5.out.size)); clear hb6)
                  | (go_at_call 16; (with_reducible refine (HG2.out _ HBW6.out).mono ?_); rintro e w7 ⟨rfl, hb7⟩; have HB7 := Lib.hid hb7; have HBW7 := Lib.hid (HBW6.out.trans (hb7.mono HBW6.out.size)); clear hb7))
                go_roundw
                case rel => exact ⟨j + 1, by rw [HX.out]; exact ownN_on (ownN_on HO5.out HB6.out) HB7.out, by rw [HX.out, HEV2.out], by go_num, by omega, HBW7.out⟩
                case measure => simp [intOf]; omega
      · obtain rfl : k = m' := by omega
        have HTC : Hid (cs.take k = cs) := by show _ = _; rw [← HM.out, List.take_length]
        rw [HTC.out] at HO ⊢
        obtain ⟨As, cps, rfl, -, hrs⟩ := ownN_row HO.out
        have HRS := Lib.hid hrs
        clear hrs
        have HLS : Hid ((stepsL L' cs).length = k) := by show _ = _; unfold stepsL; rw [List.length_map]; exact HM.out
        have HEP := Lib.hid (evP_even (stepsL L' cs))
        have HW1 : Hid (∀ W, Below w.heap.size w W → Calls Try.prog 17 #[.slice A n' cap, .slice A2 k cap2] W fun e W' => e = .returned (.int .i64 ((gapM L' cs : Nat) + 1 : Int)) ∧ Below W.heap.size W W') := fun W h =>
          window_any A A2 L' n' cap cs k cap2 HL.out (by omega) HM.out (by omega) W ((HR.out.below h).mono h.size) ((HN.out.below h).mono h.size)
        have HW2 : Hid (∀ W, Below w.heap.size w W → Calls Try.prog 18 #[.slice A n' cap, .slice A2 k cap2] W fun e W' => e = .returned (.int .i64 ((gapM L' cs : Nat) + 1 : Int)) ∧ Below W.heap.size W W') := fun W h =>
          refwindow_any A A2 L' n' cap cs k cap2 HL.out (by omega) HM.out (by omega) hcn W ((HR.out.below h).mono h.size) ((HN.out.below h).mono h.size)
        have HS1 : Hid (∀ W, Below w.heap.size w W → Calls Try.prog 20 #[.slice A n' cap, .slice A2 k cap2] W fun e W' => ∃ A5 c5, e = .returned (.slice A5 k c5) ∧ RowN W'.heap.size W' A5 (stepsL L' cs) ∧ Below W.heap.size W W') := fun W h => by
          refine (steps_any A A2 L' n' cap cs k cap2 HL.out (by omega) HM.out (by omega) HF.out HF2.out W ((HR.out.below h).mono h.size) ((HN.out.below h).mono h.size)).mono ?_
          rintro e W' ⟨v, rfl, ho, hb⟩
          obtain ⟨A5, c5, rfl, -, hr⟩ := ownN_row ho
          exact ⟨A5, c5, by rw [HLS.out], hr, hb⟩
        have HE1 : Hid (∀ W, Below w.heap.size w W → Calls Try.prog 21 #[.slice A n' cap, .slice A2 k cap2] W fun e W' => e = .returned (.bool (evP (stepsL L' cs))) ∧ Below W.heap.size W W') := fun W h => by
          rw [← HEP.out]
          exact even_any A A2 L' n' cap cs k cap2 HL.out (by omega) HM.out (by omega) HF.out HF2.out W ((HR.out.below h).mono h.size) ((HN.out.below h).mono h.size)
        have HSM : Hid (∀ W A5 c5, RowN W.heap.size W A5 (stepsL L' cs) → Below w0.heap.size w0 W → Calls Try.prog 19 #[.slice A5 k c5, .slice As k cps] W fun e W' => e = .returned (.bool true) ∧ Below W.heap.size W W') := fun W A5 c5 h1 h =>
          same4_any A5 As (stepsL L' cs) k c5 cps HLS.out (by omega) W h1 ((HRS.out.below h).mono h.size)
        have HLV := Lib.hid lives33_any
        rw [HLS.out]
        generalize evP (stepsL L' cs) = eb at *
        generalize ((gapM L' cs : Nat) + 1 : Int) = gw at *
        have x0 : (gw == gw) = true := by simp
        have x1 : (eb == eb) = true := by simp
        go_wp2_with (first
          | (go_at_call 17; (with_reducible refine (HW1.out _ HB.out).mono ?_); rintro e w1 ⟨rfl, hb1⟩; have HY1 := Lib.hid hb1; have HZ1 := Lib.hid (HB.out.trans (hb1.mono HB.out.size)); clear hb1)
          | (go_at_call 18; (with_reducible refine (HW2.out _ HZ1.out).mono ?_); rintro e w2 ⟨rfl, hb2⟩; have HY2 := Lib.hid (HY1.out.trans (hb2.mono HY1.out.size)); have HZ2 := Lib.hid (HZ1.out.trans (hb2.mono HZ1.out.size)); clear hb2)
          | (go_at_call 20; (with_reducible refine (HS1.out _ HZ2.out).mono ?_); rintro e w3 ⟨A5, c5, rfl, hr5, hb3⟩; have HR5 := Lib.hid hr5; have HY3 := Lib.hid (HY2.out.trans (hb3.mono HY2.out.size)); have HZ3 := Lib.hid (HZ2.out.trans (hb3.mono HZ2.out.size)); clear hb3 hr5)
          | (go_at_call 19; (with_reducible refine (HSM.out _ _ _ HR5.out HY3.out).mono ?_); rintro e w4 ⟨rfl, hb4⟩; have HZ4 := Lib.hid (HZ3.out.trans (hb4.mono HZ3.out.size)); clear hb4)
          | (go_at_call 21; (with_reducible refine (HE1.out _ HZ4.out).mono ?_); rintro e w5 ⟨rfl, hb5⟩; have HZ5 := Lib.hid (HZ4.out.trans (hb5.mono HZ4.out.size)); clear hb5)
          | (go_at_call 13; (with_reducible refine (HLV.out _).mono ?_); rintro e w6 ⟨rfl, hb6⟩; have HZ6 := Lib.hid (HZ5.out.trans (hb6.mono HZ5.out.size)); clear hb6))
        go_ret
        exact ⟨rfl, HZ6.out⟩
  case first =>
    have HD := Lib.hid (Below.refl w.heap.size w)
    by_cases hn6 : n ≤ 40
    · obtain rfl : n = n' := by omega
      have t0 : ¬ (40 : Int) < (n : Int) := by omega
      have t1 : (n : Int) ≤ 40 := by omega
      by_cases hm6 : m ≤ 6
      · obtain rfl : m = m' := by omega
        clear q1 q2
        have s0 : ¬ (6 : Int) < (m : Int) := by omega
        have s1 : (m : Int) ≤ 6 := by omega
        go_region
        go_wp2_with fail
        go_meet
        exact ⟨rfl, rfl, HD.out.drew⟩
      · obtain rfl : m' = 6 := by omega
        clear q1 q2
        have s0 : (6 : Int) < (m : Int) := by omega
        have s2 : (6 : Int) ≤ (cap2 : Int) := by omega
        have s3 : 6 ≤ cap2 := by omega
        go_region
        go_wp2_with fail
        go_meet
        exact ⟨rfl, rfl, HD.out.drew⟩
    · obtain rfl : n' = 40 := by omega
      have t0 : (40 : Int) < (n : Int) := by omega
      have t2 : (40 : Int) ≤ (cap : Int) := by omega
      have t3 : 40 ≤ cap := by omega
      by_cases hm6 : m ≤ 6
      · obtain rfl : m = m' := by omega
        clear q1 q2
        have s0 : ¬ (6 : Int) < (m : Int) := by omega
        have s1 : (m : Int) ≤ 6 := by omega
        go_region
        go_wp2_with fail
        go_meet
        exact ⟨rfl, rfl, HD.out.drew⟩
      · obtain rfl : m' = 6 := by omega
        clear q1 q2
        have s0 : (6 : Int) < (m : Int) := by omega
        have s2 : (6 : Int) ≤ (cap2 : Int) := by omega
        have s3 : 6 ≤ cap2 := by omega
        go_region
        go_wp2_with fail
        go_meet
        exact ⟨rfl, rfl, HD.out.drew⟩
end Go.Proofs.Ytogplndhciaoeaa
