/- layer 33 (fair): the greatest and the least of a row; Steps; Even. -/
import Derived.Test.YtogplndhciaoeaaFg
namespace Go.Proofs.Ytogplndhciaoeaa
open Go.RowKit Go.Maps
set_option maxRecDepth 100000

def maxI : List Int → Int
  | [] => 0
  | x :: r => r.foldl max x
def minI : List Int → Int
  | [] => 0
  | x :: r => r.foldl min x
theorem maxI_take (l : List Int) (k : Nat) (hk : k < l.length) (h0 : 0 < k) : maxI (l.take (k + 1)) = max (maxI (l.take k)) l[k] := by
  match l, k, h0, hk with
  | x :: r, k + 1, _, hk =>
    show (r.take (k + 1)).foldl max x = max ((r.take k).foldl max x) (r[k]'(by simpa using hk))
    rw [List.take_succ_eq_append_getElem (by simpa using hk), List.foldl_append]; rfl
theorem minI_take (l : List Int) (k : Nat) (hk : k < l.length) (h0 : 0 < k) : minI (l.take (k + 1)) = min (minI (l.take k)) l[k] := by
  match l, k, h0, hk with
  | x :: r, k + 1, _, hk =>
    show (r.take (k + 1)).foldl min x = min ((r.take k).foldl min x) (r[k]'(by simpa using hk))
    rw [List.take_succ_eq_append_getElem (by simpa using hk), List.foldl_append]; rfl
set_option maxHeartbeats 4000000 in
theorem max_any (A : Option Addr) (l : List Int) (n cap B : Nat) (hn : l.length = n) (h0 : 0 < n) (hl : n ≤ 1000000) (w : World) (hR : RowN B w A l) :
    Calls Try.prog 35 #[.slice A n cap] w fun e w' => e = .returned (.int .i64 (maxI l)) ∧ w = w' := by
  have HN := Lib.hid hn; have HR := Lib.hid hR
  clear hn hR
  go_enter Try.func35, Try.ntmps35
  have n1 : ¬ (n : Int) < 1 := by omega
  have n2 : (0 : Int) < (n : Int) := by omega
  obtain ⟨b, o, rfl, -, hc⟩ := HR.out 0 (by rw [HN.out]; exact h0)
  obtain ⟨x, hx⟩ : ∃ x, l[0]'(by rw [HN.out]; exact h0) = x := ⟨_, rfl⟩
  rw [hx, Nat.add_zero] at hc
  have HX : Hid (maxI (l.take 1) = x) := by
    show _ = _
    rw [← hx]
    match l, HN.out with
    | y :: r, _ => rfl
    | [], h => simp at h; omega
  clear hx
  go_wp2_with fail
  clear hc n1 n2
  go_loopw [3, 4] (fun mv iv wr => ∃ k : Nat, mv = .int .i64 (maxI (l.take k)) ∧ iv = .int .i64 k ∧ 1 ≤ k ∧ k ≤ n ∧ w = wr) (fun _ iv _ => n - (intOf iv).toNat)
  case atStart => exact ⟨1, by rw [HX.out], rfl, Nat.le_refl _, by omega, rfl⟩
  case round =>
    obtain ⟨k, rfl, rfl, h1, hk, rfl⟩ := hrel
    obtain ⟨m, hm⟩ : ∃ m, maxI (l.take k) = m := ⟨_, rfl⟩
    rw [hm]
    have HM := Lib.hid hm
    clear hm
    by_cases hlt : k < n
    · obtain ⟨b2, o2, e2, -, hc⟩ := HR.out k (by rw [HN.out]; exact hlt)
      obtain ⟨rfl, rfl⟩ : b = b2 ∧ o = o2 := by injection e2 with e1; injection e1 with x y z; exact ⟨x, y⟩
      clear e2
      have HT : Hid (maxI (l.take (k + 1)) = max m (l[k]'(by rw [HN.out]; exact hlt))) := by show _ = _; rw [maxI_take l k (by rw [HN.out]; exact hlt) (by omega), HM.out]
      generalize l[k]'(by rw [HN.out]; exact hlt) = y at *
      have k0 : (0 : Int) ≤ (k : Int) := by omega
      have k1 : (k : Int) < (n : Int) := by omega
      by_cases hmy : m < y
      · have HE : Hid (maxI (l.take (k + 1)) = y) := by show _ = _; rw [HT.out]; omega
        go_wp2_with fail
        go_roundw
        case rel => exact ⟨k + 1, by rw [HE.out], by go_num, by omega, by omega, trivial⟩
        case measure => simp [intOf]; omega
      · have HE : Hid (maxI (l.take (k + 1)) = m) := by show _ = _; rw [HT.out]; omega
        go_wp2_with fail
        go_roundw
        case rel => exact ⟨k + 1, by rw [HE.out], by go_num, by omega, by omega, trivial⟩
        case measure => simp [intOf]; omega
    · obtain rfl : k = n := by omega
      have HE : Hid (maxI l = m) := by show _ = _; rw [← HM.out, ← HN.out, List.take_length]
      go_wp2_with fail
      go_ret
      rw [HE.out]; exact ⟨rfl, rfl⟩
set_option maxHeartbeats 4000000 in
theorem min_any (A : Option Addr) (l : List Int) (n cap B : Nat) (hn : l.length = n) (h0 : 0 < n) (hl : n ≤ 1000000) (w : World) (hR : RowN B w A l) :
    Calls Try.prog 36 #[.slice A n cap] w fun e w' => e = .returned (.int .i64 (minI l)) ∧ w = w' := by
  have HN := Lib.hid hn; have HR := Lib.hid hR
  clear hn hR
  go_enter Try.func36, Try.ntmps36
  have n1 : ¬ (n : Int) < 1 := by omega
  have n2 : (0 : Int) < (n : Int) := by omega
  obtain ⟨b, o, rfl, -, hc⟩ := HR.out 0 (by rw [HN.out]; exact h0)
  obtain ⟨x, hx⟩ : ∃ x, l[0]'(by rw [HN.out]; exact h0) = x := ⟨_, rfl⟩
  rw [hx, Nat.add_zero] at hc
  have HX : Hid (minI (l.take 1) = x) := by
    show _ = _
    rw [← hx]
    match l, HN.out with
    | y :: r, _ => rfl
    | [], h => simp at h; omega
  clear hx
  go_wp2_with fail
  clear hc n1 n2
  go_loopw [3, 4] (fun mv iv wr => ∃ k : Nat, mv = .int .i64 (minI (l.take k)) ∧ iv = .int .i64 k ∧ 1 ≤ k ∧ k ≤ n ∧ w = wr) (fun _ iv _ => n - (intOf iv).toNat)
  case atStart => exact ⟨1, by rw [HX.out], rfl, Nat.le_refl _, by omega, rfl⟩
  case round =>
    obtain ⟨k, rfl, rfl, h1, hk, rfl⟩ := hrel
    obtain ⟨m, hm⟩ : ∃ m, minI (l.take k) = m := ⟨_, rfl⟩
    rw [hm]
    have HM := Lib.hid hm
    clear hm
    by_cases hlt : k < n
    · obtain ⟨b2, o2, e2, -, hc⟩ := HR.out k (by rw [HN.out]; exact hlt)
      obtain ⟨rfl, rfl⟩ : b = b2 ∧ o = o2 := by injection e2 with e1; injection e1 with x y z; exact ⟨x, y⟩
      clear e2
      have HT : Hid (minI (l.take (k + 1)) = min m (l[k]'(by rw [HN.out]; exact hlt))) := by show _ = _; rw [minI_take l k (by rw [HN.out]; exact hlt) (by omega), HM.out]
      generalize l[k]'(by rw [HN.out]; exact hlt) = y at *
      have k0 : (0 : Int) ≤ (k : Int) := by omega
      have k1 : (k : Int) < (n : Int) := by omega
      by_cases hmy : y < m
      · have HE : Hid (minI (l.take (k + 1)) = y) := by show _ = _; rw [HT.out]; omega
        go_wp2_with fail
        go_roundw
        case rel => exact ⟨k + 1, by rw [HE.out], by go_num, by omega, by omega, trivial⟩
        case measure => simp [intOf]; omega
      · have HE : Hid (minI (l.take (k + 1)) = m) := by show _ = _; rw [HT.out]; omega
        go_wp2_with fail
        go_roundw
        case rel => exact ⟨k + 1, by rw [HE.out], by go_num, by omega, by omega, trivial⟩
        case measure => simp [intOf]; omega
    · obtain rfl : k = n := by omega
      have HE : Hid (minI l = m) := by show _ = _; rw [← HM.out, ← HN.out, List.take_length]
      go_wp2_with fail
      go_ret
      rw [HE.out]; exact ⟨rfl, rfl⟩

/-- how many steps each of the workers has, as the map holds them. -/
def cM (l : List En) : Int → Option Int := fun x => if l.countP (isS x) = 0 then none else some ((l.countP (isS x) : Nat) : Int)
theorem cM_get (l : List En) (x : Int) : (cM l x).getD 0 = ((l.countP (isS x) : Nat) : Int) := by
  unfold cM
  by_cases h : l.countP (isS x) = 0
  · rw [if_pos h, h]; rfl
  · rw [if_neg h]; rfl
theorem cM_nil : cM [] = fun _ => none := by funext x; simp [cM]
theorem countS_snoc (l : List En) (e : En) (x : Int) : (l ++ [e]).countP (isS x) = l.countP (isS x) + if isS x e then 1 else 0 := by rw [List.countP_append, List.countP_singleton]
theorem cM_skip (l : List En) (e : En) (h : e.k ≠ 1) : cM (l ++ [e]) = cM l := by
  funext x
  have : isS x e = false := by unfold isS; simp [h]
  unfold cM; rw [countS_snoc, this]; simp
theorem cM_step (l : List En) (e : En) (h : e.k = 1) : (fun y => if y = e.a then some (((l.countP (isS e.a) : Nat) : Int) + 1) else cM l y) = cM (l ++ [e]) := by
  funext y
  unfold cM
  rw [countS_snoc]
  by_cases c : y = e.a
  · subst c
    have : isS e.a e = true := by unfold isS; simp [h]
    rw [if_pos rfl, this]; simp
  · have : isS y e = false := by unfold isS; simp [Ne.symm c]
    rw [if_neg c, this]; simp
/-- how many steps each of the workers has. -/
def stepsL (L : List En) (cpus : List Int) : List Int := cpus.map fun c => ((L.countP (isS c) : Nat) : Int)
theorem run_mk0 (w : World) : (Instr.makeMap 59 none).run Try.prog w = .ok (.map (some w.heap.size)) (w.alloc (.map #[] 0)) := by
  simp [Instr.makeMap, Result.andThen]
set_option maxHeartbeats 8000000 in
theorem steps_any (A A2 : Option Addr) (L : List En) (n cap : Nat) (cpus : List Int) (m cap2 : Nat) (hn : L.length = n) (hl : n ≤ 900) (hm : cpus.length = m) (hm2 : m ≤ 900) (hf : ∀ x ∈ L, W64 x.a) (hf2 : ∀ x ∈ cpus, W64 x) (w : World) (hR : RowsE w.heap.size w A L) (hN : RowN w.heap.size w A2 cpus) :
    Calls Try.prog 20 #[.slice A n cap, .slice A2 m cap2] w fun e w' => ∃ v, e = .returned v ∧ OwnN (w.heap.size + 1) w' v (stepsL L cpus) ∧ Below w.heap.size w w' := by
  have HR := Lib.hid hR; have HN := Lib.hid hN; have HL := Lib.hid hn; have HM := Lib.hid hm; have HF := Lib.hid hf; have HF2 := Lib.hid hf2
  have HCN : Hid (∀ k x, (L.take k).countP (isS x) ≤ n) := fun k x => by have := List.countP_le_length (p := isS x) (l := L.take k); rw [List.length_take, hn] at this; omega
  clear hR hN hn hm hf hf2
  have hmk := run_mk0 w
  have hm0 := mapI_made 3 w
  have hbl : Below w.heap.size w (w.alloc (.map #[] 0)) := (Below.refl _ _).alloc (Nat.le_refl _) _
  have hsz : (w.alloc (.map #[] 0)).heap.size = w.heap.size + 1 := by simp
  go_enter Try.func20, Try.ntmps20
  go_upto_region 2 with fail
  clear hmk
  generalize w.alloc (.map #[] 0) = V at *
  obtain ⟨B, hB⟩ : ∃ B, w.heap.size = B := ⟨_, rfl⟩
  have HBB := Lib.hid hB
  rw [hB] at hm0 hbl hsz HR HN ⊢
  clear hB
  have HM0 := Lib.hid hm0; have HBL := Lib.hid hbl; have HSZ := Lib.hid hsz
  clear hm0 hbl hsz
  go_wp2_with fail
  go_loopw [14] (fun iv wr => ∃ k q : Nat, iv = .int .i64 k ∧ k ≤ n ∧ q ≤ k ∧ MapI 3 wr B q (cM (L.take k)) ∧ Below B w wr ∧ B < wr.heap.size) (fun iv _ => n - (intOf iv).toNat)
  case atStart => exact ⟨0, 0, rfl, Nat.zero_le _, Nat.zero_le _, by rw [List.take_zero, cM_nil]; exact HM0.out, HBL.out, by have := HSZ.out; omega⟩
  case round =>
    obtain ⟨k, q, rfl, hk, hq, hmp, hb, hbs⟩ := hrel
    have HMP := Lib.hid hmp; have HB := Lib.hid hb; have HBS := Lib.hid hbs
    clear hmp hb hbs
    by_cases hlt : k < n
    · obtain ⟨x, hx⟩ : ∃ x, L[k]? = some x := ⟨_, List.getElem?_eq_getElem (by rw [HL.out]; omega)⟩
      obtain ⟨b, o, rfl, -, hr⟩ := (HR.out.below HB.out) k x hx
      have HRG := Lib.hid hr
      have HID : Hid ((Try.prog.info? 34).map (·.size) = some (clE x).length) := by show _ = _; rw [infoE5, clE_len]
      have k0 : (0 : Int) ≤ (k : Int) := by omega
      have k1 : (k : Int) < (n : Int) := by omega
      have HTK : Hid (L.take (k + 1) = L.take k ++ [x]) := by
        show _ = _
        have hkl : k < L.length := (List.getElem?_eq_some_iff.1 hx).1
        rw [List.take_succ_eq_append_getElem hkl, (List.getElem?_eq_some_iff.1 hx).2]
      have HW := Lib.hid (HF.out x (List.mem_of_getElem? hx))
      clear hr hx
      go_upto_region 5 with (first
        | (with_reducible (show wpList _ _ _ _ _ _); refine wpList_load_mid rfl 34 (.tmp 16) rfl b (o + k * 5) rfl (clE x) _ HRG.out Try.underlying34 rfl HID.out ?_)
        | (with_reducible (show wpList _ _ _ _ _ _); refine stE rfl (.tmp 7) (.tmp 17) rfl wr.heap.size rfl rfl _ (Blk.new wr _ _) rfl ?_))
      have hbx : Blk ((wr.alloc (.cells #[.int .i64 0, .int .i64 0, .int .i64 0, .int .i64 0, .int .u64 0] 34)).setRow wr.heap.size (clE x).toArray) wr.heap.size 34 (clE x).toArray := setRow_heap _ _ _ _ _ _ (Blk.new wr _ _)
      have hbw : Below wr.heap.size wr ((wr.alloc (.cells #[.int .i64 0, .int .i64 0, .int .i64 0, .int .i64 0, .int .u64 0] 34)).setRow wr.heap.size (clE x).toArray) := (((But.of_below (X := fun k => wr.heap.size ≤ k) (Below.refl _ _)).alloc _).row _ _ (.inl (Nat.le_refl _))).below (Nat.le_refl _) fun k _ z => z
      generalize (wr.alloc (.cells #[.int .i64 0, .int .i64 0, .int .i64 0, .int .i64 0, .int .u64 0] 34)).setRow wr.heap.size (clE x).toArray = V2 at *
      have HMV : Hid (MapI 3 V2 B q (cM (L.take k))) := HMP.out.blk (hbw.block B HBS.out)
      have HBV := Lib.hid (HB.out.trans (hbw.mono (Nat.le_of_lt HBS.out)))
      have HSV : Hid (B < V2.heap.size) := Nat.lt_of_lt_of_le HBS.out hbw.size
      clear hbw HRG HID
      generalize wr.heap.size = g at *
      obtain ⟨xk, xa, xb, xc, xd⟩ := x
      have e0 : V2.cell? ⟨g, 0, none⟩ = some (.int .i64 xk) := hbx.cell 0
      have e1 : V2.cell? ⟨g, 1, none⟩ = some (.int .i64 xa) := hbx.cell 1
      clear hbx
      dsimp only at HW
      by_cases hk1 : xk = 1
      · have HST := Lib.hid (cM_step (L.take k) ⟨xk, xa, xb, xc, xd⟩ hk1)
        rw [← HTK.out] at HST
        dsimp only at HST
        have hct := HCN.out k xa
        have hlk := HMV.out.look false Try.underlying59 Try.underlying3 (zeroI V2) HW.out
        rw [cM_get] at hlk
        simp only [Bool.false_eq_true, if_false] at hlk
        generalize (L.take k).countP (isS xa) = ct at *
        subst hk1
        have hw1 : wrap64 ((ct : Int) + 1) = (ct : Int) + 1 := by unfold wrap64; omega
        have HWC : Hid (W64 ((ct : Int) + 1)) := w64_small (by omega) (by omega)
        go_wp2_with (with_reducible (show wpList _ _ _ _ _ _); refine up_map rfl (.tmp 21) (.tmp 23) (.tmp 25) 59 rfl Try.underlying59 Try.underlying3 rfl HMV.out (by unfold maxLen; omega) xa ((ct : Int) + 1) rfl rfl HW.out HWC.out ?_; intro w5 hm5 hg5; have HM5 := Lib.hid hm5; have HG5 := Lib.hid hg5; clear hm5 hg5)
        have HB5 : Hid (Below B V2 w5) := ((But.refl (fun b => b = B) V2).grown HG5.out fun k hk => .inl (Option.some.inj hk).symm).below (Nat.le_of_lt HSV.out) fun b _ h => Nat.le_of_eq h.symm
        go_roundw
        case rel => exact ⟨k + 1, q + 1, rfl, by omega, by omega, by have h := HM5.out; rw [HST.out] at h; exact h, HBV.out.trans HB5.out, Nat.lt_of_lt_of_le HSV.out HG5.out.size⟩
        case measure => simp [intOf]; omega
      · have HST := Lib.hid (cM_skip (L.take k) ⟨xk, xa, xb, xc, xd⟩ hk1)
        rw [← HTK.out] at HST
        go_wp2_with fail
        go_roundw
        case rel => exact ⟨k + 1, q, by go_num, by omega, by omega, by rw [HST.out]; exact HMV.out, HBV.out, HSV.out⟩
        case measure => simp [intOf]; omega
    · obtain rfl : k = n := by omega
      have HE : Hid (MapI 3 wr B q (cM L)) := by have := HMP.out; rw [← HL.out, List.take_length] at this; exact this
      clear HMP
      obtain ⟨w0, hw0⟩ : ∃ x, x = wr := ⟨_, rfl⟩
      subst hw0
      go_wp2_with fail
      go_loopw [8, 29] (fun rv iv wr => ∃ j : Nat, iv = .int .i64 j ∧ j ≤ m ∧ OwnN (B + 1) wr rv (stepsL L (cpus.take j)) ∧ MapI 3 wr B q (cM L) ∧ Below B w wr ∧ B < wr.heap.size) (fun _ iv _ => m - (intOf iv).toNat)
      case atStart => exact ⟨0, rfl, Nat.zero_le _, World.ownsRow_nil _ _ _ _, HE.out, HB.out, HBS.out⟩
      case round =>
        obtain ⟨j, rfl, hj, ho, hmp, hb, hbs⟩ := hrel
        have HO := Lib.hid ho; have HMP := Lib.hid hmp; have HB2 := Lib.hid hb; have HBS2 := Lib.hid hbs
        clear ho hmp hb hbs
        by_cases hlt : j < m
        · obtain ⟨b, o, rfl, -, hc⟩ := (HN.out.below HB2.out) j (by rw [HM.out]; exact hlt)
          have hjl : j < cpus.length := by rw [HM.out]; exact hlt
          obtain ⟨x, hx⟩ : ∃ x, cpus[j] = x := ⟨_, rfl⟩
          rw [hx] at hc
          have HW := Lib.hid (HF2.out x (by rw [← hx]; exact List.getElem_mem _))
          have HX : Hid (stepsL L (cpus.take (j + 1)) = stepsL L (cpus.take j) ++ [((L.countP (isS x) : Nat) : Int)]) := by show _ = _; rw [List.take_succ_eq_append_getElem hjl, hx]; unfold stepsL; rw [List.map_append]; rfl
          have HLL : Hid ((stepsL L (cpus.take j)).length ≤ 100000) := by show _ ≤ _; unfold stepsL; rw [List.length_map, List.length_take]; omega
          clear hx hjl
          have hlk := HMP.out.look false Try.underlying59 Try.underlying3 (zeroI wr) HW.out
          rw [cM_get] at hlk
          simp only [Bool.false_eq_true, if_false] at hlk
          generalize L.countP (isS x) = ct at *
          have j0 : (0 : Int) ≤ (j : Int) := by omega
          have j1 : (j : Int) < (m : Int) := by omega
          go_wp2_with (with_reducible (show wpList _ _ _ _ _ _); refine app_n rfl (.tmp 33) (.tmp 37) rfl (B + 1) _ (stepsL L (cpus.take j)) rfl (HO.out.alloc _) wr.heap.size 1 (ct : Int) rfl ((Blk.new wr _ _).cell 0) HLL.out (by have := HBS2.out; simp; omega) ?_; intro v5 w5 ho5 hg5; have HO5 := Lib.hid ho5; have HG5 := Lib.hid hg5; clear ho5 hg5)
          have hne : ∀ r, Value.ownBlock u8 = some r → B + 1 ≤ r := fun r e => (HO.out.lt r e).1
          have HB5 : Hid (Below (B + 1) wr w5) := ((Below.refl (B + 1) wr).alloc (by have := HBS2.out; omega) _).grown HG5.out (by have := HBS2.out; simp; omega) hne
          go_roundw
          case rel => exact ⟨j + 1, rfl, by omega, by rw [HX.out]; exact HO5.out, HMP.out.blk (HB5.out.block B (by omega)), HB2.out.trans (HB5.out.mono (by omega)), Nat.lt_of_lt_of_le HBS2.out HB5.out.size⟩
          case measure => simp [intOf]; omega
        · obtain rfl : j = m := by omega
          have HT : Hid (cpus.take j = cpus) := by show _ = _; rw [← HM.out, List.take_length]
          go_wp2_with fail
          go_ret
          rw [HBB.out]
          refine ⟨_, rfl, ?_, HB2.out⟩
          have := HO.out
          rw [HT.out] at this
          exact this
end Go.Proofs.Ytogplndhciaoeaa
