/- layer 27 (stuck): follow. -/
import Derived.Test.YtogplndhciaoeaaQd
namespace Go.Proofs.Ytogplndhciaoeaa
open Go.RowKit Go.Maps
set_option maxRecDepth 100000

theorem nxt_in {l : List (Int × Int)} {s u : Int} (h : nxt l s = some u) : (s, u) ∈ l := by
  unfold nxt at h
  match hf : l.find? fun y => y.1 == s with
  | none => rw [hf] at h; cases h
  | some y =>
    have h1 := List.find?_some hf
    have h2 := List.mem_of_find?_eq_some hf
    rw [hf] at h
    simp at h1 h
    rw [← h1, ← h]; exact h2
def rowLen : Value → Nat | .slice _ n _ => n | _ => 0
theorem fate_le (l : List (Int × Int)) (x : Int) : fateP l x ≤ 4 := by unfold fateP; split <;> (try split) <;> omega
theorem endK_mid (l : List (Int × Int)) (k : Int → Nat) (a : List Int) : (fun x => if x ∈ a then fateP l x else midK k a x) = endK l k a := by
  funext x; unfold endK midK; by_cases h : x ∈ a <;> simp [h]
theorem But.cell {X : Nat → Prop} {a w : World} (h : But X a w) {p : Addr} (hp : p.block < a.heap.size) (hn : ¬ X p.block) : w.cell? p = a.cell? p := by
  unfold World.cell?; rw [h.block p.block hp hn]
theorem own_rowN {B : Nat} {w : World} {v : Value} {l : List Int} (h : OwnN B w v l) : ∃ A cap, v = .slice A l.length cap ∧ ∀ i (hi : i < l.length), ∃ g, A = some ⟨g, 0, none⟩ ∧ B ≤ g ∧ g < w.heap.size ∧ w.cell? ⟨g, 0 + i, none⟩ = some (.int .i64 l[i]) := by
  have h' := h
  rcases h.2 with ⟨rfl, hn⟩ | ⟨g, cap, cur, rfl, hg, hh, hnc, _⟩
  · exact ⟨none, 0, by rw [hn], fun i hi => absurd hi (by omega)⟩
  · refine ⟨some ⟨g, 0, none⟩, cap, rfl, fun i hi => ⟨g, rfl, hg, (h'.lt g rfl).2, ?_⟩⟩
    have := h'.cells (g := g) rfl i (.int .i64 l[i]) (by simp [hi])
    have hadd : (⟨g, 0, none⟩ : Addr).add i = ⟨g, 0 + i, none⟩ := by unfold Addr.add; split <;> simp_all
    rw [← hadd]; exact this
set_option maxHeartbeats 8000000 in
theorem follow_any (l : List (Int × Int)) (k : Int → Nat) (hG : Good l k) (hf : ∀ x ∈ l, W64 x.1 ∧ W64 x.2) (hl : l.length ≤ 1000) (bo bk no nk : Nat) (hbb : bo ≠ bk) (hnk : nk ≤ 10000000) (t0 : Int) (ht : W64 t0) (w : World) (ho : MapI 3 w bo no (nxt l)) (hk : MapI 68 w bk nk (kO k)) (hbo : bo < w.heap.size) (hbk : bk < w.heap.size) :
    Calls Try.prog 46 #[.map (some bo), .map (some bk), .int .i64 t0] w fun e w' => e = .returned (.tuple #[]) ∧ ∃ a s, Fol l k t0 a s ∧ (nxt l s = none ∨ midK k a s ≠ 0) ∧ MapI 68 w' bk (nk + 2 * a.length) (kO (endK l k a)) ∧ But (fun b => b = bk) w w' := by
  have HG := Lib.hid hG; have HF := Lib.hid hf; have HO := Lib.hid ho; have HK := Lib.hid hk; have HT := Lib.hid ht; have HLL := Lib.hid hl; have HNK := Lib.hid hnk; have HBO := Lib.hid hbo; have HBK := Lib.hid hbk
  clear hG hf ho hk ht hl hnk hbo hbk
  go_enter Try.func46, Try.ntmps46
  go_wp2_with fail
  go_step3
  go_wp2_with fail
  go_step3
  go_wp2_with fail
  go_loopw [2, 6, 7] (fun tv av ev wr => ∃ (a : List Int) (s : Int), tv = .int .i64 s ∧ ev = .int .i64 2 ∧ Fol l k t0 a s ∧ W64 s ∧ (∀ x ∈ a, W64 x) ∧ OwnN w.heap.size wr av a ∧ MapI 68 wr bk (nk + a.length) (kO (midK k a)) ∧ But (fun b => b = bk) w wr) (fun _ av _ _ => 1001 - rowLen av)
  case atStart => exact ⟨[], t0, rfl, rfl, Fol.start l k t0, HT.out, (fun x h => by cases h), World.ownsRow_nil _ _ _ _, HK.out, But.refl _ _⟩
  case round =>
    obtain ⟨a, s, rfl, rfl, hF, hs64, hxa, hav, hmk, hb⟩ := hrel
    have HFo := Lib.hid hF; have HS64 := Lib.hid hs64; have HXA := Lib.hid hxa; have HAV := Lib.hid hav; have HMK := Lib.hid hmk; have HB := Lib.hid hb
    have HAL := Lib.hid hF.len
    clear hF hs64 hxa hav hmk hb
    have HOW : Hid (MapI 3 wr bo no (nxt l)) := HO.out.blk (HB.out.block bo HBO.out hbb)
    have lk1 := HOW.out.look true Try.underlying59 Try.underlying3 (zeroI wr) HS64.out
    have lk2 := HMK.out.look false Try.underlying73 Try.underlying68 (zeroF wr) HS64.out
    rw [kO_get] at lk2
    match hv : nxt l s with
    | none =>
      rw [hv] at lk1
      simp only [if_true, Option.getD_none, Option.isSome_none] at lk1
      have HST : Hid (nxt l s = none ∨ midK k a s ≠ 0) := .inl hv
      have hsa : s ∉ a := fun hm => by
        obtain ⟨i, hi, e⟩ := List.mem_iff_getElem.1 hm
        exact HFo.out.waits i hi (by rw [e]; exact hv)
      have hEF' := HFo.out.ends HG.out (.inl hv)
      clear hv lk2
      obtain ⟨E, hE⟩ : ∃ E : Nat → Nat, E = fun _ => 2 := ⟨_, rfl⟩
      have hE0 : E 0 = 2 := by rw [hE]
      have hE1 : ∀ i (hi : i < a.length), E (i + 1) = if a[i] = s then 4 else E i := fun i hi => by rw [hE, if_neg fun e => hsa (by rw [← e]; exact List.getElem_mem hi)]
      have hEF : ∀ i (hi : i < a.length), fateP l a[i] = E (i + 1) := fun i hi => by rw [hE]; exact hEF' _ (List.getElem_mem hi)
      clear hE hEF' hsa
      obtain ⟨A, cap, rfl, hcell⟩ := own_rowN HAV.out
      have HCE := Lib.hid hcell
      have HE0 := Lib.hid hE0; have HE1 := Lib.hid hE1; have HEF := Lib.hid hEF
      have HM0 : Hid (MapI 68 wr bk (nk + a.length) (kO fun x => if x ∈ a.take 0 then fateP l x else midK k a x)) := by show MapI _ _ _ _ _; simpa using HMK.out
      obtain ⟨w1, hw1⟩ : ∃ x, x = wr := ⟨_, rfl⟩
      subst hw1
      obtain ⟨m, hm⟩ : ∃ m, a.length = m := ⟨_, rfl⟩
      have HML := Lib.hid hm
      have hm1000 : m ≤ 1000 := by rw [← hm]; exact Nat.le_trans HAL.out HLL.out
      rw [hm] at HM0 ⊢
      clear hcell hE0 hE1 hEF hm
      go_wp2_with fail
      go_loopw [7, 41] (fun ev iv wr => ∃ i : Nat, iv = .int .i64 i ∧ i ≤ m ∧ ev = .int .i64 (E i : Nat) ∧ MapI 68 wr bk (nk + m + i) (kO fun x => if x ∈ a.take i then fateP l x else midK k a x) ∧ But (fun b => b = bk) w1 wr) (fun _ iv _ => m - (intOf iv).toNat)
      case atStart => exact ⟨0, rfl, Nat.zero_le _, by rw [HE0.out]; rfl, HM0.out, But.refl _ _⟩
      case round =>
        obtain ⟨i, rfl, hi, rfl, hmm, hbb2⟩ := hrel
        have HMM := Lib.hid hmm; have HB2 := Lib.hid hbb2
        clear hmm hbb2
        by_cases hlt : i < m
        · have hia : i < a.length := by rw [HML.out]; exact hlt
          obtain ⟨g, rfl, hg1, hg2, hc⟩ := HCE.out i hia
          have c0 := (HB2.out.cell (p := ⟨g, 0 + i, none⟩) hg2 (by have := HBK.out; show ¬ g = bk; omega)).trans hc
          rw [Nat.zero_add] at c0
          have HF1 := Lib.hid (HE1.out i hia); have HF2 := Lib.hid (HEF.out i hia)
          have HXW : Hid (W64 a[i]) := HXA.out _ (List.getElem_mem hia)
          have HTK : Hid (∀ y, y ∈ a.take (i + 1) ↔ (y ∈ a.take i ∨ y = a[i])) := fun y => by rw [List.take_succ_eq_append_getElem hia, List.mem_append, List.mem_singleton]
          generalize a[i] = x at *
          have i0 : (i : Int) < (m : Int) := by omega
          have HKN : Hid ((fun y => if y = x then fateP l x else if y ∈ a.take i then fateP l y else midK k a y) = fun y => if y ∈ a.take (i + 1) then fateP l y else midK k a y) := by
            funext y
            by_cases h : y = x
            · subst h; rw [if_pos rfl, if_pos ((HTK.out y).2 (.inr rfl))]
            · rw [if_neg h]
              by_cases h2 : y ∈ a.take i
              · rw [if_pos h2, if_pos ((HTK.out y).2 (.inl h2))]
              · rw [if_neg h2, if_neg fun h3 => ((HTK.out y).1 h3).elim h2 h]
          have HEW : Hid (W64 (E (i + 1) : Nat)) := w64_small (by omega) (by rw [← HF2.out]; have := fate_le l x; omega)
          clear hc
          by_cases hxs : x = s
          · subst hxs
            have HE2 : Hid (E (i + 1) = 4) := by show _ = _; rw [HF1.out, if_pos rfl]
            go_wp2_with (with_reducible (show wpList _ _ _ _ _ _); refine up_map rfl (.tmp 48) (.tmp 49) (.tmp 50) 73 rfl Try.underlying73 Try.underlying68 rfl HMM.out (by unfold maxLen; have := HNK.out; omega) x 4 rfl rfl HXW.out (w64_small (by decide) (by decide)) ?_; intro w5 hm5 hg5; have HM5 := Lib.hid hm5; have HG5 := Lib.hid hg5; clear hm5 hg5)
            go_roundw
            case rel =>
              refine ⟨i + 1, by go_num, by omega, by rw [HE2.out]; rfl, ?_, HB2.out.grown HG5.out fun k hk => .inl (by injection hk with hk; exact hk.symm)⟩
              have := HM5.out
              rw [show (4 : Int) = ((4 : Nat) : Int) from rfl, kO_set _ _ _ (by decide), ← HE2.out, ← HF2.out, HKN.out] at this
              exact this
            case measure => simp [intOf]; omega
          · have HE2 : Hid (E (i + 1) = E i) := by show _ = _; rw [HF1.out, if_neg hxs]
            have HEI : Hid (W64 (E i : Nat)) := by rw [← HE2.out]; exact HEW.out
            go_wp2_with (with_reducible (show wpList _ _ _ _ _ _); refine up_map rfl (.tmp 48) (.tmp 49) (.tmp 50) 73 rfl Try.underlying73 Try.underlying68 rfl HMM.out (by unfold maxLen; have := HNK.out; omega) x (E i : Nat) rfl rfl HXW.out HEI.out ?_; intro w5 hm5 hg5; have HM5 := Lib.hid hm5; have HG5 := Lib.hid hg5; clear hm5 hg5)
            go_roundw
            case rel =>
              refine ⟨i + 1, by go_num, by omega, by rw [HE2.out], ?_, HB2.out.grown HG5.out fun k hk => .inl (by injection hk with hk; exact hk.symm)⟩
              have := HM5.out
              rw [← HE2.out, kO_set _ _ _ (by rw [← HF2.out]; exact fate_pos l x), ← HF2.out, HKN.out] at this
              exact this
            case measure => simp [intOf]; omega
        · obtain rfl : i = m := by omega
          go_wp2_with fail
          rw [Exit.noGoto_normal]
          go_end0
          refine ⟨rfl, a, s, HFo.out, HST.out, ?_, HB.out.trans HB2.out⟩
          have := HMM.out
          rw [← HML.out, List.take_length] at this
          rw [show nk + 2 * a.length = nk + a.length + a.length by omega]
          exact (endK_mid l k a) ▸ this
    | some u =>
      rw [hv] at lk1
      simp only [if_true, Option.getD_some, Option.isSome_some] at lk1
      have HV := Lib.hid hv
      clear hv
      by_cases hm2 : midK k a s = 2
      · rw [hm2, show ((2 : Nat) : Int) = 2 from rfl] at lk2
        simp only [Bool.false_eq_true, if_false] at lk2
        have HST : Hid (nxt l s = none ∨ midK k a s ≠ 0) := .inr (by omega)
        have hsa : s ∉ a := fun hm => by rw [midK, if_pos hm] at hm2; cases hm2
        have hEF' := HFo.out.ends HG.out (.inr hm2)
        clear hm2
        obtain ⟨E, hE⟩ : ∃ E : Nat → Nat, E = fun _ => 2 := ⟨_, rfl⟩
        have hE0 : E 0 = 2 := by rw [hE]
        have hE1 : ∀ i (hi : i < a.length), E (i + 1) = if a[i] = s then 4 else E i := fun i hi => by rw [hE, if_neg fun e => hsa (by rw [← e]; exact List.getElem_mem hi)]
        have hEF : ∀ i (hi : i < a.length), fateP l a[i] = E (i + 1) := fun i hi => by rw [hE]; exact hEF' _ (List.getElem_mem hi)
        clear hE hEF' hsa
        obtain ⟨A, cap, rfl, hcell⟩ := own_rowN HAV.out
        have HCE := Lib.hid hcell
        have HE0 := Lib.hid hE0; have HE1 := Lib.hid hE1; have HEF := Lib.hid hEF
        have HM0 : Hid (MapI 68 wr bk (nk + a.length) (kO fun x => if x ∈ a.take 0 then fateP l x else midK k a x)) := by show MapI _ _ _ _ _; simpa using HMK.out
        obtain ⟨w1, hw1⟩ : ∃ x, x = wr := ⟨_, rfl⟩
        subst hw1
        obtain ⟨m, hm⟩ : ∃ m, a.length = m := ⟨_, rfl⟩
        have HML := Lib.hid hm
        have hm1000 : m ≤ 1000 := by rw [← hm]; exact Nat.le_trans HAL.out HLL.out
        rw [hm] at HM0 ⊢
        clear hcell hE0 hE1 hEF hm
        go_wp2_with fail
        go_loopw [7, 41] (fun ev iv wr => ∃ i : Nat, iv = .int .i64 i ∧ i ≤ m ∧ ev = .int .i64 (E i : Nat) ∧ MapI 68 wr bk (nk + m + i) (kO fun x => if x ∈ a.take i then fateP l x else midK k a x) ∧ But (fun b => b = bk) w1 wr) (fun _ iv _ => m - (intOf iv).toNat)
        case atStart => exact ⟨0, rfl, Nat.zero_le _, by rw [HE0.out]; rfl, HM0.out, But.refl _ _⟩
        case round =>
          obtain ⟨i, rfl, hi, rfl, hmm, hbb2⟩ := hrel
          have HMM := Lib.hid hmm; have HB2 := Lib.hid hbb2
          clear hmm hbb2
          by_cases hlt : i < m
          · have hia : i < a.length := by rw [HML.out]; exact hlt
            obtain ⟨g, rfl, hg1, hg2, hc⟩ := HCE.out i hia
            have c0 := (HB2.out.cell (p := ⟨g, 0 + i, none⟩) hg2 (by have := HBK.out; show ¬ g = bk; omega)).trans hc
            rw [Nat.zero_add] at c0
            have HF1 := Lib.hid (HE1.out i hia); have HF2 := Lib.hid (HEF.out i hia)
            have HXW : Hid (W64 a[i]) := HXA.out _ (List.getElem_mem hia)
            have HTK : Hid (∀ y, y ∈ a.take (i + 1) ↔ (y ∈ a.take i ∨ y = a[i])) := fun y => by rw [List.take_succ_eq_append_getElem hia, List.mem_append, List.mem_singleton]
            generalize a[i] = x at *
            have i0 : (i : Int) < (m : Int) := by omega
            have HKN : Hid ((fun y => if y = x then fateP l x else if y ∈ a.take i then fateP l y else midK k a y) = fun y => if y ∈ a.take (i + 1) then fateP l y else midK k a y) := by
              funext y
              by_cases h : y = x
              · subst h; rw [if_pos rfl, if_pos ((HTK.out y).2 (.inr rfl))]
              · rw [if_neg h]
                by_cases h2 : y ∈ a.take i
                · rw [if_pos h2, if_pos ((HTK.out y).2 (.inl h2))]
                · rw [if_neg h2, if_neg fun h3 => ((HTK.out y).1 h3).elim h2 h]
            have HEW : Hid (W64 (E (i + 1) : Nat)) := w64_small (by omega) (by rw [← HF2.out]; have := fate_le l x; omega)
            clear hc
            by_cases hxs : x = s
            · subst hxs
              have HE2 : Hid (E (i + 1) = 4) := by show _ = _; rw [HF1.out, if_pos rfl]
              go_wp2_with (with_reducible (show wpList _ _ _ _ _ _); refine up_map rfl (.tmp 48) (.tmp 49) (.tmp 50) 73 rfl Try.underlying73 Try.underlying68 rfl HMM.out (by unfold maxLen; have := HNK.out; omega) x 4 rfl rfl HXW.out (w64_small (by decide) (by decide)) ?_; intro w5 hm5 hg5; have HM5 := Lib.hid hm5; have HG5 := Lib.hid hg5; clear hm5 hg5)
              go_roundw
              case rel =>
                refine ⟨i + 1, by go_num, by omega, by rw [HE2.out]; rfl, ?_, HB2.out.grown HG5.out fun k hk => .inl (by injection hk with hk; exact hk.symm)⟩
                have := HM5.out
                rw [show (4 : Int) = ((4 : Nat) : Int) from rfl, kO_set _ _ _ (by decide), ← HE2.out, ← HF2.out, HKN.out] at this
                exact this
              case measure => simp [intOf]; omega
            · have HE2 : Hid (E (i + 1) = E i) := by show _ = _; rw [HF1.out, if_neg hxs]
              have HEI : Hid (W64 (E i : Nat)) := by rw [← HE2.out]; exact HEW.out
              go_wp2_with (with_reducible (show wpList _ _ _ _ _ _); refine up_map rfl (.tmp 48) (.tmp 49) (.tmp 50) 73 rfl Try.underlying73 Try.underlying68 rfl HMM.out (by unfold maxLen; have := HNK.out; omega) x (E i : Nat) rfl rfl HXW.out HEI.out ?_; intro w5 hm5 hg5; have HM5 := Lib.hid hm5; have HG5 := Lib.hid hg5; clear hm5 hg5)
              go_roundw
              case rel =>
                refine ⟨i + 1, by go_num, by omega, by rw [HE2.out], ?_, HB2.out.grown HG5.out fun k hk => .inl (by injection hk with hk; exact hk.symm)⟩
                have := HM5.out
                rw [← HE2.out, kO_set _ _ _ (by rw [← HF2.out]; exact fate_pos l x), ← HF2.out, HKN.out] at this
                exact this
              case measure => simp [intOf]; omega
          · obtain rfl : i = m := by omega
            go_wp2_with fail
            rw [Exit.noGoto_normal]
            go_end0
            refine ⟨rfl, a, s, HFo.out, HST.out, ?_, HB.out.trans HB2.out⟩
            have := HMM.out
            rw [← HML.out, List.take_length] at this
            rw [show nk + 2 * a.length = nk + a.length + a.length by omega]
            exact (endK_mid l k a) ▸ this
      · by_cases hm0 : midK k a s = 0
        · have HSTP := Lib.hid (HFo.out.step hm0 HV.out)
          have HMS : Hid ((fun y => if y = s then ((1 : Nat) : Int) |> some else kO (midK k a) y) = kO (midK k (a ++ [s]))) := by
            show _ = _
            rw [kO_set _ _ _ (by decide), mid_step hm0]
          have HU64 := Lib.hid (HF.out _ (nxt_in HV.out)).2
          rw [hm0, show ((0 : Nat) : Int) = 0 from rfl] at lk2
          simp only [Bool.false_eq_true, if_false] at lk2
          clear hm0 hm2
          go_upto_region 7 with (with_reducible (show wpList _ _ _ _ _ _); refine up_map rfl (.tmp 32) (.tmp 33) (.const (.int .i64 1)) 73 rfl Try.underlying73 Try.underlying68 rfl HMK.out (by unfold maxLen; have := HNK.out; have := HAL.out; have := HLL.out; omega) s 1 rfl rfl HS64.out (w64_small (by decide) (by decide)) ?_; intro w5 hm5 hg5; have HM5 := Lib.hid hm5; have HG5 := Lib.hid hg5; clear hm5 hg5)
          clear lk1 lk2
          have HAV5 : Hid (OwnN w.heap.size w5 u6 a) := HAV.out.kept HG5.out (.inr fun e => by have := (HAV.out.lt bk e).1; have := HBK.out; omega)
          have HB5 : Hid (But (fun b => b = bk) w w5) := HB.out.grown HG5.out fun k hk => .inl (by injection hk with hk; exact hk.symm)
          go_wp2_with (at_builtin; refine app_n rfl (.tmp 34) (.tmp 36) rfl w.heap.size u6 a rfl (HAV5.out.alloc _) w5.heap.size 1 s rfl (Blk.cell (Blk.new w5 _ _) 0) (by have := HAL.out; have := HLL.out; omega) (by have := HB5.out.size; simp; omega) ?_; intro v6 w6 h6 hg6; have H6 := Lib.hid h6; have HG6 := Lib.hid hg6; clear h6 hg6)
          go_roundw
          case rel =>
            refine ⟨a ++ [s], u, rfl, rfl, HSTP.out, HU64.out, fun x hx => ?_, H6.out, ?_, (HB5.out.alloc _).grown HG6.out fun k hk => .inr ((HAV5.out.lt k hk).1)⟩
            · rcases List.mem_append.1 hx with hx | hx
              · exact HXA.out x hx
              · simp at hx; subst hx; exact HS64.out
            · have h7 := HM5.out
              rw [show (fun y => if y = s then some (1 : Int) else kO (midK k a) y) = kO (midK k (a ++ [s])) from HMS.out] at h7
              rw [List.length_append, show nk + (a.length + [s].length) = nk + a.length + 1 from rfl]
              refine h7.blk ((HG6.out.block bk (by have := HB5.out.size; have := HBK.out; simp; omega) (fun e => by have := (HAV5.out.lt bk e.symm).1; have := HBK.out; omega)).trans (Below.heap_alloc w5 _ bk (by have := HB5.out.size; have := HBK.out; omega)))
          case measure =>
            obtain ⟨_, _, e6, _⟩ := own_rowN H6.out
            obtain ⟨_, _, e7, _⟩ := own_rowN HAV.out
            have h8 := HSTP.out.len
            have h9 := HLL.out
            rw [e6, e7]
            simp only [rowLen, List.length_append, List.length_singleton] at *
            omega
        · have HST : Hid (nxt l s = none ∨ midK k a s ≠ 0) := .inr hm0
          have hcm := fun i hi => HFo.out.comes HG.out hm0 hm2 i hi
          obtain ⟨c, hc⟩ : ∃ c, midK k a s = c := ⟨_, rfl⟩
          rw [hc] at lk2 hm0 hm2
          simp only [Bool.false_eq_true, if_false] at lk2
          have c2 : ((c : Int) == 2) = false := by simp; omega
          have c0' : ((c : Int) != 0) = true := by simp; omega
          clear hc hm0 hm2
          obtain ⟨E, hE⟩ : ∃ E : Nat → Nat, E = fun i => if s ∈ a.take i then 4 else 3 := ⟨_, rfl⟩
          have hE0 : E 0 = 3 := by rw [hE]; simp
          have hE1 : ∀ i (hi : i < a.length), E (i + 1) = if a[i] = s then 4 else E i := fun i hi => by
            rw [hE]
            dsimp only
            rw [List.take_succ_eq_append_getElem hi]
            by_cases h : a[i] = s
            · rw [if_pos h, if_pos (List.mem_append_right _ (List.mem_singleton.2 h.symm))]
            · rw [if_neg h]
              by_cases h2 : s ∈ a.take i
              · rw [if_pos h2, if_pos (List.mem_append_left _ h2)]
              · rw [if_neg h2, if_neg fun h3 => (List.mem_append.1 h3).elim h2 fun h4 => by rw [List.mem_singleton] at h4; exact h h4.symm]
          have hEF : ∀ i (hi : i < a.length), fateP l a[i] = E (i + 1) := fun i hi => by rw [hE]; exact hcm i hi
          clear hE hcm
          obtain ⟨A, cap, rfl, hcell⟩ := own_rowN HAV.out
          have HCE := Lib.hid hcell
          have HE0 := Lib.hid hE0; have HE1 := Lib.hid hE1; have HEF := Lib.hid hEF
          have HM0 : Hid (MapI 68 wr bk (nk + a.length) (kO fun x => if x ∈ a.take 0 then fateP l x else midK k a x)) := by show MapI _ _ _ _ _; simpa using HMK.out
          obtain ⟨w1, hw1⟩ : ∃ x, x = wr := ⟨_, rfl⟩
          subst hw1
          obtain ⟨m, hm⟩ : ∃ m, a.length = m := ⟨_, rfl⟩
          have HML := Lib.hid hm
          have hm1000 : m ≤ 1000 := by rw [← hm]; exact Nat.le_trans HAL.out HLL.out
          rw [hm] at HM0 ⊢
          clear hcell hE0 hE1 hEF hm
          go_wp2_with fail
          go_loopw [7, 41] (fun ev iv wr => ∃ i : Nat, iv = .int .i64 i ∧ i ≤ m ∧ ev = .int .i64 (E i : Nat) ∧ MapI 68 wr bk (nk + m + i) (kO fun x => if x ∈ a.take i then fateP l x else midK k a x) ∧ But (fun b => b = bk) w1 wr) (fun _ iv _ => m - (intOf iv).toNat)
          case atStart => exact ⟨0, rfl, Nat.zero_le _, by rw [HE0.out]; rfl, HM0.out, But.refl _ _⟩
          case round =>
            obtain ⟨i, rfl, hi, rfl, hmm, hbb2⟩ := hrel
            have HMM := Lib.hid hmm; have HB2 := Lib.hid hbb2
            clear hmm hbb2
            by_cases hlt : i < m
            · have hia : i < a.length := by rw [HML.out]; exact hlt
              obtain ⟨g, rfl, hg1, hg2, hc⟩ := HCE.out i hia
              have c0 := (HB2.out.cell (p := ⟨g, 0 + i, none⟩) hg2 (by have := HBK.out; show ¬ g = bk; omega)).trans hc
              rw [Nat.zero_add] at c0
              have HF1 := Lib.hid (HE1.out i hia); have HF2 := Lib.hid (HEF.out i hia)
              have HXW : Hid (W64 a[i]) := HXA.out _ (List.getElem_mem hia)
              have HTK : Hid (∀ y, y ∈ a.take (i + 1) ↔ (y ∈ a.take i ∨ y = a[i])) := fun y => by rw [List.take_succ_eq_append_getElem hia, List.mem_append, List.mem_singleton]
              generalize a[i] = x at *
              have i0 : (i : Int) < (m : Int) := by omega
              have HKN : Hid ((fun y => if y = x then fateP l x else if y ∈ a.take i then fateP l y else midK k a y) = fun y => if y ∈ a.take (i + 1) then fateP l y else midK k a y) := by
                funext y
                by_cases h : y = x
                · subst h; rw [if_pos rfl, if_pos ((HTK.out y).2 (.inr rfl))]
                · rw [if_neg h]
                  by_cases h2 : y ∈ a.take i
                  · rw [if_pos h2, if_pos ((HTK.out y).2 (.inl h2))]
                  · rw [if_neg h2, if_neg fun h3 => ((HTK.out y).1 h3).elim h2 h]
              have HEW : Hid (W64 (E (i + 1) : Nat)) := w64_small (by omega) (by rw [← HF2.out]; have := fate_le l x; omega)
              clear hc
              by_cases hxs : x = s
              · subst hxs
                have HE2 : Hid (E (i + 1) = 4) := by show _ = _; rw [HF1.out, if_pos rfl]
                go_wp2_with (with_reducible (show wpList _ _ _ _ _ _); refine up_map rfl (.tmp 48) (.tmp 49) (.tmp 50) 73 rfl Try.underlying73 Try.underlying68 rfl HMM.out (by unfold maxLen; have := HNK.out; omega) x 4 rfl rfl HXW.out (w64_small (by decide) (by decide)) ?_; intro w5 hm5 hg5; have HM5 := Lib.hid hm5; have HG5 := Lib.hid hg5; clear hm5 hg5)
                go_roundw
                case rel =>
                  refine ⟨i + 1, by go_num, by omega, by rw [HE2.out]; rfl, ?_, HB2.out.grown HG5.out fun k hk => .inl (by injection hk with hk; exact hk.symm)⟩
                  have := HM5.out
                  rw [show (4 : Int) = ((4 : Nat) : Int) from rfl, kO_set _ _ _ (by decide), ← HE2.out, ← HF2.out, HKN.out] at this
                  exact this
                case measure => simp [intOf]; omega
              · have HE2 : Hid (E (i + 1) = E i) := by show _ = _; rw [HF1.out, if_neg hxs]
                have HEI : Hid (W64 (E i : Nat)) := by rw [← HE2.out]; exact HEW.out
                go_wp2_with (with_reducible (show wpList _ _ _ _ _ _); refine up_map rfl (.tmp 48) (.tmp 49) (.tmp 50) 73 rfl Try.underlying73 Try.underlying68 rfl HMM.out (by unfold maxLen; have := HNK.out; omega) x (E i : Nat) rfl rfl HXW.out HEI.out ?_; intro w5 hm5 hg5; have HM5 := Lib.hid hm5; have HG5 := Lib.hid hg5; clear hm5 hg5)
                go_roundw
                case rel =>
                  refine ⟨i + 1, by go_num, by omega, by rw [HE2.out], ?_, HB2.out.grown HG5.out fun k hk => .inl (by injection hk with hk; exact hk.symm)⟩
                  have := HM5.out
                  rw [← HE2.out, kO_set _ _ _ (by rw [← HF2.out]; exact fate_pos l x), ← HF2.out, HKN.out] at this
                  exact this
                case measure => simp [intOf]; omega
            · obtain rfl : i = m := by omega
              go_wp2_with fail
              rw [Exit.noGoto_normal]
              go_end0
              refine ⟨rfl, a, s, HFo.out, HST.out, ?_, HB.out.trans HB2.out⟩
              have := HMM.out
              rw [← HML.out, List.take_length] at this
              rw [show nk + 2 * a.length = nk + a.length + a.length by omega]
              exact (endK_mid l k a) ▸ this
end Go.Proofs.Ytogplndhciaoeaa
