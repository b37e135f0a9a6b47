/- layer 31 (codec): parse. -/
import Derived.Test.YtchhenpijbecaaaDoorCt
namespace Go.Proofs.YtchhenpijbecaaaDoor
open Go.RowKit
set_option maxRecDepth 100000

theorem own_but {w w' : World} {B e k n : Nat} {v : Value} {xs : List Value} {X : Nat → Prop} (h : w.ownsRow B e k v n xs) (hb : But X w w') (hx : ∀ g, v.ownBlock = some g → ¬ X g) : w'.ownsRow B e k v n xs := by
  refine ⟨h.1, ?_⟩
  have hlt := h.lt
  rcases h.2 with h' | ⟨g, cap, cur, e', hg, hh, hc⟩
  · exact .inl h'
  · have := (hlt g (by rw [e']; rfl)).2
    exact .inr ⟨g, cap, cur, e', hg, (hb.block g this (hx g (by rw [e']; rfl))).trans hh, hc⟩

theorem new5V (w : World) (a b c d e : Int) : ∀ j u, (clV ⟨a, b, c, d, e⟩)[j]? = some u → (w.alloc (.cells #[.int .i64 a, .int .i64 b, .int .i64 c, .int .i64 d, .int .i64 e] 42)).cell? ((⟨w.heap.size, 0, none⟩ : Addr).add j) = some u := by
  intro u y hy
  have hadd : (⟨w.heap.size, 0, none⟩ : Addr).add u = ⟨w.heap.size, u, none⟩ := by unfold Addr.add; split <;> simp_all
  rw [hadd, (Blk.new w _ _).cell]
  match u, hy with
  | 0, hy => exact hy
  | 1, hy => exact hy
  | 2, hy => exact hy
  | 3, hy => exact hy
  | 4, hy => exact hy
theorem one5V (x : I5) : ∀ u ∈ clV x, u.oneCell' = true := fun u hu => by
  have := clV_one x
  rw [Array.all_eq_true'] at this
  exact this u (by simpa using hu)
set_option maxHeartbeats 16000000 in
theorem parseV_any (A : Option Addr) (l : List UInt8) (n cap : Nat) (hn : l.length = n) (hc : n ≤ cap) (hl : n ≤ 10000) (w : World) (hA : BysIn w.heap.size w A l) :
    Calls Tryd.prog 35 #[.slice A n cap, .func (.func 36) #[] #[]] w fun e w' => ∃ v, e = .returned (.tuple #[v, .int .i64 (parseAll l).2]) ∧ OwnV w.heap.size w' v (parseAll l).1 ∧ Below w.heap.size w w' := by
  obtain ⟨R, hR⟩ : ∃ R, parseAll l = R := ⟨_, rfl⟩
  rw [hR]
  have HR := Lib.hid (show parse5 l n 0 [] = R by rw [← hR, ← hn]; rfl)
  have HA := Lib.hid hA; have HN := Lib.hid hn
  have HTA := Lib.hid (taker_any A n cap 0 w)
  obtain ⟨i0, hi0, hz0, hz1, hz2⟩ := info_parts infoPV
  clear hA hn hR
  go_enter Tryd.func35, Tryd.ntmps35
  go_wp2_with (go_at_call 30; (with_reducible refine HTA.out.mono ?_); rintro e w1 ⟨rfl, ha1, hh1, hb1, hs1⟩; have HA1 := Lib.hid ha1; have HH1 := Lib.hid hh1; have HB1 := Lib.hid hb1; have HS1 := Lib.hid hs1; clear ha1 hh1 hb1 hs1)
  obtain ⟨gA, hgA⟩ : ∃ gA, w.heap.size = gA := ⟨_, rfl⟩
  have HGA := Lib.hid hgA
  rw [hgA] at HA1 HH1 HB1 HS1 HA ⊢
  clear hgA HTA
  go_loopw [6, 8] (fun a kv wr => ∃ (f k : Nat) (acc : List I5), kv = .int .i64 k ∧ k ≤ n ∧ n ≤ f + k ∧ acc.length ≤ k ∧ parse5 l f k acc = R ∧ OwnV (gA + 2) wr a acc ∧ Blk wr gA 22 #[.slice A n cap] ∧ Blk wr (gA + 1) 3 #[.int .i64 k] ∧ Below gA w wr ∧ gA + 2 ≤ wr.heap.size) (fun _ kv _ => n - (intOf kv).toNat)
  case atStart => exact ⟨n, 0, [], rfl, Nat.zero_le _, by omega, by simp, HR.out, World.ownsRow_nil _ _ _ _, HA1.out, HH1.out, HB1.out, by rw [HS1.out]; exact Nat.le_refl _⟩
  case round =>
    obtain ⟨f, k, acc, rfl, hk, hf, hal, hp, hown, hAr, hHr, hbl, hsz⟩ := hrel
    have HP := Lib.hid hp; have HOW := Lib.hid hown; have HAR := Lib.hid hAr; have HHR := Lib.hid hHr; have HBL := Lib.hid hbl; have HSZ := Lib.hid hsz
    clear hp hown hAr hHr hbl hsz
    by_cases hlt : k < n
    · have k1 : (k : Int) < (n : Int) := by omega
      obtain ⟨f, rfl⟩ : ∃ f', f = f' + 1 := ⟨f - 1, by omega⟩
      have HTZ := takeZ_nat l 5 k (by rw [HN.out]; omega)
      have hW1 : Below wr.heap.size wr (wr.alloc (.cells #[.int .i64 0, .int .i64 0, .int .i64 0, .int .i64 0, .int .i64 0] 77)) := (Below.refl _ _).alloc (Nat.le_refl _) _
      have hq0 := Blk.new wr 77 #[.int .i64 0, .int .i64 0, .int .i64 0, .int .i64 0, .int .i64 0]
      have hs0 : (wr.alloc (.cells #[.int .i64 0, .int .i64 0, .int .i64 0, .int .i64 0, .int .i64 0] 77)).heap.size = wr.heap.size + 1 := by simp
      go_upto_region 6 with fail
      generalize wr.alloc (.cells #[.int .i64 0, .int .i64 0, .int .i64 0, .int .i64 0, .int .i64 0] 77) = W1 at *
      obtain ⟨q, hq⟩ : ∃ q, wr.heap.size = q := ⟨_, rfl⟩
      have HQ := Lib.hid hq
      rw [hq] at hq0 hs0 hW1 ⊢
      clear hq
      have hs1 := Blk.new W1 72 #[.pointer (some ⟨q, 0, none⟩), .pointer (some ⟨q, 1, none⟩), .pointer (some ⟨q, 2, none⟩), .pointer (some ⟨q, 3, none⟩), .pointer (some ⟨q, 4, none⟩)]
      rw [hs0] at hs1
      have hq1 := hq0.alloc (.cells #[.pointer (some ⟨q, 0, none⟩), .pointer (some ⟨q, 1, none⟩), .pointer (some ⟨q, 2, none⟩), .pointer (some ⟨q, 3, none⟩), .pointer (some ⟨q, 4, none⟩)] 72)
      have hW2 : Below q wr (W1.alloc (.cells #[.pointer (some ⟨q, 0, none⟩), .pointer (some ⟨q, 1, none⟩), .pointer (some ⟨q, 2, none⟩), .pointer (some ⟨q, 3, none⟩), .pointer (some ⟨q, 4, none⟩)] 72)) := hW1.alloc (by omega) _
      have HSQ := HSZ.out
      rw [HQ.out] at HSQ
      have HTK := taker1_any (M := Tg5 q (q + 1)) (X := fun b => b = q ∨ b = gA + 1) (gA := gA) (h := gA + 1) (s := q + 1) (m := 5) (c := 5) (B := gA) (A := A) HN.out hc (by omega)
        (tg5_step (by omega) (.inl rfl) (by omega) (by omega) (by omega)) (tg5_far (by omega) (by omega)) _ (k : Int) ⟨by decide, hq1, hs1⟩
        (HAR.out.below hW2 (by omega)) (HHR.out.below hW2 (by omega)) (by omega) ((HA.out.below HBL.out).below (hW2.mono (by omega))) (by omega) (.inr rfl) (by omega) (by omega) (by unfold B64; omega)
      rw [HTZ] at HTK
      clear HTZ hq0 hq1 hs1 hW1
      have HW2 := Lib.hid hW2
      have HS0 := Lib.hid hs0
      clear hW2
      match ht : takeN l 5 k with
      | none =>
        have HRN : Hid (R = ([], (k : Int))) := by
          show _ = _
          rw [← HP.out, parse5, if_pos (by rw [HN.out]; exact hlt)]; unfold get5; rw [ht]; rfl
        rw [ht] at HTK
        have HTT := Lib.hid HTK
        clear HTK ht
        go_wp2_with (go_at_call 43; (with_reducible refine HTT.out.mono ?_); rintro e w3 ⟨hb3, ha3, rfl, -⟩; have HB3 := Lib.hid hb3; clear hb3 ha3)
        go_ret2
        rw [HRN.out, HGA.out]
        refine ⟨_, rfl, World.ownsRow_nil _ _ _ _, ?_⟩
        exact HBL.out.trans ((HW2.out.mono (by omega)).trans (HB3.out.below (by have := HW2.out.size; rw [HQ.out] at this; omega) fun b _ hb => by rcases hb with rfl | rfl <;> omega))
      | some (xs, j) =>
        have hx5 := takeN_len l 5 k xs j ht
        match xs, hx5 with
        | [a, b, c, d, e], _ =>
          have hg5 : get5 l k = some (⟨a, b, c, d, e⟩, j) := by unfold get5; rw [ht]; rfl
          obtain ⟨hfit, hkj, hjl, -⟩ := get5_back (by rw [HN.out]; omega) hg5
          have HRN : Hid (parse5 l f j (acc ++ [⟨a, b, c, d, e⟩]) = R) := by
            show _ = _
            rw [← HP.out, parse5, if_pos (by rw [HN.out]; exact hlt), hg5]
          rw [ht] at HTK
          have HTT := Lib.hid HTK
          have HFIT := Lib.hid hfit
          have HKJ := Lib.hid (And.intro hkj hjl)
          have hjn : j ≤ n := by rw [← HN.out]; exact hjl
          clear HTK ht hg5 hfit hkj hjl
          go_upto_region 9 with (go_at_call 43; (with_reducible refine HTT.out.mono ?_); rintro e w3 ⟨hb3, ha3, rfl, hm3, hh3, -, -⟩; have HB3 := Lib.hid hb3; have HA3 := Lib.hid ha3; have HM3 := Lib.hid hm3; have HH3 := Lib.hid hh3; clear hb3 ha3 hm3 hh3)
          have HOF : Hid (Calls Tryd.prog 36 #[.agg #[.int .i64 a, .int .i64 b, .int .i64 c, .int .i64 d, .int .i64 e]] w3 fun x w' => x = .returned (.agg #[.int .i64 a, .int .i64 b, .int .i64 c, .int .i64 d, .int .i64 e]) ∧ Below w3.heap.size w3 w') := ofV_any a b c d e HFIT.out.2.2.2.2 w3
          have HO3 : Hid (OwnV (gA + 2) w3 u6 acc) := own_but (own_on HOW.out (by rw [HQ.out]; exact HW2.out)) HB3.out fun g hg hx => by
            have hgl := HOW.out.lt g hg
            rw [HQ.out] at hgl
            rcases hx with rfl | rfl
            · omega
            · omega
          have HSW2 : Hid (q ≤ (W1.alloc (.cells #[.pointer (some ⟨q, 0, none⟩), .pointer (some ⟨q, 1, none⟩), .pointer (some ⟨q, 2, none⟩), .pointer (some ⟨q, 3, none⟩), .pointer (some ⟨q, 4, none⟩)] 72)).heap.size) := by
            have := HW2.out.size; rw [HQ.out] at this; exact this
          have HB13 : Hid (Below gA w w3) := HBL.out.trans ((HW2.out.mono (by omega)).trans (HB3.out.below (by have := HSW2.out; omega) fun b _ hb => by rcases hb with rfl | rfl <;> omega))
          have HS3 : Hid (gA + 2 ≤ w3.heap.size) := by have := HSW2.out; have := HB3.out.size; show _ ≤ _; omega
          clear HTT HB3 HW2 HSW2
          have hq3 := HM3.out.2.1
          have HQ3 : Hid (Blk w3 q 77 #[.int .i64 a, .int .i64 b, .int .i64 c, .int .i64 d, .int .i64 e]) := hq3
          clear hq3
          go_wp2_with (first
            | (with_reducible (show wpList _ _ _ _ _ _); refine ld_a5 rfl (.tmp 9) rfl q rfl _ HQ3.out rfl ?_)
            | (go_at_call 36; (with_reducible refine HOF.out.mono ?_); rintro x w4 ⟨rfl, h4⟩; have H4 := Lib.hid h4; have HO4 := Lib.hid (own_on HO3.out h4); clear h4)
            | (at_builtin; refine wpList_append_own _ rfl (.tmp 32) (.tmp 36) 39 rfl (gA + 2) 42 i0 (.agg #[.int .i64 0, .int .i64 0, .int .i64 0, .int .i64 0, .int .i64 0]) 5 40 Tryd.underlying39 hi0 hz0 hz1 hz2 rfl (by decide) _ acc.length _ rfl (HO4.out.alloc _) ⟨w4.heap.size, 0, none⟩ 1 1 (clV ⟨a, b, c, d, e⟩) rfl rfl (new5V w4 a b c d e) (one5V _) (by unfold maxLen; omega) (by omega) (by have := HS3.out; have := H4.out.size; simp; omega) ?_; intro v5 w5 own5 gr5 _; have O5 := Lib.hid own5; have G5 := Lib.hid gr5; clear own5 gr5))
          have O6 : Hid (OwnV (gA + 2) w5 v5 (acc ++ [⟨a, b, c, d, e⟩])) := by
            show w5.ownsRow _ _ _ _ _ _
            rw [List.length_append, dsV_app, dsV_one]; exact O5.out
          have B5 : Hid (But (fun b => gA + 2 ≤ b) w4 w5) := ((But.refl _ w4).alloc _).grown G5.out fun b hb => .inl (HO4.out.lt b hb).1
          go_roundw
          case rel =>
            refine ⟨f, j, acc ++ [⟨a, b, c, d, e⟩], rfl, hjn, by have := HKJ.out.1; omega, by simp; have := HKJ.out.1; omega, HRN.out, O6.out, ?_, ?_, ?_, ?_⟩
            · exact (HA3.out.below H4.out (by have := HS3.out; omega)).but B5.out (by omega)
            · exact (HH3.out.below H4.out (by have := HS3.out; omega)).but B5.out (by omega)
            · exact HB13.out.trans ((H4.out.mono (by have := HS3.out; omega)).trans (B5.out.below (by have := HS3.out; have := H4.out.size; omega) fun b _ hb => by omega))
            · have := HS3.out; have := H4.out.size; have := B5.out.size; omega
          case measure => have := HKJ.out.1; simp [intOf]; omega
    · obtain rfl : k = n := by omega
      have k1 : ¬ (k : Int) < (k : Int) := by omega
      have HRN : Hid (R = (acc, -1)) := by
        show _ = _
        rw [← HP.out]
        cases f with
        | zero => rw [parse5, if_neg (by rw [HN.out]; omega)]
        | succ f => rw [parse5, if_neg (by rw [HN.out]; omega)]
      go_wp2_with fail
      go_ret2
      rw [HRN.out, HGA.out]
      exact ⟨_, rfl, own_mono HOW.out (by omega), HBL.out⟩
theorem peV_any (A : Option Addr) (l : List UInt8) (n cap : Nat) (hn : l.length = n) (hc : n ≤ cap) (hl : n ≤ 10000) (w : World) (hA : BysIn w.heap.size w A l) :
    Calls Tryd.prog 19 #[.slice A n cap] w fun e w' => ∃ v, e = .returned (.tuple #[v, .int .i64 (parseAll l).2]) ∧ OwnV w.heap.size w' v (parseAll l).1 ∧ Below w.heap.size w w' := by
  have HP := Lib.hid (parseV_any A l n cap hn hc hl w hA)
  clear hn hA
  generalize parseAll l = R at *
  go_enter Tryd.func19, Tryd.ntmps19
  go_wp2_with (go_at_call 35; (with_reducible refine HP.out.mono ?_); rintro e w1 ⟨v, rfl, h1, h2⟩; have H1 := Lib.hid h1; have H2 := Lib.hid h2; clear h1 h2)
  go_ret2
  exact ⟨_, rfl, H1.out, H2.out⟩

theorem new5N (w : World) (a b c d e : Int) : ∀ j u, (clN ⟨a, b, c, d, e⟩)[j]? = some u → (w.alloc (.cells #[.int .i64 a, .int .i64 b, .int .i64 c, .int .i64 d, .int .u64 (toU e : Int)] 46)).cell? ((⟨w.heap.size, 0, none⟩ : Addr).add j) = some u := by
  intro u y hy
  have hadd : (⟨w.heap.size, 0, none⟩ : Addr).add u = ⟨w.heap.size, u, none⟩ := by unfold Addr.add; split <;> simp_all
  rw [hadd, (Blk.new w _ _).cell]
  match u, hy with
  | 0, hy => exact hy
  | 1, hy => exact hy
  | 2, hy => exact hy
  | 3, hy => exact hy
  | 4, hy => exact hy
theorem one5N (x : I5) : ∀ u ∈ clN x, u.oneCell' = true := fun u hu => by
  have := clN_one x
  rw [Array.all_eq_true'] at this
  exact this u (by simpa using hu)
set_option maxHeartbeats 16000000 in
theorem parseN_any (A : Option Addr) (l : List UInt8) (n cap : Nat) (hn : l.length = n) (hc : n ≤ cap) (hl : n ≤ 10000) (w : World) (hA : BysIn w.heap.size w A l) :
    Calls Tryd.prog 37 #[.slice A n cap, .func (.func 38) #[] #[]] w fun e w' => ∃ v, e = .returned (.tuple #[v, .int .i64 (parseAll l).2]) ∧ OwnN w.heap.size w' v (parseAll l).1 ∧ Below w.heap.size w w' := by
  obtain ⟨R, hR⟩ : ∃ R, parseAll l = R := ⟨_, rfl⟩
  rw [hR]
  have HR := Lib.hid (show parse5 l n 0 [] = R by rw [← hR, ← hn]; rfl)
  have HA := Lib.hid hA; have HN := Lib.hid hn
  have HTA := Lib.hid (taker_any A n cap 0 w)
  obtain ⟨i0, hi0, hz0, hz1, hz2⟩ := info_parts infoPN
  clear hA hn hR
  go_enter Tryd.func37, Tryd.ntmps37
  go_wp2_with (go_at_call 30; (with_reducible refine HTA.out.mono ?_); rintro e w1 ⟨rfl, ha1, hh1, hb1, hs1⟩; have HA1 := Lib.hid ha1; have HH1 := Lib.hid hh1; have HB1 := Lib.hid hb1; have HS1 := Lib.hid hs1; clear ha1 hh1 hb1 hs1)
  obtain ⟨gA, hgA⟩ : ∃ gA, w.heap.size = gA := ⟨_, rfl⟩
  have HGA := Lib.hid hgA
  rw [hgA] at HA1 HH1 HB1 HS1 HA ⊢
  clear hgA HTA
  go_loopw [6, 8] (fun a kv wr => ∃ (f k : Nat) (acc : List I5), kv = .int .i64 k ∧ k ≤ n ∧ n ≤ f + k ∧ acc.length ≤ k ∧ parse5 l f k acc = R ∧ OwnN (gA + 2) wr a acc ∧ Blk wr gA 22 #[.slice A n cap] ∧ Blk wr (gA + 1) 3 #[.int .i64 k] ∧ Below gA w wr ∧ gA + 2 ≤ wr.heap.size) (fun _ kv _ => n - (intOf kv).toNat)
  case atStart => exact ⟨n, 0, [], rfl, Nat.zero_le _, by omega, by simp, HR.out, World.ownsRow_nil _ _ _ _, HA1.out, HH1.out, HB1.out, by rw [HS1.out]; exact Nat.le_refl _⟩
  case round =>
    obtain ⟨f, k, acc, rfl, hk, hf, hal, hp, hown, hAr, hHr, hbl, hsz⟩ := hrel
    have HP := Lib.hid hp; have HOW := Lib.hid hown; have HAR := Lib.hid hAr; have HHR := Lib.hid hHr; have HBL := Lib.hid hbl; have HSZ := Lib.hid hsz
    clear hp hown hAr hHr hbl hsz
    by_cases hlt : k < n
    · have k1 : (k : Int) < (n : Int) := by omega
      obtain ⟨f, rfl⟩ : ∃ f', f = f' + 1 := ⟨f - 1, by omega⟩
      have HTZ := takeZ_nat l 5 k (by rw [HN.out]; omega)
      have hW1 : Below wr.heap.size wr (wr.alloc (.cells #[.int .i64 0, .int .i64 0, .int .i64 0, .int .i64 0, .int .i64 0] 77)) := (Below.refl _ _).alloc (Nat.le_refl _) _
      have hq0 := Blk.new wr 77 #[.int .i64 0, .int .i64 0, .int .i64 0, .int .i64 0, .int .i64 0]
      have hs0 : (wr.alloc (.cells #[.int .i64 0, .int .i64 0, .int .i64 0, .int .i64 0, .int .i64 0] 77)).heap.size = wr.heap.size + 1 := by simp
      go_upto_region 6 with fail
      generalize wr.alloc (.cells #[.int .i64 0, .int .i64 0, .int .i64 0, .int .i64 0, .int .i64 0] 77) = W1 at *
      obtain ⟨q, hq⟩ : ∃ q, wr.heap.size = q := ⟨_, rfl⟩
      have HQ := Lib.hid hq
      rw [hq] at hq0 hs0 hW1 ⊢
      clear hq
      have hs1 := Blk.new W1 72 #[.pointer (some ⟨q, 0, none⟩), .pointer (some ⟨q, 1, none⟩), .pointer (some ⟨q, 2, none⟩), .pointer (some ⟨q, 3, none⟩), .pointer (some ⟨q, 4, none⟩)]
      rw [hs0] at hs1
      have hq1 := hq0.alloc (.cells #[.pointer (some ⟨q, 0, none⟩), .pointer (some ⟨q, 1, none⟩), .pointer (some ⟨q, 2, none⟩), .pointer (some ⟨q, 3, none⟩), .pointer (some ⟨q, 4, none⟩)] 72)
      have hW2 : Below q wr (W1.alloc (.cells #[.pointer (some ⟨q, 0, none⟩), .pointer (some ⟨q, 1, none⟩), .pointer (some ⟨q, 2, none⟩), .pointer (some ⟨q, 3, none⟩), .pointer (some ⟨q, 4, none⟩)] 72)) := hW1.alloc (by omega) _
      have HSQ := HSZ.out
      rw [HQ.out] at HSQ
      have HTK := taker1_any (M := Tg5 q (q + 1)) (X := fun b => b = q ∨ b = gA + 1) (gA := gA) (h := gA + 1) (s := q + 1) (m := 5) (c := 5) (B := gA) (A := A) HN.out hc (by omega)
        (tg5_step (by omega) (.inl rfl) (by omega) (by omega) (by omega)) (tg5_far (by omega) (by omega)) _ (k : Int) ⟨by decide, hq1, hs1⟩
        (HAR.out.below hW2 (by omega)) (HHR.out.below hW2 (by omega)) (by omega) ((HA.out.below HBL.out).below (hW2.mono (by omega))) (by omega) (.inr rfl) (by omega) (by omega) (by unfold B64; omega)
      rw [HTZ] at HTK
      clear HTZ hq0 hq1 hs1 hW1
      have HW2 := Lib.hid hW2
      have HS0 := Lib.hid hs0
      clear hW2
      match ht : takeN l 5 k with
      | none =>
        have HRN : Hid (R = ([], (k : Int))) := by
          show _ = _
          rw [← HP.out, parse5, if_pos (by rw [HN.out]; exact hlt)]; unfold get5; rw [ht]; rfl
        rw [ht] at HTK
        have HTT := Lib.hid HTK
        clear HTK ht
        go_wp2_with (go_at_call 43; (with_reducible refine HTT.out.mono ?_); rintro e w3 ⟨hb3, ha3, rfl, -⟩; have HB3 := Lib.hid hb3; clear hb3 ha3)
        go_ret2
        rw [HRN.out, HGA.out]
        refine ⟨_, rfl, World.ownsRow_nil _ _ _ _, ?_⟩
        exact HBL.out.trans ((HW2.out.mono (by omega)).trans (HB3.out.below (by have := HW2.out.size; rw [HQ.out] at this; omega) fun b _ hb => by rcases hb with rfl | rfl <;> omega))
      | some (xs, j) =>
        have hx5 := takeN_len l 5 k xs j ht
        match xs, hx5 with
        | [a, b, c, d, e], _ =>
          have hg5 : get5 l k = some (⟨a, b, c, d, e⟩, j) := by unfold get5; rw [ht]; rfl
          obtain ⟨hfit, hkj, hjl, -⟩ := get5_back (by rw [HN.out]; omega) hg5
          have HRN : Hid (parse5 l f j (acc ++ [⟨a, b, c, d, e⟩]) = R) := by
            show _ = _
            rw [← HP.out, parse5, if_pos (by rw [HN.out]; exact hlt), hg5]
          rw [ht] at HTK
          have HTT := Lib.hid HTK
          have HFIT := Lib.hid hfit
          have HKJ := Lib.hid (And.intro hkj hjl)
          have hjn : j ≤ n := by rw [← HN.out]; exact hjl
          clear HTK ht hg5 hfit hkj hjl
          go_upto_region 9 with (go_at_call 43; (with_reducible refine HTT.out.mono ?_); rintro e w3 ⟨hb3, ha3, rfl, hm3, hh3, -, -⟩; have HB3 := Lib.hid hb3; have HA3 := Lib.hid ha3; have HM3 := Lib.hid hm3; have HH3 := Lib.hid hh3; clear hb3 ha3 hm3 hh3)
          have HOF : Hid (Calls Tryd.prog 38 #[.agg #[.int .i64 a, .int .i64 b, .int .i64 c, .int .i64 d, .int .i64 e]] w3 fun x w' => x = .returned (.agg #[.int .i64 a, .int .i64 b, .int .i64 c, .int .i64 d, .int .u64 (toU e : Int)]) ∧ Below w3.heap.size w3 w') := ofN_any a b c d e HFIT.out.2.2.2.2 w3
          have HO3 : Hid (OwnN (gA + 2) w3 u6 acc) := own_but (own_on HOW.out (by rw [HQ.out]; exact HW2.out)) HB3.out fun g hg hx => by
            have hgl := HOW.out.lt g hg
            rw [HQ.out] at hgl
            rcases hx with rfl | rfl
            · omega
            · omega
          have HSW2 : Hid (q ≤ (W1.alloc (.cells #[.pointer (some ⟨q, 0, none⟩), .pointer (some ⟨q, 1, none⟩), .pointer (some ⟨q, 2, none⟩), .pointer (some ⟨q, 3, none⟩), .pointer (some ⟨q, 4, none⟩)] 72)).heap.size) := by
            have := HW2.out.size; rw [HQ.out] at this; exact this
          have HB13 : Hid (Below gA w w3) := HBL.out.trans ((HW2.out.mono (by omega)).trans (HB3.out.below (by have := HSW2.out; omega) fun b _ hb => by rcases hb with rfl | rfl <;> omega))
          have HS3 : Hid (gA + 2 ≤ w3.heap.size) := by have := HSW2.out; have := HB3.out.size; show _ ≤ _; omega
          clear HTT HB3 HW2 HSW2
          have hq3 := HM3.out.2.1
          have HQ3 : Hid (Blk w3 q 77 #[.int .i64 a, .int .i64 b, .int .i64 c, .int .i64 d, .int .i64 e]) := hq3
          clear hq3
          go_wp2_with (first
            | (with_reducible (show wpList _ _ _ _ _ _); refine ld_a5 rfl (.tmp 9) rfl q rfl _ HQ3.out rfl ?_)
            | (go_at_call 38; (with_reducible refine HOF.out.mono ?_); rintro x w4 ⟨rfl, h4⟩; have H4 := Lib.hid h4; have HO4 := Lib.hid (own_on HO3.out h4); clear h4)
            | (at_builtin; refine wpList_append_own _ rfl (.tmp 32) (.tmp 36) 40 rfl (gA + 2) 46 i0 (.agg #[.int .i64 0, .int .i64 0, .int .i64 0, .int .i64 0, .int .u64 0]) 5 40 Tryd.underlying40 hi0 hz0 hz1 hz2 rfl (by decide) _ acc.length _ rfl (HO4.out.alloc _) ⟨w4.heap.size, 0, none⟩ 1 1 (clN ⟨a, b, c, d, e⟩) rfl rfl (new5N w4 a b c d e) (one5N _) (by unfold maxLen; omega) (by omega) (by have := HS3.out; have := H4.out.size; simp; omega) ?_; intro v5 w5 own5 gr5 _; have O5 := Lib.hid own5; have G5 := Lib.hid gr5; clear own5 gr5))
          have O6 : Hid (OwnN (gA + 2) w5 v5 (acc ++ [⟨a, b, c, d, e⟩])) := by
            show w5.ownsRow _ _ _ _ _ _
            rw [List.length_append, dsN_app, dsN_one]; exact O5.out
          have B5 : Hid (But (fun b => gA + 2 ≤ b) w4 w5) := ((But.refl _ w4).alloc _).grown G5.out fun b hb => .inl (HO4.out.lt b hb).1
          go_roundw
          case rel =>
            refine ⟨f, j, acc ++ [⟨a, b, c, d, e⟩], rfl, hjn, by have := HKJ.out.1; omega, by simp; have := HKJ.out.1; omega, HRN.out, O6.out, ?_, ?_, ?_, ?_⟩
            · exact (HA3.out.below H4.out (by have := HS3.out; omega)).but B5.out (by omega)
            · exact (HH3.out.below H4.out (by have := HS3.out; omega)).but B5.out (by omega)
            · exact HB13.out.trans ((H4.out.mono (by have := HS3.out; omega)).trans (B5.out.below (by have := HS3.out; have := H4.out.size; omega) fun b _ hb => by omega))
            · have := HS3.out; have := H4.out.size; have := B5.out.size; omega
          case measure => have := HKJ.out.1; simp [intOf]; omega
    · obtain rfl : k = n := by omega
      have k1 : ¬ (k : Int) < (k : Int) := by omega
      have HRN : Hid (R = (acc, -1)) := by
        show _ = _
        rw [← HP.out]
        cases f with
        | zero => rw [parse5, if_neg (by rw [HN.out]; omega)]
        | succ f => rw [parse5, if_neg (by rw [HN.out]; omega)]
      go_wp2_with fail
      go_ret2
      rw [HRN.out, HGA.out]
      exact ⟨_, rfl, own_mono HOW.out (by omega), HBL.out⟩
theorem peN_any (A : Option Addr) (l : List UInt8) (n cap : Nat) (hn : l.length = n) (hc : n ≤ cap) (hl : n ≤ 10000) (w : World) (hA : BysIn w.heap.size w A l) :
    Calls Tryd.prog 20 #[.slice A n cap] w fun e w' => ∃ v, e = .returned (.tuple #[v, .int .i64 (parseAll l).2]) ∧ OwnN w.heap.size w' v (parseAll l).1 ∧ Below w.heap.size w w' := by
  have HP := Lib.hid (parseN_any A l n cap hn hc hl w hA)
  clear hn hA
  generalize parseAll l = R at *
  go_enter Tryd.func20, Tryd.ntmps20
  go_wp2_with (go_at_call 37; (with_reducible refine HP.out.mono ?_); rintro e w1 ⟨v, rfl, h1, h2⟩; have H1 := Lib.hid h1; have H2 := Lib.hid h2; clear h1 h2)
  go_ret2
  exact ⟨_, rfl, H1.out, H2.out⟩
end Go.Proofs.YtchhenpijbecaaaDoor
