/- layer 31 (codec): the document's Fives. -/
import Derived.Test.YtchhenpijbecaaaDoorCl
import Derived.Test.YtchhenpijbecaaaDoorCu
namespace Go.Proofs.YtchhenpijbecaaaDoor
open Go.RowKit
set_option maxRecDepth 100000

theorem infoPA : (Tryd.prog.info? 77).map (fun i => (i.zero, i.size, i.bytes)) = some (some (.agg #[.int .i64 0, .int .i64 0, .int .i64 0, .int .i64 0, .int .i64 0]), 5, 40) := by kernel_rfl
/-- a row of fives of the call's own. -/
abbrev OwnA (B : Nat) (w : World) (D : Value) (L : List I5) : Prop := w.ownsRow B 77 5 D L.length (dsV L)
theorem own5A {w : World} {B : Nat} {D : Value} {L : List I5} (h : OwnA B w D L) : ∃ A cap, D = .slice A L.length cap ∧ L.length ≤ cap ∧ RowsV w.heap.size w A L := by
  have h' := h
  rcases h.2 with ⟨rfl, hn⟩ | ⟨g, cap, cur, rfl, hg, hh, hnc, _⟩
  · have : L = [] := List.eq_nil_of_length_eq_zero hn
    subst this
    exact ⟨none, 0, rfl, Nat.le_refl _, fun i x hx => by simp at hx⟩
  · refine ⟨some ⟨g, 0, none⟩, cap, rfl, hnc, fun i x hx => ⟨g, 0, rfl, (h'.lt g rfl).2, fun j u hj => ?_⟩⟩
    have hj5 : j < 5 := by have := (List.getElem?_eq_some_iff.1 hj).1; rwa [clV_len] at this
    have := h'.cells (g := g) rfl (i * 5 + j) u (by rw [dsV_get L i x hx j hj5]; exact hj)
    have hadd : (⟨g, 0, none⟩ : Addr).add (i * 5 + j) = ⟨g, 0 + i * 5 + j, none⟩ := by unfold Addr.add; split <;> simp_all
    rw [← hadd]; exact this
theorem newA (w : World) (a b c d e : Int) : ∀ j u, (clV ⟨a, b, c, d, e⟩)[j]? = some u → (w.alloc (.cells #[.int .i64 a, .int .i64 b, .int .i64 c, .int .i64 d, .int .i64 e] 77)).cell? ((⟨w.heap.size, 0, none⟩ : Addr).add j) = some u := by
  intro u y hy
  have hadd : (⟨w.heap.size, 0, none⟩ : Addr).add u = ⟨w.heap.size, u, none⟩ := by unfold Addr.add; split <;> simp_all
  rw [hadd, (Blk.new w _ _).cell]
  match u, hy with
  | 0, hy => exact hy
  | 1, hy => exact hy
  | 2, hy => exact hy
  | 3, hy => exact hy
  | 4, hy => exact hy
/-- the document's number at a place within the bytes. -/
theorem getD_nat {l : List UInt8} {j : Nat} (hj : j ≤ l.length) : (getD l j = none ∧ getN l j = none) ∨ ∃ x m, getD l j = some (x, m) ∧ getN l j = some (x, j + m) ∧ 1 ≤ m ∧ m ≤ 10 ∧ j + m ≤ l.length ∧ B64 x := by
  have h1 := getI_D l (j : Int)
  rw [getI_nat hj] at h1
  match hd : getD l j with
  | none => rw [hd] at h1; exact .inl ⟨rfl, h1⟩
  | some (x, m) =>
    rw [hd] at h1
    simp at h1
    refine .inr ⟨x, m, rfl, h1, ?_⟩
    obtain ⟨rest, e1, e2, e3, e4, e5⟩ := getN_back hj h1
    have h2 := intB_pos x
    have h3 := intB_len (n := x) ⟨e3, e4⟩
    exact ⟨by omega, by omega, e5, e3, e4⟩
set_option maxHeartbeats 16000000 in
theorem refFives_any (A : Option Addr) (l : List UInt8) (n cap : Nat) (hn : l.length = n) (hl : n ≤ 10000) (w : World) (hA : BysIn w.heap.size w A l) :
    Calls Tryd.prog 17 #[.slice A n cap] w fun e w' => ∃ v, e = .returned (.tuple #[v, .int .i64 (parseAll l).2]) ∧ OwnA w.heap.size w' v (parseAll l).1 ∧ Below w.heap.size w w' := by
  obtain ⟨R, hR⟩ : ∃ R, parseAll l = R := ⟨_, rfl⟩
  rw [hR]
  have HR := Lib.hid (show parse5 l n 0 [] = R by rw [← hR, ← hn]; rfl)
  have HA := Lib.hid hA; have HN := Lib.hid hn
  obtain ⟨i0, hi0, hz0, hz1, hz2⟩ := info_parts infoPA
  clear hA hn hR
  go_enter Tryd.func17, Tryd.ntmps17
  go_wp2_with fail
  go_loopw [4, 5] (fun a kv wr => ∃ (f k : Nat) (acc : List I5), kv = .int .i64 k ∧ k ≤ n ∧ n ≤ f + k ∧ acc.length ≤ k ∧ parse5 l f k acc = R ∧ OwnA w.heap.size wr a acc ∧ Below w.heap.size w wr) (fun _ kv _ => n - (intOf kv).toNat)
  case atStart => exact ⟨n, 0, [], rfl, Nat.zero_le _, by omega, by simp, HR.out, World.ownsRow_nil _ _ _ _, Below.refl _ _⟩
  case round =>
    obtain ⟨f, k, acc, rfl, hk, hf, hal, hp, hown, hbl⟩ := hrel
    have HP := Lib.hid hp; have HOW := Lib.hid hown; have HBL := Lib.hid hbl
    clear hp hown hbl
    by_cases hlt : k < n
    · have k1 : (k : Int) < (n : Int) := by omega
      obtain ⟨f, rfl⟩ : ∃ f', f = f' + 1 := ⟨f - 1, by omega⟩
      have hW1 : Below wr.heap.size wr (wr.alloc (.cells #[.int .i64 0, .int .i64 0, .int .i64 0, .int .i64 0, .int .i64 0] 77)) := (Below.refl _ _).alloc (Nat.le_refl _) _
      have hq0 := Blk.new wr 77 #[.int .i64 0, .int .i64 0, .int .i64 0, .int .i64 0, .int .i64 0]
      go_upto_region 6 with fail
      generalize wr.alloc (.cells #[.int .i64 0, .int .i64 0, .int .i64 0, .int .i64 0, .int .i64 0] 77) = W at *
      have HOV := Lib.hid (own_on HOW.out hW1)
      have HBV := Lib.hid (HBL.out.trans (hW1.mono HBL.out.size))
      have HQ0 : Hid (Blk W wr.heap.size 77 (ar5 [])) := hq0
      have HQS := Lib.hid (show w.heap.size ≤ wr.heap.size from HBL.out.size)
      have HQL := Lib.hid (Blk.lt hq0)
      have HGL : Hid (∀ g, u4.ownBlock = some g → g < wr.heap.size) := fun g hg => (HOW.out.lt g hg).2
      clear hW1 hq0 HOW HBL
      obtain ⟨q, hq⟩ : ∃ q, wr.heap.size = q := ⟨_, rfl⟩
      rw [hq] at HQ0 HQS HQL HGL ⊢
      clear hq
      obtain ⟨R1, hR1⟩ : ∃ R1, takeN l 5 k = R1 := ⟨_, rfl⟩
      have HR1 := Lib.hid hR1
      clear hR1
      obtain ⟨wo, hwo⟩ : ∃ wo : World, wo = W := ⟨_, rfl⟩
      have HWO := Lib.hid hwo
      clear hwo
      go_wp2_with fail
      go_loopw [5, 8] (fun jv iv wq => ∃ (xs : List Int) (j : Nat), jv = .int .i64 j ∧ iv = .int .i64 xs.length ∧ xs.length ≤ 5 ∧ j ≤ n ∧ Blk wq q 77 (ar5 xs) ∧ But (fun b => b = q) wo wq ∧ (takeN l (5 - xs.length) j).map (fun p => (xs ++ p.1, p.2)) = R1) (fun _ iv _ => 5 - (intOf iv).toNat)
      case atStart => exact ⟨[], k, rfl, rfl, by decide, hk, HQ0.out, by rw [HWO.out]; exact But.refl _ _, by rw [← HR1.out]; show Option.map _ (takeN l 5 k) = _; cases takeN l 5 k <;> rfl⟩
      case round =>
        obtain ⟨xs, j, rfl, rfl, hxl, hjn, hblk, hbut, htk⟩ := hrel
        have HBK := Lib.hid hblk; have HBU := Lib.hid hbut; have HTK := Lib.hid htk
        clear hblk hbut htk
        have HBYR : Hid (BysIn w.heap.size wr A l) := by
          have e := HWO.out; subst e
          exact (HA.out.below HBV.out).below (HBU.out.below (Nat.le_trans HQS.out (Nat.le_of_lt HQL.out)) fun b _ hb => by rw [hb]; exact HQS.out)
        obtain ⟨i, hi⟩ : ∃ i, xs.length = i := ⟨_, rfl⟩
        have HXI := Lib.hid hi
        rw [hi] at hxl ⊢
        rw [hi] at HTK
        clear hi
        by_cases hi5 : i < 5
        · have i1 : (i : Int) < 5 := by omega
          have i0' : (0 : Int) ≤ (i : Int) := by omega
          have HG := Lib.hid (refGet_any A l n cap HN.out (by omega) w.heap.size (j : Int) (by unfold B64; omega) wr HBYR.out)
          have htE : takeN l (5 - i) j = match getN l j with | none => none | some (x, m) => (takeN l (5 - (i + 1)) m).map fun p => (x :: p.1, p.2) := by
            rw [show 5 - i = (5 - (i + 1)) + 1 by omega, takeN]
            cases getN l j <;> rfl
          have HTE := Lib.hid htE
          clear htE
          rcases getD_nat (l := l) (j := j) (by rw [HN.out]; exact hjn) with ⟨g1, g2⟩ | ⟨x, m, g1, g2, hm1, hm10, hjm, hx64⟩
          · rw [g1] at HG
            rw [g2] at HTE
            have HRN : Hid (R1 = none) := by show _ = _; rw [← HTK.out, HTE.out]; rfl
            have HRR : Hid (R = ([], (k : Int))) := by
              show _ = _
              rw [← HP.out, parse5, if_pos (by rw [HN.out]; exact hlt)]; unfold get5; rw [HR1.out, HRN.out]; rfl
            unfold tupD at HG
            clear g1 g2
            go_wp2_with (go_at_call 9; (with_reducible refine HG.out.mono ?_); rintro e w' ⟨rfl, rfl⟩)
            go_ret2
            rw [HRR.out]
            refine ⟨_, rfl, World.ownsRow_nil _ _ _ _, ?_⟩
            have e := HWO.out; subst e
            exact HBV.out.trans (HBU.out.below (Nat.le_trans HQS.out (Nat.le_of_lt HQL.out)) fun b _ hb => by rw [hb]; exact HQS.out)
          · rw [g1] at HG
            rw [g2] at HTE
            have HRN : Hid ((takeN l (5 - (i + 1)) (j + m)).map (fun p => ((xs ++ [x]) ++ p.1, p.2)) = R1) := by
              show _ = _
              rw [← HTK.out, HTE.out]
              show _ = Option.map _ (Option.map _ (takeN l (5 - (i + 1)) (j + m)))
              rw [Option.map_map]; congr 1; funext p; simp
            unfold tupD at HG
            have c0 : wr.cell? ⟨q, i, none⟩ = some (.int .i64 0) := by
              have := HBK.out.cell i
              rw [this, ← HXI.out]; exact ar5_get (by rw [HXI.out]; exact hi5)
            have f0 : wr.frozen? ⟨q, i, none⟩ = false := HBK.out.free i
            have m0 : ((m : Int) == 0) = false := by simp; omega
            have hjm' : j + m ≤ n := by rw [← HN.out]; exact hjm
            clear g1 g2 hjm hx64
            go_wp2_with (go_at_call 9; (with_reducible refine HG.out.mono ?_); rintro e w' ⟨rfl, rfl⟩)
            go_roundw
            case rel =>
              refine ⟨xs ++ [x], j + m, by go_num, by rw [List.length_append, HXI.out]; rfl, by simp [HXI.out]; omega, hjm', ?_, HBU.out.set _ _ (.inl rfl), ?_⟩
              · have := HBK.out.set_ i (.int .i64 x)
                rw [← HXI.out, ar5_set (by rw [HXI.out]; exact hi5)] at this
                rw [HXI.out] at this; exact this
              · rw [List.length_append, HXI.out]; exact HRN.out
            case measure => simp [intOf]; omega
        · obtain rfl : i = 5 := by omega
          have HRN : Hid (R1 = some (xs, j)) := by
            show _ = _
            rw [← HTK.out]; simp [takeN]
          match xs, HXI.out with
          | [a, b, c, d, e], _ =>
            have hg5 : get5 l k = some (⟨a, b, c, d, e⟩, j) := by unfold get5; rw [HR1.out, HRN.out]; rfl
            obtain ⟨hfit, hkj, hjl, -⟩ := get5_back (by rw [HN.out]; omega) hg5
            have HPN : Hid (parse5 l f j (acc ++ [⟨a, b, c, d, e⟩]) = R) := by
              show _ = _
              rw [← HP.out, parse5, if_pos (by rw [HN.out]; exact hlt), hg5]
            have HQ3 : Hid (Blk wr q 77 #[.int .i64 a, .int .i64 b, .int .i64 c, .int .i64 d, .int .i64 e]) := HBK.out
            have HO3 : Hid (OwnA w.heap.size wr u4 acc) := by
              have e' := HWO.out; subst e'
              exact own_but HOV.out HBU.out fun g hg hx => by have := HGL.out g hg; omega
            have HB3 : Hid (Below w.heap.size w wr) := by
              have e' := HWO.out; subst e'
              exact HBV.out.trans (HBU.out.below (Nat.le_trans HQS.out (Nat.le_of_lt HQL.out)) fun b _ hb => by rw [hb]; exact HQS.out)
            clear hg5 hfit
            go_wp2_with (first
              | (with_reducible (show wpList _ _ _ _ _ _); refine ld_a5 rfl (.tmp 7) rfl q rfl _ HQ3.out rfl ?_)
              | (at_builtin; refine wpList_append_own _ rfl (.tmp 35) (.tmp 37) 48 rfl w.heap.size 77 i0 (.agg #[.int .i64 0, .int .i64 0, .int .i64 0, .int .i64 0, .int .i64 0]) 5 40 Tryd.underlying48 hi0 hz0 hz1 hz2 rfl (by decide) _ acc.length _ rfl (HO3.out.alloc _) ⟨wr.heap.size, 0, none⟩ 1 1 (clV ⟨a, b, c, d, e⟩) rfl rfl (newA wr a b c d e) (one5V _) (by unfold maxLen; omega) (by omega) (by have := HB3.out.size; simp; omega) ?_; intro v5 w5 own5 gr5 _; have O5 := Lib.hid own5; have G5 := Lib.hid gr5; clear own5 gr5))
            go_roundw
            case rel =>
              refine ⟨f, j, acc ++ [⟨a, b, c, d, e⟩], rfl, hjn, by omega, by simp; omega, HPN.out, ?_, ?_⟩
              · show w5.ownsRow _ _ _ _ _ _
                rw [List.length_append, dsV_app, dsV_one]; exact O5.out
              · exact HB3.out.trans ((((But.refl (fun b => w.heap.size ≤ b) wr).alloc _).grown G5.out fun b hb => .inl (HO3.out.lt b hb).1).below HB3.out.size fun b _ hb => hb)
            case measure => simp [intOf]; omega
    · obtain rfl : k = n := by omega
      have k1 : ¬ (k : Int) < (k : Int) := by omega
      have HRN : Hid (R = (acc, -1)) := by
        show _ = _
        rw [← HP.out]
        cases f with
        | zero => rw [parse5, if_neg (by rw [HN.out]; omega)]
        | succ f => rw [parse5, if_neg (by rw [HN.out]; omega)]
      go_wp2_with fail
      go_ret2
      rw [HRN.out]
      exact ⟨_, rfl, HOW.out, HBL.out⟩
end Go.Proofs.YtchhenpijbecaaaDoor
