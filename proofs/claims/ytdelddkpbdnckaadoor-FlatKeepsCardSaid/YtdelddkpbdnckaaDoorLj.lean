/- What is right is right behind any event; who has exited stays (layer 19): printed by wip/src19/gen_lj.py. -/
import Derived.Test.YtdelddkpbdnckaaDoorLh
import Derived.Test.YtdelddkpbdnckaaDoorLd
namespace Go.Proofs.YtdelddkpbdnckaaDoor
open Go.RowKit
set_option maxRecDepth 100000

theorem loadK_halt {w : World} {ops : Array Oper} {rest : List Oper} {op : Oper} {a : Act} {Q : Exit → Act → World → Prop} {g : Nat × Bool} (_ : op.guard = some g) (x : Operand) (_ : op.op = .load 30 x) (h : Hid (wpList Tryd.prog ops Q (op :: rest) a w)) : wpList Tryd.prog ops Q (op :: rest) a w := h.out
theorem ld_flatK {F O : Value} {p : Nat → Bool} {t : Int} {w : World} {ops : Array Oper} {rest : List Oper} {o : Oper} {a : Act} {Q : Exit → Act → World → Prop} (hgd : Region.wanted o (yielded ops a.tmps) = true) (x : Operand) (ho : o.op = .load 30 x)
    (g : Nat) (hx : a.eval x = .pointer (some ⟨g, 0, none⟩)) (hb : BF w g F O p t) (h : wpList Tryd.prog ops Q rest (a.put o.dst (flV F O p t)) w) : wpList Tryd.prog ops Q (o :: rest) a w :=
  BigFrame.wpList_want hgd fun _ hK => wp_load_mid 30 x ho g 0 hx (flL F O p t) _ hb.all under30 rfl (by rw [infoFlat, flL_len]) (hK _ _ h)
section
variable {w : World} {B : Nat} {PA : Option Addr} {ps : List PR}
set_option maxHeartbeats 16000000 in
theorem keeps_any (hG : Gnd w B PA ps) (pcap : Nat) (f : Fl) (A A2 : Option Addr) (c c2 : Nat) (h : InF w (.slice A f.ts.length c) (.slice A2 f.ow.length c2) f.ts f.ow) (hcap : f.ts.length ≤ c) (ht : In64F f.tm) (e : EvP) (he : In64F e.a) :
    Calls Tryd.prog 4 #[flV (.slice A f.ts.length c) (.slice A2 f.ow.length c2) f.p f.tm, .slice PA ps.length pcap, evV e] w (GotB w.heap.size (.bool true) w) := by
  have HG := Lib.hid hG; have HH := Lib.hid h; have HCAP := Lib.hid hcap; have HTM := Lib.hid ht; have HEA := Lib.hid he
  obtain ⟨R, hR⟩ : ∃ R, turnP f ps e = R := ⟨_, rfl⟩
  have HR := Lib.hid hR
  obtain ⟨n, hn⟩ : ∃ n, f.ts.length = n := ⟨_, rfl⟩
  obtain ⟨m, hm⟩ : ∃ m, f.ow.length = m := ⟨_, rfl⟩
  have HLN := Lib.hid hn; have HLM := Lib.hid hm
  have hbl : Below w.heap.size w ((w.alloc (.cells (flL (.slice A n c) (.slice A2 m c2) f.p f.tm).toArray 30)).alloc (.cells #[.int .i64 e.kd, .int .i64 e.tk, .int .i64 e.cpu, .int .i64 e.a, .int .i64 e.b] 36)) := ((Below.refl _ _).alloc (Nat.le_refl _) _).alloc (by simp) _
  have hbf : BF ((w.alloc (.cells (flL (.slice A n c) (.slice A2 m c2) f.p f.tm).toArray 30)).alloc (.cells #[.int .i64 e.kd, .int .i64 e.tk, .int .i64 e.cpu, .int .i64 e.a, .int .i64 e.b] 36)) w.heap.size (.slice A n c) (.slice A2 m c2) f.p f.tm := (Blk.new w _ _).alloc _
  have hbe : Blk ((w.alloc (.cells (flL (.slice A n c) (.slice A2 m c2) f.p f.tm).toArray 30)).alloc (.cells #[.int .i64 e.kd, .int .i64 e.tk, .int .i64 e.cpu, .int .i64 e.a, .int .i64 e.b] 36)) (w.heap.size + 1) 36 #[.int .i64 e.kd, .int .i64 e.tk, .int .i64 e.cpu, .int .i64 e.a, .int .i64 e.b] := by
    have := Blk.new (w.alloc (.cells (flL (.slice A n c) (.slice A2 m c2) f.p f.tm).toArray 30)) 36 #[.int .i64 e.kd, .int .i64 e.tk, .int .i64 e.cpu, .int .i64 e.a, .int .i64 e.b]
    simpa using this
  rw [hn] at hcap
  rw [hn, hm]
  clear hG h ht he hR hn hm hcap
  go_enter Tryd.func4, Tryd.ntmps4
  go_upto_region 1 with fail
  generalize (w.alloc (.cells (flL (.slice A n c) (.slice A2 m c2) f.p f.tm).toArray 30)).alloc (.cells #[.int .i64 e.kd, .int .i64 e.tk, .int .i64 e.cpu, .int .i64 e.a, .int .i64 e.b] 36) = W at *
  have HBL := Lib.hid hbl; have HBF := Lib.hid hbf; have HBE := Lib.hid hbe
  clear hbl hbf hbe
  have HLV : Hid (∀ X, Below w.heap.size w X → Calls Tryd.prog 9 #[] X (GotB X.heap.size (.bool true) X)) := fun X hX => lives19_any (HG.out.below (hX.mono HG.out.le))
  obtain ⟨lt, hlt⟩ : ∃ b, lightP n m ps = b := ⟨_, rfl⟩
  have HLT := Lib.hid hlt
  have HLI : Hid (Calls Tryd.prog 7 #[flV (.slice A n c) (.slice A2 m c2) f.p f.tm, .slice PA ps.length pcap] W (GotB W.heap.size (.bool lt) W)) := by
    rw [← hlt]; exact light_any A A2 n m c c2 pcap (HG.out.below (HBL.out.mono HG.out.le))
  clear hlt
  cases lt with
  | false =>
    go_wp2_with (first
      | (with_reducible (show wpList _ _ _ _ _ _); refine ld_flat rfl (.tmp 3) rfl w.heap.size rfl HBF.out ?_)
      | (go_at_call 7; (with_reducible refine HLI.out.mono ?_); rintro e w3 ⟨rfl, h3⟩; have HB3 := Lib.hid (HBL.out.trans (h3.mono HBL.out.size)); have HLV3 := Lib.hid (HLV.out _ HB3.out); clear h3)
      | (go_at_call 9; (with_reducible refine HLV3.out.mono ?_); rintro e w4 ⟨rfl, h4⟩; have HB4 := Lib.hid (HB3.out.trans (h4.mono HB3.out.size)); clear h4))
    go_ret
    exact ⟨rfl, HB4.out⟩
  | true =>
    have hlen := light_len HLT.out
    have HLE := Lib.hid hlen
    clear hlen
    go_upto_region 3 with (first
      | (with_reducible (show wpList _ _ _ _ _ _); refine ld_flat rfl (.tmp 3) rfl w.heap.size rfl HBF.out ?_)
      | (go_at_call 7; (with_reducible refine HLI.out.mono ?_); rintro e w3 ⟨rfl, h3⟩; have HB3 := Lib.hid (HBL.out.trans (h3.mono HBL.out.size)); have HBF3 := Lib.hid (Blk.below HBF.out h3 (Blk.lt HBF.out)); have HBE3 := Lib.hid (HBE.out.below h3 HBE.out.lt); clear h3))
    clear HBF HBE HLI
    obtain ⟨kd, tk, cpu, a, b⟩ := e
    have e0 := HBE3.out.cell 0; have e1 := HBE3.out.cell 1; have e2 := HBE3.out.cell 2; have e3 := HBE3.out.cell 3; have e4 := HBE3.out.cell 4
    simp only [List.getElem?_toArray, List.getElem?_cons_succ, List.getElem?_cons_zero] at e0 e1 e2 e3 e4
    have HNX : Hid (Calls Tryd.prog 14 #[.agg (flL (.slice A n c) (.slice A2 m c2) f.p f.tm).toArray, .slice PA ps.length pcap, .agg #[.int .i64 kd, .int .i64 tk, .int .i64 cpu, .int .i64 a, .int .i64 b]] w3 (NexG w3 f R)) := by
      have := next_any (HH.out.below HB3.out) pcap (by have := HLE.out.1; have := HLN.out; omega) (by have := HLE.out.2.1; have := HLM.out; omega) (HG.out.below (HB3.out.mono HG.out.le)) HTM.out ⟨kd, tk, cpu, a, b⟩ HEA.out
      rw [HR.out, HLN.out, HLM.out] at this; exact this
    go_upto_region 4 with (first
      | (with_reducible (show wpList _ _ _ _ _ _); refine ld_flat rfl (.tmp 3) rfl w.heap.size rfl HBF3.out ?_)
      | (go_at_call 14; (with_reducible refine HNX.out.mono ?_); rintro er w4 ⟨GF, GO, rfl, h4, hb4⟩; obtain ⟨AG, cG, rfl, -⟩ := own_tsIn h4.tk; obtain ⟨AH, cH, rfl, -⟩ := own_numsIn h4.ow; have HB4 := Lib.hid hb4; have H4 := Lib.hid h4; clear h4 hb4)
      | (with_reducible (show wpList _ _ _ _ _ _); refine st_flat rfl (.tmp 7) (.tmp 23) rfl w4.heap.size rfl rfl rfl rfl _ (Blk.new w4 _ _) rfl ?_))
    obtain ⟨g, hg⟩ : ∃ g, R.getD f = g := ⟨_, rfl⟩
    rw [hg] at H4 ⊢
    have HGD := Lib.hid hg
    clear hg e0 e1 e2 e3 e4
    have HBG : Hid (BF ((w4.alloc (.cells #[.slice none 0 0, .int .u64 0, .int .u64 0, .int .u64 0, .int .u64 0, .int .u64 0, .int .u64 0, .int .u64 0, .int .u64 0, .int .u64 0, .int .u64 0, .int .u64 0, .int .u64 0, .int .u64 0, .int .u64 0, .int .u64 0, .int .u64 0, .slice none 0 0, .int .i64 0] 30)).setRow w4.heap.size (flL (.slice AG g.ts.length cG) (.slice AH g.ow.length cH) g.p g.tm).toArray) w4.heap.size (.slice AG g.ts.length cG) (.slice AH g.ow.length cH) g.p g.tm) := BF.row (Blk.new w4 _ _)
    have HOG : Hid (OwnF ((w4.alloc (.cells #[.slice none 0 0, .int .u64 0, .int .u64 0, .int .u64 0, .int .u64 0, .int .u64 0, .int .u64 0, .int .u64 0, .int .u64 0, .int .u64 0, .int .u64 0, .int .u64 0, .int .u64 0, .int .u64 0, .int .u64 0, .int .u64 0, .int .u64 0, .slice none 0 0, .int .i64 0] 30)).setRow w4.heap.size (flL (.slice AG g.ts.length cG) (.slice AH g.ow.length cH) g.p g.tm).toArray) w3.heap.size (.slice AG g.ts.length cG) (.slice AH g.ow.length cH) g.ts g.ow) := (H4.out.below ((Below.refl _ _).alloc (Nat.le_refl _) _)).row _ _ fun k hk => by have := (H4.out.lt hk).2; omega
    have HBW : Hid (Below w3.heap.size w3 ((w4.alloc (.cells #[.slice none 0 0, .int .u64 0, .int .u64 0, .int .u64 0, .int .u64 0, .int .u64 0, .int .u64 0, .int .u64 0, .int .u64 0, .int .u64 0, .int .u64 0, .int .u64 0, .int .u64 0, .int .u64 0, .int .u64 0, .int .u64 0, .int .u64 0, .slice none 0 0, .int .i64 0] 30)).setRow w4.heap.size (flL (.slice AG g.ts.length cG) (.slice AH g.ow.length cH) g.p g.tm).toArray)) := (((But.of_below (X := fun k => w3.heap.size ≤ k) HB4.out).alloc _).row _ _ (.inr HB4.out.size)).below (Nat.le_refl _) fun k _ q => q
    generalize (w4.alloc (.cells #[.slice none 0 0, .int .u64 0, .int .u64 0, .int .u64 0, .int .u64 0, .int .u64 0, .int .u64 0, .int .u64 0, .int .u64 0, .int .u64 0, .int .u64 0, .int .u64 0, .int .u64 0, .int .u64 0, .int .u64 0, .int .u64 0, .int .u64 0, .slice none 0 0, .int .i64 0] 30)).setRow w4.heap.size (flL (.slice AG g.ts.length cG) (.slice AH g.ow.length cH) g.p g.tm).toArray = V at *
    generalize w4.heap.size = gb at *
    have HBV := Lib.hid (HB3.out.trans (HBW.out.mono HB3.out.size))
    have HBFV : Hid (BF V w.heap.size (.slice A n c) (.slice A2 m c2) f.p f.tm) := Blk.below HBF3.out HBW.out (Blk.lt HBF3.out)
    have HIN := Lib.hid (HH.out.below HBV.out)
    clear HB4 H4 HNX HBE3 HBF3
    cases R with
    | none =>
      have hfg : f = g := HGD.out
      subst hfg
      have HSM : Hid (Calls Tryd.prog 12 #[flV (.slice A n c) (.slice A2 m c2) f.p f.tm, flV (.slice AG f.ts.length cG) (.slice AH f.ow.length cH) f.p f.tm] V (GotB V.heap.size (.bool true) V)) := by
        have := same_yes (p := f.p) (t := f.tm) HIN.out HOG.out.inF (by have := HLE.out.1; have := HLN.out; omega) (by have := HLE.out.2.1; have := HLM.out; omega)
        rw [HLN.out, HLM.out] at this; rw [HLN.out, HLM.out]; exact this
      go_wp2_with (first
        | (with_reducible (show wpList _ _ _ _ _ _); refine ld_flat rfl (.tmp 3) rfl w.heap.size rfl HBFV.out ?_)
        | (with_reducible (show wpList _ _ _ _ _ _); refine ld_flat rfl (.tmp 7) rfl gb rfl HBG.out ?_)
        | (go_at_call 12; (with_reducible refine HSM.out.mono ?_); rintro e w9 ⟨rfl, h9⟩; have HB9 := Lib.hid (HBV.out.trans (h9.mono HBV.out.size)); have HLV9 := Lib.hid (HLV.out _ HB9.out); clear h9)
        | (go_at_call 9; (with_reducible refine HLV9.out.mono ?_); rintro e wA ⟨rfl, hA⟩; have HBF9 := Lib.hid (HB9.out.trans (hA.mono HB9.out.size)); clear hA))
      go_ret
      exact ⟨rfl, HBF9.out⟩
    | some g2 =>
      have hgg : g2 = g := HGD.out
      subst hgg
      have hkp := turnP_keeps HR.out
      have HKP := Lib.hid hkp
      have hln := turnP_len HR.out
      have hcG : g2.ts.length ≤ cG := by
        rcases HOG.out.tk.2 with ⟨e, q⟩ | ⟨b0, cap, cur, e, _, _, q, _⟩
        · simp only [Value.slice.injEq] at e; omega
        · simp only [Value.slice.injEq] at e; omega
      have HCG := Lib.hid hcG; have HLNG := Lib.hid hln.1
      clear hkp hln hcG
      have HR1 : Hid (Calls Tryd.prog 8 #[flV (.slice A n c) (.slice A2 m c2) f.p f.tm] V (RigG V f)) := by
        have := right_any (f := f) HIN.out (fun A' c' q => by simp only [Value.slice.injEq] at q; obtain ⟨-, -, rfl⟩ := q; exact HCAP.out) (by have := HLE.out.1; have := HLN.out; omega) (by have := HLE.out.2.1; have := HLM.out; omega)
        rw [HLN.out, HLM.out] at this; exact this
      have HR2 : Hid (∀ X, Below V.heap.size V X → Calls Tryd.prog 8 #[flV (.slice AG g2.ts.length cG) (.slice AH g2.ow.length cH) g2.p g2.tm] X (RigG X g2)) := fun X hX =>
        right_any (f := g2) (HOG.out.below hX).inF (fun A' c' q => by simp only [Value.slice.injEq] at q; obtain ⟨-, -, rfl⟩ := q; exact HCG.out) (by have := HLE.out.1; have := HLN.out; have := HLNG.out; omega) (by have := HLE.out.2.1; have := HLM.out; have := HKP.out.2.2.2.2; omega)
      have HLG : Hid (n ≤ g2.ts.length ∧ g2.ow.length = m) := ⟨by have := HKP.out.2.2.2.1; have := HLN.out; omega, by have := HKP.out.2.2.2.2; have := HLM.out; omega⟩
      obtain ⟨ng, hng⟩ : ∃ x, g2.ts.length = x := ⟨_, rfl⟩
      obtain ⟨mg, hmg⟩ : ∃ x, g2.ow.length = x := ⟨_, rfl⟩
      have HNG := Lib.hid hng; have HMG := Lib.hid hmg
      rw [hng, hmg] at HBG HOG HR2 HLG ⊢
      have t1 : decide (ng < n) = false := by have := HLG.out.1; simp; omega
      have t1' : decide ((ng : Int) < (n : Int)) = false := by have := HLG.out.1; simp; omega
      have t2 : ((mg : Int) != (m : Int)) = false := by have := HLG.out.2; simp; omega
      clear hng hmg
      go_upto_region 6 with fail
      go_wp2_with (with_reducible (show wpList _ _ _ _ _ _); refine ld_flat rfl (.tmp 3) rfl w.heap.size rfl HBFV.out ?_)
      refine HR1.out.mono ?_
      rintro er w5 ⟨b1, rfl, hb1, h5⟩
      dsimp only
      have HB5 := Lib.hid h5
      have f0 := BF.c0 (Blk.below HBFV.out h5 (Blk.lt HBFV.out)); have f17 := BF.c17 (Blk.below HBFV.out h5 (Blk.lt HBFV.out))
      have g0 := BF.c0 (Blk.below HBG.out h5 (Blk.lt HBG.out)); have g17 := BF.c17 (Blk.below HBG.out h5 (Blk.lt HBG.out))
      have HBG5 := Lib.hid (Blk.below HBG.out h5 (Blk.lt HBG.out))
      cases b1 with
      | false =>
        clear hb1 h5
        go_upto_region 8 with fail
        clear f0 f17 g0 g17 t1 t1' t2
        have HB6 := HB5
        generalize w5 = V6 at *
        have f0 := BF.c0 (Blk.below HBFV.out HB6.out (Blk.lt HBFV.out))
        go_wp2_with fail
        clear f0
        go_loopw [61] (fun iv wr => ∃ k : Nat, iv = .int .i64 k ∧ k ≤ n ∧ Below V6.heap.size V6 wr) (fun iv _ => n - (intOf iv).toNat)
        case atStart => exact ⟨0, rfl, Nat.zero_le _, Below.refl _ _⟩
        case round =>
          obtain ⟨k, rfl, hk, hb⟩ := hrel
          have HBB := Lib.hid (HB6.out.trans (hb.mono HB6.out.size))
          have hn40 : n ≤ 40 := HLE.out.1
          by_cases hlt : k < n
          · obtain ⟨x, hx⟩ : ∃ x, f.ts[k]? = some x := ⟨_, List.getElem?_eq_getElem (by rw [HLN.out]; exact hlt)⟩
            obtain ⟨A', c', hA', hT'⟩ := (HIN.out.below HBB.out).tk
            simp only [Value.slice.injEq, HLN.out, true_and] at hA'
            obtain ⟨rfl, rfl⟩ := hA'
            obtain ⟨bf, off, rfl, -, hr⟩ := hT' k x hx
            obtain ⟨d0, d1, d2, d3, d4, d5, d6, d7⟩ := task_cells hr
            have k0 : (0 : Int) ≤ (k : Int) := by omega
            have k1 : (k : Int) < (n : Int) := by omega
            have HXX := Lib.hid hx
            obtain ⟨pg, pc, ⟨ra, rb, rc, rd⟩, st, on⟩ := x
            dsimp only at d0 d1 d2 d3 d4 d5 d6 d7
            have hal : Below V6.heap.size V6 (wr.alloc (.cells #[.int .i64 pg, .int .i64 pc, .int .i32 ra, .int .i32 rb, .int .i32 rc, .int .i32 rd, .int .i64 st, .int .i64 on] 45)) := hb.alloc hb.size _
            have hxb := Blk.new wr 45 #[.int .i64 pg, .int .i64 pc, .int .i32 ra, .int .i32 rb, .int .i32 rc, .int .i32 rd, .int .i64 st, .int .i64 on]
            clear hr hx hb hT'
            go_upto_region 11 with fail
            generalize wr.alloc (.cells #[.int .i64 pg, .int .i64 pc, .int .i32 ra, .int .i32 rb, .int .i32 rc, .int .i32 rd, .int .i64 st, .int .i64 on] 45) = W3 at *
            generalize wr.heap.size = xb at *
            have HXB := Lib.hid hxb; have HBX := Lib.hid hal
            have HB3V := Lib.hid (HB6.out.trans (hal.mono HB6.out.size))
            clear hxb hal d0 d1 d2 d3 d4 d5 d6 d7
            by_cases h8 : st = 8
            · subst h8
              have hx8 := HKP.out.2.1 k _ HXX.out rfl
              have HX6 : Hid (∀ w', Cls W3.heap.size W3 w' → w'.cell? ⟨xb, 6, none⟩ = some (.int .i64 8)) := fun w' hw => (HXB.out.below hw.bl HXB.out.lt).cell 6
              have HRX : Hid (∀ w', Cls W3.heap.size W3 w' → w'.rangeAt xb 0 (taskC ⟨pg, pc, ⟨ra, rb, rc, rd⟩, 8, on⟩)) := fun w' hw j u hj => by
                rw [Nat.zero_add, (HXB.out.below hw.bl HXB.out.lt).cell, List.getElem?_toArray]; exact hj
              obtain ⟨AG', cG', hAG, hTG⟩ := own_tsIn (HOG.out.below HB3V.out).tk
              simp only [Value.slice.injEq, HNG.out, true_and] at hAG
              obtain ⟨rfl, rfl⟩ := hAG
              obtain ⟨bg, og, rfl, hbg, hrg⟩ := hTG k _ hx8
              have HRG : Hid (∀ w', Cls W3.heap.size W3 w' → w'.rangeAt bg (og + k * 8) (taskC ⟨pg, pc, ⟨ra, rb, rc, rd⟩, 8, on⟩)) := fun w' hw => range_below hrg hw.bl hbg
              have HC0 : Hid (∀ w', Cls W3.heap.size W3 w' → w'.cell? ⟨gb, 0, none⟩ = some (.slice (some ⟨bg, og, none⟩) ng cG)) := fun w' hw => BF.c0 (Blk.below HBG.out (HB3V.out.trans (hw.bl.mono HB3V.out.size)) (Blk.lt HBG.out))
              have k2 : (k : Int) < (ng : Int) := by have := HLG.out.1; omega
              clear hTG hrg hbg hx8
              refine wp_region_cls (by kernel_rfl) (by kernel_rfl) ?_
              repeat
                first
                | go_big_quiet_skip
                | (go_big_quiet_want
                   first
                   | (refine quiet_load_val 3 _ rfl ⟨xb, 6, none⟩ (.int .i64 8) rfl (fun w' h => by have z := HX6.out w' h; go_simp) ?_; go_simp; go_big_quiet_on)
                   | (refine quiet_load_ft _ rfl xb 0 ⟨pg, pc, ⟨ra, rb, rc, rd⟩, 8, on⟩ rfl (fun w' h => HRX.out w' h) ?_; go_simp; go_big_quiet_on)
                   | (refine quiet_load_ft _ rfl bg (og + k * 8) ⟨pg, pc, ⟨ra, rb, rc, rd⟩, 8, on⟩ rfl (fun w' h => HRG.out w' h) ?_; go_simp; go_big_quiet_on)
                   | (refine quiet_neq_ft _ _ _ rfl ⟨pg, pc, ⟨ra, rb, rc, rd⟩, 8, on⟩ rfl rfl ?_; go_simp; go_big_quiet_on)
                   | (refine quiet_load_val 27 _ rfl ⟨gb, 0, none⟩ (.slice (some ⟨bg, og, none⟩) ng cG) rfl (fun w' h => by have z := HC0.out w' h; go_simp) ?_; go_simp; go_big_quiet_on)
                   | (go_big_quiet_op
                      first
                      | go_big_quiet_on
                      | (refine ⟨_, fun _ _ => rfl, ?_⟩; go_big_quiet_on)))
              refine wpQuiet_nil ?_
              intro w7 h7
              have HBR := Lib.hid (HBX.out.trans (h7.bl.mono HBX.out.size))
              clear h7
              go_wp2_with fail
              go_roundw
              case rel => exact ⟨k + 1, by go_num, by omega, HBR.out⟩
              case measure => simp [intOf]; omega
            · have t9 : (st == 8) = false := by simpa using h8
              have HX6 : Hid (∀ w', Cls W3.heap.size W3 w' → w'.cell? ⟨xb, 6, none⟩ = some (.int .i64 st)) := fun w' hw => (HXB.out.below hw.bl HXB.out.lt).cell 6
              refine wp_region_cls (by kernel_rfl) (by kernel_rfl) ?_
              repeat
                first
                | go_big_quiet_skip
                | (go_big_quiet_want
                   first
                   | (refine quiet_load_val 3 _ rfl ⟨xb, 6, none⟩ (.int .i64 st) rfl (fun w' h => by have z := HX6.out w' h; go_simp) ?_; go_simp; go_big_quiet_on)
                   | (go_big_quiet_op
                      first
                      | go_big_quiet_on
                      | (refine ⟨_, fun _ _ => rfl, ?_⟩; go_big_quiet_on)))
              refine wpQuiet_nil ?_
              intro w7 h7
              have HBR := Lib.hid (HBX.out.trans (h7.bl.mono HBX.out.size))
              clear h7
              go_wp2_with fail
              go_roundw
              case rel => exact ⟨k + 1, by go_num, by omega, HBR.out⟩
              case measure => simp [intOf]; omega
          · obtain rfl : k = n := by omega
            have tk : ¬ (k : Int) < (k : Int) := by omega
            have e17 := BF.c17 (Blk.below HBFV.out HBB.out (Blk.lt HBFV.out))
            clear hb
            go_wp2_with fail
            clear e17
            go_loopw [82] (fun iv wq => ∃ i : Nat, iv = .int .i64 i ∧ i ≤ m ∧ Below V.heap.size V wq) (fun iv _ => m - (intOf iv).toNat)
            case atStart => exact ⟨0, rfl, Nat.zero_le _, HBB.out⟩
            case round =>
              obtain ⟨i, rfl, hi, hbi⟩ := hrel
              have HBI := Lib.hid hbi
              have hm40 : m ≤ 40 := HLE.out.2.1
              by_cases him : i < m
              · obtain ⟨z, hz⟩ : ∃ z, f.ow[i]? = some z := ⟨_, List.getElem?_eq_getElem (by rw [HLM.out]; exact him)⟩
                obtain ⟨z', hz'⟩ : ∃ z', g2.ow[i]? = some z' := ⟨_, List.getElem?_eq_getElem (by rw [HMG.out, HLG.out.2]; exact him)⟩
                have hzz := HKP.out.2.2.1 i z z' hz hz'
                obtain ⟨A', c', hA', hN'⟩ := (HIN.out.below hbi).ow
                simp only [Value.slice.injEq, HLM.out, true_and] at hA'
                obtain ⟨rfl, rfl⟩ := hA'
                obtain ⟨b2, o2, rfl, -, hr⟩ := hN' i z hz
                obtain ⟨AH', cH', hAH, hNH⟩ := own_numsIn (HOG.out.below hbi).ow
                simp only [Value.slice.injEq, HMG.out, true_and] at hAH
                obtain ⟨rfl, rfl⟩ := hAH
                obtain ⟨b3, o3, rfl, -, hr'⟩ := hNH i z' hz'
                have g17 := BF.c17 (Blk.below HBG.out hbi (Blk.lt HBG.out))
                have k0 : (0 : Int) ≤ (i : Int) := by omega
                have k1 : (i : Int) < (m : Int) := by omega
                have k2 : (i : Int) < (mg : Int) := by have := HLG.out.2; omega
                clear hz hz' hN' hNH hbi
                by_cases q1 : z' = z
                · subst q1
                  have t1 : (z' != z') = false := by simp
                  clear hzz
                  go_wp2_with fail
                  go_roundw
                  case rel => exact ⟨i + 1, by go_num, by omega, HBI.out⟩
                  case measure => simp [intOf]; omega
                · have t1 : (z' != z) = true := by simpa using q1
                  by_cases q2 : z' = -1
                  · subst q2
                    clear hzz
                    go_wp2_with fail
                    go_roundw
                    case rel => exact ⟨i + 1, by go_num, by omega, HBI.out⟩
                    case measure => simp [intOf]; omega
                  · have t2 : (z' != -1) = true := by simpa using q2
                    obtain rfl : z = -1 := by omega
                    clear hzz
                    go_wp2_with fail
                    go_roundw
                    case rel => exact ⟨i + 1, by go_num, by omega, HBI.out⟩
                    case measure => simp [intOf]; omega
              · obtain rfl : i = m := by omega
                have tk : ¬ (i : Int) < (i : Int) := by omega
                have HBZ := Lib.hid (HBV.out.trans (hbi.mono HBV.out.size))
                have HLVZ := Lib.hid (HLV.out _ HBZ.out)
                clear hbi
                go_wp2_with (go_at_call 9; (with_reducible refine HLVZ.out.mono ?_); rintro e wA ⟨rfl, hA⟩; have HBF9 := Lib.hid (HBZ.out.trans (hA.mono HBZ.out.size)); clear hA)
                go_ret
                exact ⟨rfl, HBF9.out⟩
      | true =>
        have HRF := Lib.hid (HKP.out.1 (hb1.1 rfl))
        clear f0 f17 g0 g17 hb1
        go_wp2_with (with_reducible (show wpList _ _ _ _ _ _); refine loadK_halt rfl (.tmp 7) rfl ?_)
        refine Lib.hid ?_
        refine ld_flatK (by rfl) (.tmp 7) rfl gb rfl HBG5.out ?_
        go_wp2_with fail
        refine (HR2.out w5 h5).mono ?_
        rintro er w6 ⟨b2, rfl, hb2, h6⟩
        dsimp only
        obtain rfl : b2 = true := hb2.2 HRF.out
        have h56 := h5.trans (h6.mono h5.size)
        have f0 := BF.c0 (Blk.below HBFV.out h56 (Blk.lt HBFV.out)); have f17 := BF.c17 (Blk.below HBFV.out h56 (Blk.lt HBFV.out))
        have g0 := BF.c0 (Blk.below HBG.out h56 (Blk.lt HBG.out)); have g17 := BF.c17 (Blk.below HBG.out h56 (Blk.lt HBG.out))
        have HB6 := Lib.hid h56
        clear hb2 h5 h6 h56 HBG5 HB5
        go_upto_region 8 with fail
        clear f0 f17 g0 g17 t1 t1' t2
        generalize w6 = V6 at *
        have f0 := BF.c0 (Blk.below HBFV.out HB6.out (Blk.lt HBFV.out))
        go_wp2_with fail
        clear f0
        go_loopw [61] (fun iv wr => ∃ k : Nat, iv = .int .i64 k ∧ k ≤ n ∧ Below V6.heap.size V6 wr) (fun iv _ => n - (intOf iv).toNat)
        case atStart => exact ⟨0, rfl, Nat.zero_le _, Below.refl _ _⟩
        case round =>
          obtain ⟨k, rfl, hk, hb⟩ := hrel
          have HBB := Lib.hid (HB6.out.trans (hb.mono HB6.out.size))
          have hn40 : n ≤ 40 := HLE.out.1
          by_cases hlt : k < n
          · obtain ⟨x, hx⟩ : ∃ x, f.ts[k]? = some x := ⟨_, List.getElem?_eq_getElem (by rw [HLN.out]; exact hlt)⟩
            obtain ⟨A', c', hA', hT'⟩ := (HIN.out.below HBB.out).tk
            simp only [Value.slice.injEq, HLN.out, true_and] at hA'
            obtain ⟨rfl, rfl⟩ := hA'
            obtain ⟨bf, off, rfl, -, hr⟩ := hT' k x hx
            obtain ⟨d0, d1, d2, d3, d4, d5, d6, d7⟩ := task_cells hr
            have k0 : (0 : Int) ≤ (k : Int) := by omega
            have k1 : (k : Int) < (n : Int) := by omega
            have HXX := Lib.hid hx
            obtain ⟨pg, pc, ⟨ra, rb, rc, rd⟩, st, on⟩ := x
            dsimp only at d0 d1 d2 d3 d4 d5 d6 d7
            have hal : Below V6.heap.size V6 (wr.alloc (.cells #[.int .i64 pg, .int .i64 pc, .int .i32 ra, .int .i32 rb, .int .i32 rc, .int .i32 rd, .int .i64 st, .int .i64 on] 45)) := hb.alloc hb.size _
            have hxb := Blk.new wr 45 #[.int .i64 pg, .int .i64 pc, .int .i32 ra, .int .i32 rb, .int .i32 rc, .int .i32 rd, .int .i64 st, .int .i64 on]
            clear hr hx hb hT'
            go_upto_region 11 with fail
            generalize wr.alloc (.cells #[.int .i64 pg, .int .i64 pc, .int .i32 ra, .int .i32 rb, .int .i32 rc, .int .i32 rd, .int .i64 st, .int .i64 on] 45) = W3 at *
            generalize wr.heap.size = xb at *
            have HXB := Lib.hid hxb; have HBX := Lib.hid hal
            have HB3V := Lib.hid (HB6.out.trans (hal.mono HB6.out.size))
            clear hxb hal d0 d1 d2 d3 d4 d5 d6 d7
            by_cases h8 : st = 8
            · subst h8
              have hx8 := HKP.out.2.1 k _ HXX.out rfl
              have HX6 : Hid (∀ w', Cls W3.heap.size W3 w' → w'.cell? ⟨xb, 6, none⟩ = some (.int .i64 8)) := fun w' hw => (HXB.out.below hw.bl HXB.out.lt).cell 6
              have HRX : Hid (∀ w', Cls W3.heap.size W3 w' → w'.rangeAt xb 0 (taskC ⟨pg, pc, ⟨ra, rb, rc, rd⟩, 8, on⟩)) := fun w' hw j u hj => by
                rw [Nat.zero_add, (HXB.out.below hw.bl HXB.out.lt).cell, List.getElem?_toArray]; exact hj
              obtain ⟨AG', cG', hAG, hTG⟩ := own_tsIn (HOG.out.below HB3V.out).tk
              simp only [Value.slice.injEq, HNG.out, true_and] at hAG
              obtain ⟨rfl, rfl⟩ := hAG
              obtain ⟨bg, og, rfl, hbg, hrg⟩ := hTG k _ hx8
              have HRG : Hid (∀ w', Cls W3.heap.size W3 w' → w'.rangeAt bg (og + k * 8) (taskC ⟨pg, pc, ⟨ra, rb, rc, rd⟩, 8, on⟩)) := fun w' hw => range_below hrg hw.bl hbg
              have HC0 : Hid (∀ w', Cls W3.heap.size W3 w' → w'.cell? ⟨gb, 0, none⟩ = some (.slice (some ⟨bg, og, none⟩) ng cG)) := fun w' hw => BF.c0 (Blk.below HBG.out (HB3V.out.trans (hw.bl.mono HB3V.out.size)) (Blk.lt HBG.out))
              have k2 : (k : Int) < (ng : Int) := by have := HLG.out.1; omega
              clear hTG hrg hbg hx8
              refine wp_region_cls (by kernel_rfl) (by kernel_rfl) ?_
              repeat
                first
                | go_big_quiet_skip
                | (go_big_quiet_want
                   first
                   | (refine quiet_load_val 3 _ rfl ⟨xb, 6, none⟩ (.int .i64 8) rfl (fun w' h => by have z := HX6.out w' h; go_simp) ?_; go_simp; go_big_quiet_on)
                   | (refine quiet_load_ft _ rfl xb 0 ⟨pg, pc, ⟨ra, rb, rc, rd⟩, 8, on⟩ rfl (fun w' h => HRX.out w' h) ?_; go_simp; go_big_quiet_on)
                   | (refine quiet_load_ft _ rfl bg (og + k * 8) ⟨pg, pc, ⟨ra, rb, rc, rd⟩, 8, on⟩ rfl (fun w' h => HRG.out w' h) ?_; go_simp; go_big_quiet_on)
                   | (refine quiet_neq_ft _ _ _ rfl ⟨pg, pc, ⟨ra, rb, rc, rd⟩, 8, on⟩ rfl rfl ?_; go_simp; go_big_quiet_on)
                   | (refine quiet_load_val 27 _ rfl ⟨gb, 0, none⟩ (.slice (some ⟨bg, og, none⟩) ng cG) rfl (fun w' h => by have z := HC0.out w' h; go_simp) ?_; go_simp; go_big_quiet_on)
                   | (go_big_quiet_op
                      first
                      | go_big_quiet_on
                      | (refine ⟨_, fun _ _ => rfl, ?_⟩; go_big_quiet_on)))
              refine wpQuiet_nil ?_
              intro w7 h7
              have HBR := Lib.hid (HBX.out.trans (h7.bl.mono HBX.out.size))
              clear h7
              go_wp2_with fail
              go_roundw
              case rel => exact ⟨k + 1, by go_num, by omega, HBR.out⟩
              case measure => simp [intOf]; omega
            · have t9 : (st == 8) = false := by simpa using h8
              have HX6 : Hid (∀ w', Cls W3.heap.size W3 w' → w'.cell? ⟨xb, 6, none⟩ = some (.int .i64 st)) := fun w' hw => (HXB.out.below hw.bl HXB.out.lt).cell 6
              refine wp_region_cls (by kernel_rfl) (by kernel_rfl) ?_
              repeat
                first
                | go_big_quiet_skip
                | (go_big_quiet_want
                   first
                   | (refine quiet_load_val 3 _ rfl ⟨xb, 6, none⟩ (.int .i64 st) rfl (fun w' h => by have z := HX6.out w' h; go_simp) ?_; go_simp; go_big_quiet_on)
                   | (go_big_quiet_op
                      first
                      | go_big_quiet_on
                      | (refine ⟨_, fun _ _ => rfl, ?_⟩; go_big_quiet_on)))
              refine wpQuiet_nil ?_
              intro w7 h7
              have HBR := Lib.hid (HBX.out.trans (h7.bl.mono HBX.out.size))
              clear h7
              go_wp2_with fail
              go_roundw
              case rel => exact ⟨k + 1, by go_num, by omega, HBR.out⟩
              case measure => simp [intOf]; omega
          · obtain rfl : k = n := by omega
            have tk : ¬ (k : Int) < (k : Int) := by omega
            have e17 := BF.c17 (Blk.below HBFV.out HBB.out (Blk.lt HBFV.out))
            clear hb
            go_wp2_with fail
            clear e17
            go_loopw [82] (fun iv wq => ∃ i : Nat, iv = .int .i64 i ∧ i ≤ m ∧ Below V.heap.size V wq) (fun iv _ => m - (intOf iv).toNat)
            case atStart => exact ⟨0, rfl, Nat.zero_le _, HBB.out⟩
            case round =>
              obtain ⟨i, rfl, hi, hbi⟩ := hrel
              have HBI := Lib.hid hbi
              have hm40 : m ≤ 40 := HLE.out.2.1
              by_cases him : i < m
              · obtain ⟨z, hz⟩ : ∃ z, f.ow[i]? = some z := ⟨_, List.getElem?_eq_getElem (by rw [HLM.out]; exact him)⟩
                obtain ⟨z', hz'⟩ : ∃ z', g2.ow[i]? = some z' := ⟨_, List.getElem?_eq_getElem (by rw [HMG.out, HLG.out.2]; exact him)⟩
                have hzz := HKP.out.2.2.1 i z z' hz hz'
                obtain ⟨A', c', hA', hN'⟩ := (HIN.out.below hbi).ow
                simp only [Value.slice.injEq, HLM.out, true_and] at hA'
                obtain ⟨rfl, rfl⟩ := hA'
                obtain ⟨b2, o2, rfl, -, hr⟩ := hN' i z hz
                obtain ⟨AH', cH', hAH, hNH⟩ := own_numsIn (HOG.out.below hbi).ow
                simp only [Value.slice.injEq, HMG.out, true_and] at hAH
                obtain ⟨rfl, rfl⟩ := hAH
                obtain ⟨b3, o3, rfl, -, hr'⟩ := hNH i z' hz'
                have g17 := BF.c17 (Blk.below HBG.out hbi (Blk.lt HBG.out))
                have k0 : (0 : Int) ≤ (i : Int) := by omega
                have k1 : (i : Int) < (m : Int) := by omega
                have k2 : (i : Int) < (mg : Int) := by have := HLG.out.2; omega
                clear hz hz' hN' hNH hbi
                by_cases q1 : z' = z
                · subst q1
                  have t1 : (z' != z') = false := by simp
                  clear hzz
                  go_wp2_with fail
                  go_roundw
                  case rel => exact ⟨i + 1, by go_num, by omega, HBI.out⟩
                  case measure => simp [intOf]; omega
                · have t1 : (z' != z) = true := by simpa using q1
                  by_cases q2 : z' = -1
                  · subst q2
                    clear hzz
                    go_wp2_with fail
                    go_roundw
                    case rel => exact ⟨i + 1, by go_num, by omega, HBI.out⟩
                    case measure => simp [intOf]; omega
                  · have t2 : (z' != -1) = true := by simpa using q2
                    obtain rfl : z = -1 := by omega
                    clear hzz
                    go_wp2_with fail
                    go_roundw
                    case rel => exact ⟨i + 1, by go_num, by omega, HBI.out⟩
                    case measure => simp [intOf]; omega
              · obtain rfl : i = m := by omega
                have tk : ¬ (i : Int) < (i : Int) := by omega
                have HBZ := Lib.hid (HBV.out.trans (hbi.mono HBV.out.size))
                have HLVZ := Lib.hid (HLV.out _ HBZ.out)
                clear hbi
                go_wp2_with (go_at_call 9; (with_reducible refine HLVZ.out.mono ?_); rintro e wA ⟨rfl, hA⟩; have HBF9 := Lib.hid (HBZ.out.trans (hA.mono HBZ.out.size)); clear hA)
                go_ret
                exact ⟨rfl, HBF9.out⟩
end
end Go.Proofs.YtdelddkpbdnckaaDoor
