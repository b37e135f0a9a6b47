/- A forest's Regen (layer 13). -/
import Derived.Test.YtekahmfchpgmfaaZt
import Derived.Test.YtekahmfchpgmfaaZn
namespace Go.Proofs.Ytekahmfchpgmfaa
open Go.RowKit
set_option maxRecDepth 100000

/-- Those of l are sealed, one behind the other. -/
def sealOwn (bs : List Bub) (l : List Int) : List Bub := l.foldl (fun t y => t.set y.toNat { atB t y with state := 2 }) bs
theorem sealOwn_app (bs : List Bub) (l : List Int) (y : Int) : sealOwn bs (l ++ [y]) = (sealOwn bs l).set y.toNat { atB (sealOwn bs l) y with state := 2 } := by
  unfold sealOwn; rw [List.foldl_append]; rfl
theorem sealOwn_len : ∀ (l : List Int) (bs : List Bub), (sealOwn bs l).length = bs.length
  | [], _ => rfl
  | y :: r, bs => by
    have := sealOwn_len r (bs.set y.toNat { atB bs y with state := 2 })
    rw [List.length_set] at this
    exact this
def regenE (bs : List Bub) (b : Int) : Int := checkE bs b [4]
def regenO (bs : List Bub) (b : Int) : List Int := selI (inAsk bs b) bs.length
def regenL (bs : List Bub) (b : Int) : List Int := if regenE bs b = 0 then regenO bs b else []
def regenT (bs : List Bub) (b home : Int) : List Bub := if regenE bs b = 0 then (sealOwn bs (regenO bs b)).set b.toNat { atB (sealOwn bs (regenO bs b)) b with state := 3, home := home } else bs
section
variable {fb : Nat} {v : Value} {bs : List Bub} {w w' : World}
abbrev RegenP (fb : Nat) (v : Value) (bs : List Bub) (b home : Int) (w : World) : Ending → World → Prop := fun e w' => ∃ u, e = .returned (.tuple #[u, .int .i64 (regenE bs b)]) ∧ MineN w.heap.size u (regenL bs b) w' ∧ ForC fb v (regenT bs b home) w' ∧ But (OwnF fb v) w w'
def boxes4 (fb : Nat) (w : World) : World := (w.alloc (.cells #[.pointer (some ⟨fb, 0, none⟩)] 23)).alloc (.cells #[.int .i64 4] 3)
set_option maxHeartbeats 8000000 in
theorem fregen_any (b home : Int) (h : ForC fb v bs w) : Calls Try.prog 51 #[.pointer (some ⟨fb, 0, none⟩), .int .i64 b, .int .i64 home] w (RegenP fb v bs b home w) := by
  have hbx : Below w.heap.size w (boxes4 fb w) := ((Below.refl _ _).alloc (Nat.le_refl _) _).alloc (by simp) _
  have hF := h.below hbx
  have HBX := Lib.hid hbx; have HF := Lib.hid hF
  have HOW : Hid (∀ k, OwnF fb v k → k < w.heap.size) := Lib.hid fun k hk => h.lt hk
  have hp : (boxes4 fb w).cell? ⟨w.heap.size, 0, none⟩ = some (.pointer (some ⟨fb, 0, none⟩)) := ((Blk.new w 23 #[.pointer (some ⟨fb, 0, none⟩)]).alloc _).cell 0
  have hst : StIn (boxes4 fb w) (w.heap.size + 1) [4] := by
    have := st_in1 (w.alloc (.cells #[.pointer (some ⟨fb, 0, none⟩)] 23)) 4
    simp only [World.alloc, Array.size_push] at this
    exact this
  have hsz : (boxes4 fb w).heap.size = w.heap.size + 2 := by simp [boxes4]
  have HC := Lib.hid (fcheck_any b hF (w.heap.size + 1) 1 1 [4] rfl hst (by omega))
  have HP := Lib.hid hp; have HSZ := Lib.hid hsz
  unfold RegenP regenL regenT
  rw [show regenE bs b = checkE bs b [4] from rfl]
  by_cases h0 : checkE bs b [4] = 0
  · obtain ⟨i, x, rfl, hx, -⟩ := checkE_0 h0
    rw [h0] at HC ⊢
    rw [if_pos rfl, if_pos rfl, show (i : Int).toNat = i by omega]
    have HIO := Lib.hid (insideOf_any (fb := fb) (i : Int) (boxes4 fb w))
    have HX := Lib.hid hx
    have HOE : Hid (selI (inAsk bs i) bs.length = regenO bs i) := rfl
    have HOI : Hid (∀ y ∈ regenO bs (i : Int), ∃ n : Nat, y = n ∧ n < bs.length) := Lib.hid fun y hy => by
      obtain ⟨n, rfl, hn, -⟩ := selI_mem hy
      exact ⟨n, rfl, hn⟩
    have HOL : Hid ((regenO bs (i : Int)).length ≤ 32) := Lib.hid (Nat.le_trans (selI_len _ _) h.inv.len)
    have hbl' : (i : Int) < (bs.length : Int) := by have := (List.getElem?_eq_some_iff.1 hx).1; omega
    have HTH : Hid (∀ W, Below (boxes4 fb w).heap.size (boxes4 fb w) W → ∀ p q r s, W.cell? ⟨r, 0, none⟩ = some (inFn p q) → W.cell? ⟨s, 0, none⟩ = some (.pointer (some ⟨fb, 0, none⟩)) → W.cell? ⟨p, 0, none⟩ = some (.pointer (some ⟨fb, 0, none⟩)) → W.cell? ⟨q, 0, none⟩ = some (.int .i64 i) → p < W.heap.size → q < W.heap.size → r < W.heap.size → s < W.heap.size →
        Calls Try.prog 56 #[.pointer (some ⟨fb, 0, none⟩), .func (.func 74) #[] #[.pointer (some ⟨r, 0, none⟩), .pointer (some ⟨s, 0, none⟩)]] W fun e w' => ∃ u, e = .returned u ∧ MineN W.heap.size u (regenO bs i) w' ∧ Below W.heap.size W w') :=
      Lib.hid fun W hW p q r s hr hs hp hq h1 h2 h3 h4 => those_regen (i : Int) (hF.below hW) hr hs hp hq h1 h2 h3 h4
    clear hbx hF hst hsz h0 hx h HOE
    generalize regenO bs (i : Int) = O at *
    go_enter Try.func51, Try.ntmps51
    go_wp2_with (go_at_call 54; (refine HC.out.mono ?_); rintro e wq ⟨rfl, rfl⟩)
    refine HIO.out.mono ?_
    rintro e w2 ⟨rfl, h2, hs2, hp2, hq2⟩
    dsimp only [inFn]
    have hp0 := (h2.cell (p := ⟨w.heap.size, 0, none⟩) (by have := HSZ.out; show w.heap.size < _; omega)).trans hp
    have H2 := Lib.hid h2
    clear hp HC HIO h2
    have hst2 : (store ⟨w2.heap.size, 0, none⟩ (Value.func (.func 86) #[] #[.pointer (some ⟨(boxes4 fb w).heap.size, 0, none⟩), .pointer (some ⟨(boxes4 fb w).heap.size + 1, 0, none⟩)])).run Try.prog (w2.alloc (.cells #[.nilFunc] 71)) = .ok () ((w2.alloc (.cells #[.nilFunc] 71)).setCell ⟨w2.heap.size, 0, none⟩ (Value.func (.func 86) #[] #[.pointer (some ⟨(boxes4 fb w).heap.size, 0, none⟩), .pointer (some ⟨(boxes4 fb w).heap.size + 1, 0, none⟩)])) := by
      have hbn := Blk.new w2 71 #[.nilFunc]
      rw [run_store _ _ _ _ _ rfl, hbn.cell 0]
      simp [hbn.free 0]
    go_upto_region 5 with fail
    clear hst2
    have hal : Below w2.heap.size w2 (w2.alloc (.cells #[inFn (boxes4 fb w).heap.size ((boxes4 fb w).heap.size + 1)] 71)) := (Below.refl _ _).alloc (Nat.le_refl _) _
    have hrr : (w2.alloc (.cells #[inFn (boxes4 fb w).heap.size ((boxes4 fb w).heap.size + 1)] 71)).cell? ⟨w2.heap.size, 0, none⟩ = some (inFn (boxes4 fb w).heap.size ((boxes4 fb w).heap.size + 1)) := (Blk.new w2 _ _).cell 0
    have hw2 : w.heap.size + 3 < w2.heap.size := by have := HSZ.out; omega
    have hs0 := (hal.cell (p := ⟨w.heap.size, 0, none⟩) (by show w.heap.size < _; omega)).trans hp0
    have hlA := hal.size
    have hnew : w2.heap.size < (w2.alloc (.cells #[inFn (boxes4 fb w).heap.size ((boxes4 fb w).heap.size + 1)] 71)).heap.size := by simp
    have HT := Lib.hid (HTH.out _ (H2.out.trans (hal.mono H2.out.size)) (boxes4 fb w).heap.size ((boxes4 fb w).heap.size + 1) w2.heap.size w.heap.size hrr hs0
      ((hal.cell (p := ⟨(boxes4 fb w).heap.size, 0, none⟩) (by show (boxes4 fb w).heap.size < _; omega)).trans hp2) ((hal.cell (p := ⟨(boxes4 fb w).heap.size + 1, 0, none⟩) hs2).trans hq2) (by omega) (by omega) hnew (by omega))
    have HB5 := Lib.hid (HBX.out.trans ((H2.out.trans (hal.mono H2.out.size)).mono HBX.out.size))
    have HF5 := Lib.hid ((HF.out.below H2.out).below hal)
    have HP5 := Lib.hid hs0
    have HW5 : Hid (w.heap.size < (w2.alloc (.cells #[inFn (boxes4 fb w).heap.size ((boxes4 fb w).heap.size + 1)] 71)).heap.size) := Lib.hid (by omega)
    clear hal hrr hw2 hlA hnew hs2 hp2 hq2 hp0 H2 HTH HF HP HSZ HBX
    dsimp only [inFn] at HT HB5 HF5 HP5 HW5 hs0
    generalize w2.alloc (.cells #[Value.func (.func 86) #[] #[.pointer (some ⟨(boxes4 fb w).heap.size, 0, none⟩), .pointer (some ⟨(boxes4 fb w).heap.size + 1, 0, none⟩)]] 71) = w5 at *
    go_wp2_with fail
    refine HT.out.mono ?_
    rintro e w6 ⟨u, rfl, hm, h6⟩
    dsimp only
    obtain ⟨A, cap, rfl, hn⟩ := hm.nums
    have HM6 : Hid (MineN w.heap.size (.slice A O.length cap) O w6) := Lib.hid (hm.wider (by have := HW5.out; omega))
    have HN6 := Lib.hid hn
    have HB6 : Hid (But (OwnF fb v) w w6) := Lib.hid (But.of_below (HB5.out.trans (h6.mono HB5.out.size)))
    have HF6 := Lib.hid (HF5.out.below h6)
    have HP6 : Hid (w6.cell? ⟨w.heap.size, 0, none⟩ = some (.pointer (some ⟨fb, 0, none⟩))) := Lib.hid ((h6.cell (p := ⟨w.heap.size, 0, none⟩) HW5.out).trans HP5.out)
    have HS6 : Hid (w.heap.size < w6.heap.size) := Lib.hid (Nat.lt_of_lt_of_le HW5.out h6.size)
    clear hs0 hm hn h6 HT HB5 HF5 HP5 HW5
    have HNO : Hid (¬ OwnF fb v w.heap.size) := Lib.hid fun q => by have := HOW.out _ q; omega
    go_wp2_with fail
    go_loopw [28] (fun iv wr => ∃ k : Nat, iv = .int .i64 k ∧ k ≤ O.length ∧ ForC fb v (sealOwn bs (O.take k)) wr ∧ But (OwnF fb v) w6 wr) (fun iv _ => O.length - (intOf iv).toNat)
    case atStart => exact ⟨0, rfl, Nat.zero_le _, by simpa [sealOwn] using HF6.out, But.refl _ _⟩
    case round =>
      obtain ⟨k, rfl, hk, hf, hb⟩ := hrel
      have HBK := Lib.hid hb
      have hp : wr.cell? ⟨w.heap.size, 0, none⟩ = some (.pointer (some ⟨fb, 0, none⟩)) := by
        rw [World.cell?_of_block (hb.block w.heap.size HS6.out HNO.out)]; exact HP6.out
      clear HF6
      by_cases hlt : k < O.length
      · obtain ⟨y, hy⟩ : ∃ y, O[k]? = some y := ⟨_, List.getElem?_eq_getElem hlt⟩
        obtain ⟨n, rfl, hnl⟩ := HOI.out y (List.mem_of_getElem? hy)
        obtain ⟨ab, off, rfl, hbl, hc⟩ := HN6.out k _ hy
        have hab : ¬ OwnF fb v ab := fun q => by
          have h1 := HOW.out _ q
          have h2 := (HM6.out.lt ab rfl).1
          omega
        have hc' : wr.cell? ⟨ab, off + k, none⟩ = some (.int .i64 n) := by
          rw [World.cell?_of_block (hb.block ab hbl hab)]; exact hc
        obtain ⟨xk, hxk⟩ : ∃ z, (sealOwn bs (O.take k))[n]? = some z := ⟨_, List.getElem?_eq_getElem (by rw [sealOwn_len]; exact hnl)⟩
        obtain ⟨g, cp, hv, hng, hr, hfz⟩ := hf.spot hxk
        subst hv
        have c0 := hf.cell
        have y17 := hr 17 _ (bubL_17 xk)
        have f17 := hfz (n * 19 + 17)
        have in1 : (n : Int) < ((sealOwn bs (O.take k)).length : Int) := by rw [sealOwn_len]; omega
        have in0 : (0 : Int) ≤ (n : Int) := by omega
        have k0 : (0 : Int) ≤ (k : Int) := by omega
        have k1 : (k : Int) < (O.length : Int) := by omega
        obtain ⟨t1, b1⟩ := hf.turn hxk 17 (.int .i64 2) (by omega) (bubL_state xk 2) rfl (by simp) (by simp)
        have hnx : (sealOwn bs (O.take k)).set n { xk with state := 2 } = sealOwn bs (O.take (k + 1)) := by
          rw [List.take_add_one, hy]
          show _ = sealOwn bs (O.take k ++ [(n : Int)])
          rw [sealOwn_app, atB_of hxk, show (n : Int).toNat = n by omega]
        rw [hnx] at t1
        have HT7 := Lib.hid t1
        have HB7 := Lib.hid (HBK.out.trans b1)
        have hol32 : O.length ≤ 32 := HOL.out
        clear hnx hxk hy hbl hc hf hb hr hfz hab t1 b1 hng
        generalize xk.state = s at *
        generalize (sealOwn bs (O.take k)).length = pl at *
        generalize O.length = ol at *
        go_wp2_with fail
        go_roundw
        case rel => exact ⟨k + 1, by go_num, by omega, HT7.out, HB7.out⟩
        case measure => simp [intOf]; omega
      · obtain rfl : k = O.length := by omega
        rw [List.take_length] at hf
        obtain ⟨xb, hxb⟩ : ∃ z, (sealOwn bs O)[i]? = some z := ⟨_, List.getElem?_eq_getElem (by rw [sealOwn_len]; omega)⟩
        have HPA := Lib.hid (fput_any home hxb hf)
        have HAT := Lib.hid (atB_of hxb)
        have tk : ¬ (O.length : Int) < (O.length : Int) := by omega
        clear hf hb hxb hk
        generalize hol : O.length = ol at *
        have HOLE := Lib.hid hol
        clear hol
        go_wp2_with fail
        refine HPA.out.mono ?_
        rintro e w7 ⟨rfl, h7, b7⟩
        dsimp only
        have HT7 := Lib.hid h7
        have HB7 := Lib.hid (HB6.out.trans (HBK.out.trans b7))
        have HM7 := Lib.hid (mine_but HM6.out (HBK.out.trans b7) fun g hg q => by have := HOW.out g q; omega)
        clear h7 b7 HPA
        go_wp2_with fail
        go_ret2
        exact ⟨_, rfl, HM7.out, by rw [HAT.out]; exact HT7.out, HB7.out⟩
  · rw [if_neg h0, if_neg h0]
    have hne : (checkE bs b [4] != 0) = true := by simpa using h0
    clear h0 h hF hbx hp hst hsz HP HSZ
    generalize checkE bs b [4] = r at *
    go_enter Try.func51, Try.ntmps51
    go_wp2_with (go_at_call 54; (refine HC.out.mono ?_); rintro e wq ⟨rfl, rfl⟩)
    go_ret2
    exact ⟨_, rfl, mineN_nil _ _, HF.out, But.of_below HBX.out⟩
end
end Go.Proofs.Ytekahmfchpgmfaa
