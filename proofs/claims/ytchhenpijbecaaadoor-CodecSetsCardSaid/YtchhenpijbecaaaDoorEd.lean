/- layer 31 (codec): GetSet. -/
import Derived.Test.YtchhenpijbecaaaDoorEc
namespace Go.Proofs.YtchhenpijbecaaaDoor
open Go.RowKit
set_option maxRecDepth 100000

def tupS : Option ((Nat → Bool) × Int) → Value
  | none => .tuple #[.agg (cellsOf fun _ => false), .int .i64 0, .bool false]
  | some (p, j) => .tuple #[.agg (cellsOf p), .int .i64 j, .bool true]
theorem wr3 (a b c : Nat) (ha : a ≤ 2000) (hb : b ≤ 2000) (hc : c ≤ 2000) : IntKind.i64.wrap ((a : Int) + (b : Int) + (c : Int)) = (a : Int) + (b : Int) + (c : Int) := by rw [IntKind.wrap_i64]; omega
set_option maxHeartbeats 16000000 in
theorem getSet_any (A : Option Addr) (l : List UInt8) (n cap : Nat) (hn : l.length = n) (hc : n ≤ cap) (hl : n ≤ 900000) (k : Int) (hk : B64 k) (w : World) (hA : BysIn w.heap.size w A l) :
    Calls Tryd.prog 13 #[.slice A n cap, .int .i64 k] w fun e w' => e = .returned (tupS (getS l k)) ∧ Below w.heap.size w w' := by
  have hz := cellsOf_zero.symm
  obtain ⟨R, hR⟩ : ∃ R, getS l k = R := ⟨_, rfl⟩
  rw [hR]
  have HR := Lib.hid hR; have HA := Lib.hid hA; have HN := Lib.hid hn; have HK := Lib.hid hk
  have hb1 : Below w.heap.size w (w.alloc (.cells (cellsOf fun _ => false) 33)) := (Below.refl _ _).alloc (Nat.le_refl _) _
  have hg : (w.alloc (.cells (cellsOf fun _ => false) 33)).heap[w.heap.size]? = some (.cells (cellsOf fun _ => false) 33 (0, 0)) := heap_alloc_new _ _
  have hs : (w.alloc (.cells (cellsOf fun _ => false) 33)).heap.size = w.heap.size + 1 := by simp
  clear hR hA hn hk
  go_enter Tryd.func13, Tryd.ntmps13
  go_upto_region 1 with fail
  generalize w.alloc (.cells (cellsOf fun _ => false) 33) = V at *
  obtain ⟨B, hB⟩ : ∃ B, w.heap.size = B := ⟨_, rfl⟩
  have HBB := Lib.hid hB
  rw [hB] at hb1 hg hs HA ⊢
  clear hB
  have HB1 := Lib.hid hb1; have HG := Lib.hid hg; have HS := Lib.hid hs
  clear hb1 hg hs
  have hta := taker_any A n cap k V
  rw [HS.out, show B + 1 + 1 = B + 2 from rfl, show B + 1 + 2 = B + 3 from rfl] at hta
  have HTA := Lib.hid hta
  clear hta
  go_upto_region 3 with (go_at_call 30; (with_reducible refine HTA.out.mono ?_); rintro e w1 ⟨rfl, ha1, hh1, hb1, hs1⟩; have HA1 := Lib.hid ha1; have HH1 := Lib.hid hh1; have HB2 := Lib.hid hb1; have HS1 := Lib.hid hs1; clear ha1 hh1 hb1 hs1)
  have hs3 : w1.heap.size = B + 3 := HS1.out
  rw [hs3]
  have hbx := Blk.new w1 3 #[.int .i64 0]
  have hsv : (w1.alloc (.cells #[.int .i64 0] 3)).heap.size = B + 4 := by simp [hs3]
  have hbw : Below (B + 3) w1 (w1.alloc (.cells #[.int .i64 0] 3)) := (Below.refl _ _).alloc (by omega) _
  rw [hs3] at hbx
  generalize w1.alloc (.cells #[.int .i64 0] 3) = V2 at *
  have hsp := Blk.new V2 72 #[.pointer (some ⟨B + 3, 0, none⟩)]
  rw [hsv] at hsp
  have hbw3 : Below (B + 3) w1 (V2.alloc (.cells #[.pointer (some ⟨B + 3, 0, none⟩)] 72)) := hbw.alloc (by omega) _
  have hb3 := hbx.alloc (.cells #[.pointer (some ⟨B + 3, 0, none⟩)] 72)
  have HB3 : Hid (Below B w w1) := HB1.out.trans (HB2.out.mono (by omega))
  have HS3 := Lib.hid hs3
  have HTK := taker1_any (M := Tg1 (B + 3) (B + 4)) (X := fun b => b = B + 2 ∨ b = B + 3) (gA := B + 1) (h := B + 2) (s := B + 4) (m := 1) (c := 1) (B := B) (A := A) HN.out hc hl
    (tg1_step (by omega) (.inr rfl) (by omega) (by omega) (by omega)) (tg1_far (by omega) (by omega)) _ k ⟨by decide, hb3, hsp⟩ (HA1.out.below hbw3 (by omega)) (HH1.out.below hbw3 (by omega)) (by omega)
    ((HA.out.below HB3.out).below (hbw3.mono (by omega))) (by omega) (.inl rfl) (by omega) (by omega) HK.out
  have hs4 : (V2.alloc (.cells #[.pointer (some ⟨B + 3, 0, none⟩)] 72)).heap.size = B + 5 := by simp [hsv]
  have HG1 : Hid (w1.heap[B]? = some (.cells (cellsOf fun _ => false) 33 (0, 0))) := (HB2.out.block B (by omega)).trans HG.out
  have HG3 : Hid ((V2.alloc (.cells #[.pointer (some ⟨B + 3, 0, none⟩)] 72)).heap[B]? = some (.cells (cellsOf fun _ => false) 33 (0, 0))) := (hbw3.block B (by omega)).trans HG1.out
  have HB4 : Hid (Below B w (V2.alloc (.cells #[.pointer (some ⟨B + 3, 0, none⟩)] 72))) := HB3.out.trans (hbw3.mono (by omega))
  have HS4 := Lib.hid hs4; have HSV := Lib.hid hsv
  clear hs4 hb3 hbw3 hsp hbw hbx hs3 HTA HG HG1 HB1 HB2 HB3 HA1 HH1 HS HS1
  match ht : takeZ l 1 k with
  | none =>
    have HRN : Hid (R = none) := by show _ = _; rw [← HR.out]; unfold getS; rw [ht]
    rw [ht] at HTK
    have HTT := Lib.hid HTK
    clear HTK ht
    go_upto_region 5 with (go_at_call 43; (with_reducible refine HTT.out.mono ?_); rintro e w4 ⟨hb4, ha4, rfl, -⟩; have HU4 := Lib.hid hb4; clear hb4 ha4)
    have HQ4 : Hid (w4.heap[B]? = some (.cells (cellsOf fun _ => false) 33 (0, 0))) := (HU4.out.block B (by have := HS4.out; omega) (by omega)).trans HG3.out
    have HB5 : Hid (Below B w w4) := HB4.out.trans (HU4.out.below (by have := HS4.out; omega) fun b _ hb => by rcases hb with rfl | rfl <;> omega)
    have HS5 : Hid (B + 5 ≤ w4.heap.size) := by have := HU4.out.size; have := HS4.out; show _ ≤ _; omega
    go_wp2_with (refine st_set rfl _ _ rfl B (fun _ => false) rfl rfl _ HQ4.out (cellsOf_size _) ?_)
    refine res_set3 rfl B (fun _ => false) rfl (setRow_heap _ _ _ _ _ _ HQ4.out) rfl ?_
    rw [HRN.out, HBB.out]
    exact ⟨rfl, HB5.out.trans (((But.refl (fun b => b = B) _).row B _ (.inl rfl)).below (by have := HS5.out; omega) fun b _ hb => by omega)⟩
  | some (xs, j0) =>
    obtain ⟨hx1, hx64⟩ := takeZ_len l 1 k xs j0 ht
    match xs, hx1 with
    | [c], _ =>
      have hc64 : B64 c := hx64 c (by simp)
      have hgs : getS l k = if c < 0 then none else setZ l c.toNat 0 j0 (fun _ => false) := by unfold getS; rw [ht]; rfl
      rw [HR.out] at hgs
      rw [ht] at HTK
      have HTT := Lib.hid HTK
      have HGS := Lib.hid hgs
      clear HTK ht hx64 hgs
      unfold B64 at hc64
      go_upto_region 4 with (go_at_call 43; (with_reducible refine HTT.out.mono ?_); rintro e w4 ⟨hb4, ha4, rfl, hm4, hh4, hj0, hjn⟩; have HU4 := Lib.hid hb4; have HA4 := Lib.hid ha4; have HM4 := Lib.hid hm4; have HH4 := Lib.hid hh4; have HJ := Lib.hid (And.intro hj0 hjn); clear hb4 ha4 hm4 hh4 hj0 hjn)
      have HQ4 : Hid (w4.heap[B]? = some (.cells (cellsOf fun _ => false) 33 (0, 0))) := (HU4.out.block B (by have := HS4.out; omega) (by omega)).trans HG3.out
      have HB5 : Hid (Below B w w4) := HB4.out.trans (HU4.out.below (by have := HS4.out; omega) fun b _ hb => by rcases hb with rfl | rfl <;> omega)
      have HS5 : Hid (B + 5 ≤ w4.heap.size) := by have := HU4.out.size; have := HS4.out; show _ ≤ _; omega
      have hcb : Blk w4 (B + 3) 3 #[.int .i64 c] := HM4.out.2.1
      have c3 : w4.cell? ⟨B + 3, 0, none⟩ = some (.int .i64 c) := hcb.cell 0
      clear hcb HTT HG3 HB4 HM4 HU4
      by_cases hc0 : c < 0
      · have HRN : Hid (R = none) := by show _ = _; rw [HGS.out, if_pos hc0]
        go_wp2_with (refine st_set rfl _ _ rfl B (fun _ => false) rfl rfl _ HQ4.out (cellsOf_size _) ?_)
        refine res_set3 rfl B (fun _ => false) rfl (setRow_heap _ _ _ _ _ _ HQ4.out) rfl ?_
        rw [HRN.out, HBB.out]
        exact ⟨rfl, HB5.out.trans (((But.refl (fun b => b = B) _).row B _ (.inl rfl)).below (by have := HS5.out; omega) fun b _ hb => by omega)⟩
      · obtain ⟨c, rfl⟩ := Int.eq_ofNat_of_zero_le (a := c) (by omega)
        obtain ⟨j1, rfl⟩ := Int.eq_ofNat_of_zero_le HJ.out.1
        have HR0 : Hid (setZ l c 0 (j1 : Int) (fun _ => false) = R) := by
          show _ = _
          rw [HGS.out, if_neg hc0, Int.toNat_natCast]
        have hj1 : j1 ≤ n := by have := HJ.out.2; omega
        have hcn : ¬ (c : Int) < 0 := hc0
        go_upto_region 7 with fail
        clear c3 hcn hc0 hsv HGS HSV HS3 HS4
        go_loopw [5, 9, 30] (fun jv mv iv wr => ∃ (i r m j : Nat) (q : Nat → Bool), iv = .int .i64 i ∧ mv = .int .i64 m ∧ jv = .int .i64 j ∧ i + r = c ∧ m ≤ 1026 ∧ j ≤ n ∧ setZ l r m (j : Int) q = R ∧ wr.heap[B]? = some (.cells (cellsOf q) 33 (0, 0)) ∧ Blk wr (B + 1) 22 #[.slice A n cap] ∧ Blk wr (B + 2) 3 #[.int .i64 j] ∧ Below B w wr ∧ B + 5 ≤ wr.heap.size) (fun _ _ iv _ => c - (intOf iv).toNat)
        case atStart => exact ⟨0, c, 0, j1, fun _ => false, rfl, rfl, rfl, by omega, by omega, hj1, HR0.out, HQ4.out, HA4.out, HH4.out, HB5.out, HS5.out⟩
        case round =>
          obtain ⟨i, r, m, j, q, rfl, rfl, rfl, hir, hm, hjn, hz1, hq, hga, hgh, hbl, hsz⟩ := hrel
          have HZ0 := Lib.hid hz1; have HQ0 := Lib.hid hq; have HGA0 := Lib.hid hga; have HGH0 := Lib.hid hgh; have HBL := Lib.hid hbl; have HSZ := Lib.hid hsz
          clear hz1 hq hga hgh hbl hsz HR0 HQ4 HA4 HH4 HB5 HS5
          by_cases hlt : i < c
          · have i1 : (i : Int) < (c : Int) := by omega
            obtain ⟨r, rfl⟩ : ∃ r', r = r' + 1 := ⟨r - 1, by omega⟩
            have hx1 := Blk.new wr 3 #[.int .i64 0]
            have hx1s : (wr.alloc (.cells #[.int .i64 0] 3)).heap.size = wr.heap.size + 1 := by simp
            have hw1 : Below wr.heap.size wr (wr.alloc (.cells #[.int .i64 0] 3)) := (Below.refl _ _).alloc (Nat.le_refl _) _
            have hx2 := Blk.new (wr.alloc (.cells #[.int .i64 0] 3)) 3 #[.int .i64 0]
            have hw2 : Below wr.heap.size wr ((wr.alloc (.cells #[.int .i64 0] 3)).alloc (.cells #[.int .i64 0] 3)) := hw1.alloc hw1.size _
            have hx2s : ((wr.alloc (.cells #[.int .i64 0] 3)).alloc (.cells #[.int .i64 0] 3)).heap.size = wr.heap.size + 2 := by simp
            have hx3 := hx1.alloc (.cells #[.int .i64 0] 3)
            rw [hx1s] at hx2
            go_upto_region 9 with fail
            generalize (wr.alloc (.cells #[.int .i64 0] 3)).alloc (.cells #[.int .i64 0] 3) = W2 at *
            clear hx1 hx1s hw1
            obtain ⟨b1, hb1⟩ : ∃ b1, wr.heap.size = b1 := ⟨_, rfl⟩
            have HSB := HSZ.out
            rw [hb1] at hx2 hx2s hx3 hw2 HSB ⊢
            obtain ⟨b2, hb2⟩ : ∃ b2, b1 + 1 = b2 := ⟨_, rfl⟩
            rw [hb2] at hx2 ⊢
            have hs0 : W2.heap.size = b2 + 1 := by omega
            have hsp := Blk.new W2 72 #[.pointer (some ⟨b1, 0, none⟩), .pointer (some ⟨b2, 0, none⟩)]
            rw [hs0] at hsp
            have hy1 := hx3.alloc (.cells #[.pointer (some ⟨b1, 0, none⟩), .pointer (some ⟨b2, 0, none⟩)] 72)
            have hy2 := hx2.alloc (.cells #[.pointer (some ⟨b1, 0, none⟩), .pointer (some ⟨b2, 0, none⟩)] 72)
            have hw3 : Below b1 wr (W2.alloc (.cells #[.pointer (some ⟨b1, 0, none⟩), .pointer (some ⟨b2, 0, none⟩)] 72)) := hw2.alloc (by omega) _
            have hs3 : (W2.alloc (.cells #[.pointer (some ⟨b1, 0, none⟩), .pointer (some ⟨b2, 0, none⟩)] 72)).heap.size = b2 + 2 := by simp [hs0]
            have HTK := taker1_any (M := Tg2 b1 b2 (b2 + 1)) (X := fun b => b = B + 2 ∨ b = b1 ∨ b = b2) (gA := B + 1) (h := B + 2) (s := b2 + 1) (m := 2) (c := 2) (B := B) (A := A) HN.out hc hl
              (tg2_step (by omega) (by omega) (by omega) (.inr (.inl rfl)) (.inr (.inr rfl)) (by omega) (by omega) (by omega) (by omega) (by omega) (by omega)) (tg2_far (by omega) (by omega) (by omega)) _ (j : Int) ⟨by decide, hy1, hy2, hsp⟩
              (HGA0.out.below hw3 (by omega)) (HGH0.out.below hw3 (by omega)) (by omega) ((HA.out.below HBL.out).below (hw3.mono (by omega))) (by omega) (.inl rfl) (by omega) (by omega) (by unfold B64; omega)
            have HQ1 : Hid ((W2.alloc (.cells #[.pointer (some ⟨b1, 0, none⟩), .pointer (some ⟨b2, 0, none⟩)] 72)).heap[B]? = some (.cells (cellsOf q) 33 (0, 0))) := (hw3.block B (by omega)).trans HQ0.out
            have HB1 : Hid (Below B w (W2.alloc (.cells #[.pointer (some ⟨b1, 0, none⟩), .pointer (some ⟨b2, 0, none⟩)] 72))) := HBL.out.trans (hw3.mono (by omega))
            have HS3 := Lib.hid hs3
            clear hx2 hx3 hw2 hsp hy1 hy2 hw3 hs3 hx2s HQ0 HBL HGA0 HGH0
            have hzE : setZ l (r + 1) m (j : Int) q = match takeZ l 2 (j : Int) with
              | none => none
              | some (xs, j) => if 0 ≤ xs.getD 0 0 ∧ xs.getD 0 0 < 1024 ∧ 0 ≤ xs.getD 1 0 ∧ xs.getD 1 0 < 1024 ∧ (m : Int) + xs.getD 0 0 + xs.getD 1 0 < 1024
                then setZ l r (m + (xs.getD 0 0).toNat + (xs.getD 1 0).toNat + 2) j (fun n => q n || rangeP ((m : Int) + xs.getD 0 0) ((m : Int) + xs.getD 0 0 + xs.getD 1 0) n) else none := by
              rw [setZ]; cases takeZ l 2 (j : Int) <;> rfl
            rw [HZ0.out] at hzE
            have HZE := Lib.hid hzE
            clear hzE HZ0
            match ht : takeZ l 2 (j : Int) with
            | none =>
              rw [ht] at HTK HZE
              have HTT := Lib.hid HTK
              have HRN : Hid (R = none) := HZE.out
              clear HTK ht
              go_upto_region 11 with (go_at_call 43; (with_reducible refine HTT.out.mono ?_); rintro e w4 ⟨hb4, ha4, rfl, -⟩; have HU4 := Lib.hid hb4; clear hb4 ha4)
              have HQ4 : Hid (w4.heap[B]? = some (.cells (cellsOf q) 33 (0, 0))) := (HU4.out.block B (by have := HS3.out; omega) (by omega)).trans HQ1.out
              have HB5 : Hid (Below B w w4) := HB1.out.trans (HU4.out.below (by have := HS3.out; omega) fun b _ hb => by omega)
              have HS5 : Hid (B + 5 ≤ w4.heap.size) := by have := HU4.out.size; have := HS3.out; show _ ≤ _; omega
              go_wp2_with (refine st_set rfl _ _ rfl B (fun _ => false) rfl rfl _ HQ4.out (cellsOf_size _) ?_)
              refine res_set3 rfl B (fun _ => false) rfl (setRow_heap _ _ _ _ _ _ HQ4.out) rfl ?_
              rw [HRN.out, HBB.out]
              exact ⟨rfl, HB5.out.trans (((But.refl (fun b => b = B) _).row B _ (.inl rfl)).below (by have := HS5.out; omega) fun b _ hb => by omega)⟩
            | some (xs, j2) =>
              obtain ⟨hl2, hx64⟩ := takeZ_len l 2 (j : Int) xs j2 ht
              match xs, hl2 with
              | [a, d], _ =>
                have ha64 : B64 a := hx64 a (by simp)
                have hd64 : B64 d := hx64 d (by simp)
                rw [ht] at HTK HZE
                have HZF : Hid (R = if 0 ≤ a ∧ a < 1024 ∧ 0 ≤ d ∧ d < 1024 ∧ (m : Int) + a + d < 1024 then setZ l r (m + a.toNat + d.toNat + 2) j2 (fun n => q n || rangeP ((m : Int) + a) ((m : Int) + a + d) n) else none) := HZE.out
                have HTT := Lib.hid HTK
                clear HTK ht hx64 HZE
                unfold B64 at ha64 hd64
                go_upto_region 10 with (go_at_call 43; (with_reducible refine HTT.out.mono ?_); rintro e w4 ⟨hb4, ha4, rfl, hm4, hh4, hj0, hjn2⟩; have HU4 := Lib.hid hb4; have HGA := Lib.hid ha4; have HM4 := Lib.hid hm4; have HGH := Lib.hid hh4; have HJ := Lib.hid (And.intro hj0 hjn2); clear hb4 ha4 hm4 hh4 hj0 hjn2)
                have HQ : Hid (w4.heap[B]? = some (.cells (cellsOf q) 33 (0, 0))) := (HU4.out.block B (by have := HS3.out; omega) (by omega)).trans HQ1.out
                have HBV : Hid (Below B w w4) := HB1.out.trans (HU4.out.below (by have := HS3.out; omega) fun b _ hb => by omega)
                have HVS : Hid (B + 5 ≤ w4.heap.size) := by have := HU4.out.size; have := HS3.out; show _ ≤ _; omega
                have HC1 : Hid (Blk w4 b1 3 #[.int .i64 a]) := HM4.out.2.1
                have HC2 : Hid (Blk w4 b2 3 #[.int .i64 d]) := HM4.out.2.2.1
                have c1 : w4.cell? ⟨b1, 0, none⟩ = some (.int .i64 a) := HC1.out.cell 0
                have c2 : w4.cell? ⟨b2, 0, none⟩ = some (.int .i64 d) := HC2.out.cell 0
                clear HTT HM4 HU4 HQ1 HB1
                generalize w4 = V at *
                have HI1 := Lib.hid (isCpuC_any a V)
                by_cases pa : 0 ≤ a ∧ a < 1024
                · have HI2 := Lib.hid (isCpuC_any d V)
                  rw [decide_eq_true pa] at HI1
                  by_cases pd : 0 ≤ d ∧ d < 1024
                  · rw [decide_eq_true pd] at HI2
                    obtain ⟨a, rfl⟩ := Int.eq_ofNat_of_zero_le pa.1
                    obtain ⟨d, rfl⟩ := Int.eq_ofNat_of_zero_le pd.1
                    obtain ⟨j', rfl⟩ := Int.eq_ofNat_of_zero_le HJ.out.1
                    have hjn' : j' ≤ n := by have := HJ.out.2; omega
                    have HI3 := Lib.hid (isCpuC_any ((m : Int) + (a : Int) + (d : Int)) V)
                    by_cases pm : 0 ≤ (m : Int) + (a : Int) + (d : Int) ∧ (m : Int) + (a : Int) + (d : Int) < 1024
                    · rw [decide_eq_true pm] at HI3
                      have HZ : Hid (setZ l r (m + a + d + 2) (j' : Int) (fun z => q z || rangeP ((m : Int) + (a : Int)) ((m : Int) + (a : Int) + (d : Int)) z) = R) := by
                        show _ = _
                        rw [HZF.out, if_pos (by omega)]; rfl
                      have pmm := pm.2
                      have hm3 : m ≤ 2000 := by omega
                      have ha3 : a ≤ 2000 := by omega
                      have hd3 : d ≤ 2000 := by omega
                      have paa := pa.2
                      have pdd := pd.2
                      clear pa pd pm HZF ha64 hd64
                      go_upto_region 13 with (first
                        | (go_at_call 31; (with_reducible refine HI1.out.mono ?_); rintro e w' ⟨rfl, rfl⟩)
                        | (go_at_call 31; (with_reducible refine HI2.out.mono ?_); rintro e w' ⟨rfl, rfl⟩)
                        | (go_at_call 31; (with_reducible refine HI3.out.mono ?_); rintro e w' ⟨rfl, rfl⟩))
                      have HS : Hid (But (fun b => b = B) V V.drew) := (But.refl _ _).drew
                      have HQ' : Hid (V.drew.heap[B]? = some (.cells (cellsOf q) 33 (0, 0))) := HQ.out
                      clear HQ; have HQ := HQ'; clear HQ'
                      refine wp_region_held_drew (S := fun X => But (fun b => b = B) V X) (by kernel_rfl) HS.out (fun _ => ?_)
                      show wpAnyH _ _ _ _ _ _ _ _ _
                      refine wpAnyH_take (i := 1) (v := ?_) rfl (by kernel_rfl) (by kernel_rfl) (by kernel_rfl) (fun _ _ _ h => h) (Or.inl ⟨by rfl, fun W hW => by go_simp <;> with_reducible rfl⟩) HS.out ?_
                      go_simp
                      refine wpAnyH_take (i := 2) (v := ?_) rfl (by kernel_rfl) (by kernel_rfl) (by kernel_rfl) (fun _ _ _ h => h) (Or.inl ⟨by rfl, fun W hW => by go_simp <;> with_reducible rfl⟩) HS.out ?_
                      go_simp
                      refine wpAnyH_take (i := 3) (v := _) rfl (by kernel_rfl) (by kernel_rfl) (by kernel_rfl) (fun _ _ _ h => h) (yieldsIf_loadI (by rfl) _ rfl ⟨b2, 0, none⟩ (d : Int) rfl (fun X h => (HC2.out.but h (by omega)).cell 0)) HS.out ?_
                      go_simp
                      refine wpAnyH_take (i := 4) (v := ?_) rfl (by kernel_rfl) (by kernel_rfl) (by kernel_rfl) (fun _ _ _ h => h) (Or.inl ⟨by rfl, fun W hW => by go_simp <;> with_reducible rfl⟩) HS.out ?_
                      go_simp
                      refine wpAnyH_ready (rs := [0, 5]) (by kernel_rfl) (by simp) (AllReadyH.cons rfl (fun K hK => ?_) (AllReadyH.cons rfl (fun K hK => ?_) AllReadyH.nil))
                      · refine step_ld_set rfl (.tmp 4) rfl B rfl _ HQ.out ?_
                        go_simp
                        refine hK.out _ _ HS.out (fun _ => ?_)
                        clear hK K
                        refine wpAnyH_ready (rs := [5]) (by kernel_rfl) (by simp) (AllReadyH.cons rfl (fun K hK => ?_) AllReadyH.nil)
                        go_simp
                        try rw [wr3 m a d hm3 ha3 hd3]
                        refine (range_any _ _ _).mono ?_
                        rintro e w7 ⟨rfl, hb7⟩
                        dsimp only
                        have HS' : Hid (But (fun b => b = B) V w7) := HS.out.trans (But.of_below hb7)
                        have HQ' := Lib.hid ((hb7.block B (by have := HS.out.size; have := HVS.out; omega)).trans HQ.out)
                        clear HS HQ hb7; have HS := HS'; have HQ := HQ'; clear HS' HQ'
                        refine hK.out _ _ HS.out (fun _ => ?_)
                        clear hK K
                        refine wpAnyH_ready (rs := [6]) (by kernel_rfl) (by simp) (AllReadyH.cons rfl (fun K hK => ?_) AllReadyH.nil)
                        go_simp
                        refine (or_any _ _ _).mono ?_
                        rintro e w8 ⟨rfl, hb8⟩
                        dsimp only
                        have HS' : Hid (But (fun b => b = B) V w8) := HS.out.trans (But.of_below hb8)
                        have HQ' := Lib.hid ((hb8.block B (by have := HS.out.size; have := HVS.out; omega)).trans HQ.out)
                        clear HS HQ hb8; have HS := HS'; have HQ := HQ'; clear HS' HQ'
                        refine hK.out _ _ HS.out (fun _ => ?_)
                        clear hK K
                        refine wpAnyH_ready (rs := [7]) (by kernel_rfl) (by simp) (AllReadyH.cons rfl (fun K hK => ?_) AllReadyH.nil)
                        refine step_st_set rfl (.tmp 4) (.tmp 69) rfl B (fun z => q z || rangeP ((m : Int) + (a : Int)) ((m : Int) + (a : Int) + (d : Int)) z) q rfl rfl HQ.out ?_
                        have HS' : Hid (But (fun b => b = B) V _) := HS.out.row B (cellsOf (fun z => q z || rangeP ((m : Int) + (a : Int)) ((m : Int) + (a : Int) + (d : Int)) z)) (.inl rfl)
                        have HQ' := Lib.hid (setRow_heap _ _ _ (cellsOf (fun z => q z || rangeP ((m : Int) + (a : Int)) ((m : Int) + (a : Int) + (d : Int)) z)) _ _ HQ.out)
                        clear HS HQ; have HS := HS'; have HQ := HQ'; clear HS' HQ'
                        refine hK.out _ _ HS.out (fun _ => ?_)
                        clear hK K
                        refine wpAnyH_done (by kernel_rfl) ?_ _
                        generalize hW9 : w8.setRow B (cellsOf (fun z => q z || rangeP ((m : Int) + (a : Int)) ((m : Int) + (a : Int) + (d : Int)) z)) = W9 at *
                        clear hW9
                        have HC2' := HC2.out.but HS.out (by omega)
                        have c2 : W9.cell? ⟨b2, 0, none⟩ = some (.int .i64 (d : Int)) := HC2'.cell 0
                        clear HC2'
                        go_wp2_with fail
                        go_roundw
                        case rel =>
                          exact ⟨i + 1, r, m + a + d + 2, j', fun z => q z || rangeP ((m : Int) + (a : Int)) ((m : Int) + (a : Int) + (d : Int)) z, by go_num, by go_num, rfl, by omega, by omega, hjn', HZ.out, HQ.out, HGA.out.but HS.out (by omega), HGH.out.but HS.out (by omega), HBV.out.trans (HS.out.below (by have := HVS.out; omega) fun b _ hb => by omega), by have := HS.out.size; have := HVS.out; omega⟩
                        case measure => simp [intOf]; omega
                      · go_simp
                        try rw [wr3 m a d hm3 ha3 hd3]
                        refine (range_any _ _ _).mono ?_
                        rintro e w7 ⟨rfl, hb7⟩
                        dsimp only
                        have HS' : Hid (But (fun b => b = B) V w7) := HS.out.trans (But.of_below hb7)
                        have HQ' := Lib.hid ((hb7.block B (by have := HS.out.size; have := HVS.out; omega)).trans HQ.out)
                        clear HS HQ hb7; have HS := HS'; have HQ := HQ'; clear HS' HQ'
                        refine hK.out _ _ HS.out (fun _ => ?_)
                        clear hK K
                        refine wpAnyH_ready (rs := [0]) (by kernel_rfl) (by simp) (AllReadyH.cons rfl (fun K hK => ?_) AllReadyH.nil)
                        refine step_ld_set rfl (.tmp 4) rfl B rfl _ HQ.out ?_
                        go_simp
                        refine hK.out _ _ HS.out (fun _ => ?_)
                        clear hK K
                        refine wpAnyH_ready (rs := [6]) (by kernel_rfl) (by simp) (AllReadyH.cons rfl (fun K hK => ?_) AllReadyH.nil)
                        go_simp
                        refine (or_any _ _ _).mono ?_
                        rintro e w8 ⟨rfl, hb8⟩
                        dsimp only
                        have HS' : Hid (But (fun b => b = B) V w8) := HS.out.trans (But.of_below hb8)
                        have HQ' := Lib.hid ((hb8.block B (by have := HS.out.size; have := HVS.out; omega)).trans HQ.out)
                        clear HS HQ hb8; have HS := HS'; have HQ := HQ'; clear HS' HQ'
                        refine hK.out _ _ HS.out (fun _ => ?_)
                        clear hK K
                        refine wpAnyH_ready (rs := [7]) (by kernel_rfl) (by simp) (AllReadyH.cons rfl (fun K hK => ?_) AllReadyH.nil)
                        refine step_st_set rfl (.tmp 4) (.tmp 69) rfl B (fun z => q z || rangeP ((m : Int) + (a : Int)) ((m : Int) + (a : Int) + (d : Int)) z) q rfl rfl HQ.out ?_
                        have HS' : Hid (But (fun b => b = B) V _) := HS.out.row B (cellsOf (fun z => q z || rangeP ((m : Int) + (a : Int)) ((m : Int) + (a : Int) + (d : Int)) z)) (.inl rfl)
                        have HQ' := Lib.hid (setRow_heap _ _ _ (cellsOf (fun z => q z || rangeP ((m : Int) + (a : Int)) ((m : Int) + (a : Int) + (d : Int)) z)) _ _ HQ.out)
                        clear HS HQ; have HS := HS'; have HQ := HQ'; clear HS' HQ'
                        refine hK.out _ _ HS.out (fun _ => ?_)
                        clear hK K
                        refine wpAnyH_done (by kernel_rfl) ?_ _
                        generalize hW9 : w8.setRow B (cellsOf (fun z => q z || rangeP ((m : Int) + (a : Int)) ((m : Int) + (a : Int) + (d : Int)) z)) = W9 at *
                        clear hW9
                        have HC2' := HC2.out.but HS.out (by omega)
                        have c2 : W9.cell? ⟨b2, 0, none⟩ = some (.int .i64 (d : Int)) := HC2'.cell 0
                        clear HC2'
                        go_wp2_with fail
                        go_roundw
                        case rel =>
                          exact ⟨i + 1, r, m + a + d + 2, j', fun z => q z || rangeP ((m : Int) + (a : Int)) ((m : Int) + (a : Int) + (d : Int)) z, by go_num, by go_num, rfl, by omega, by omega, hjn', HZ.out, HQ.out, HGA.out.but HS.out (by omega), HGH.out.but HS.out (by omega), HBV.out.trans (HS.out.below (by have := HVS.out; omega) fun b _ hb => by omega), by have := HS.out.size; have := HVS.out; omega⟩
                        case measure => simp [intOf]; omega
                    · rw [decide_eq_false pm] at HI3
                      have HRN : Hid (R = none) := by show _ = _; rw [HZF.out, if_neg (by omega)]
                      have paa := pa.2
                      have pdd := pd.2
                      clear pa pd pm HZF ha64 hd64
                      go_upto_region 11 with (first
                        | (go_at_call 31; (with_reducible refine HI1.out.mono ?_); rintro e w' ⟨rfl, rfl⟩)
                        | (go_at_call 31; (with_reducible refine HI2.out.mono ?_); rintro e w' ⟨rfl, rfl⟩)
                        | (go_at_call 31; (with_reducible refine HI3.out.mono ?_); rintro e w' ⟨rfl, rfl⟩))
                      go_wp2_with (refine st_set rfl _ _ rfl B (fun _ => false) rfl rfl _ HQ.out (cellsOf_size _) ?_)
                      refine res_set3 rfl B (fun _ => false) rfl (setRow_heap _ _ _ _ _ _ HQ.out) rfl ?_
                      rw [HRN.out, HBB.out]
                      exact ⟨rfl, HBV.out.trans (((But.refl (fun b => b = B) _).row B _ (.inl rfl)).below (by have := HVS.out; omega) fun b _ hb => by omega)⟩
                  · rw [decide_eq_false pd] at HI2
                    have HRN : Hid (R = none) := by show _ = _; rw [HZF.out, if_neg (by omega)]
                    clear pa pd HZF ha64 hd64
                    go_upto_region 11 with (first
                      | (go_at_call 31; (with_reducible refine HI1.out.mono ?_); rintro e w' ⟨rfl, rfl⟩)
                      | (go_at_call 31; (with_reducible refine HI2.out.mono ?_); rintro e w' ⟨rfl, rfl⟩))
                    go_wp2_with (refine st_set rfl _ _ rfl B (fun _ => false) rfl rfl _ HQ.out (cellsOf_size _) ?_)
                    refine res_set3 rfl B (fun _ => false) rfl (setRow_heap _ _ _ _ _ _ HQ.out) rfl ?_
                    rw [HRN.out, HBB.out]
                    exact ⟨rfl, HBV.out.trans (((But.refl (fun b => b = B) _).row B _ (.inl rfl)).below (by have := HVS.out; omega) fun b _ hb => by omega)⟩
                · rw [decide_eq_false pa] at HI1
                  have HRN : Hid (R = none) := by show _ = _; rw [HZF.out, if_neg (by omega)]
                  clear pa HZF ha64 hd64
                  go_upto_region 11 with (go_at_call 31; (with_reducible refine HI1.out.mono ?_); rintro e w' ⟨rfl, rfl⟩)
                  go_wp2_with (refine st_set rfl _ _ rfl B (fun _ => false) rfl rfl _ HQ.out (cellsOf_size _) ?_)
                  refine res_set3 rfl B (fun _ => false) rfl (setRow_heap _ _ _ _ _ _ HQ.out) rfl ?_
                  rw [HRN.out, HBB.out]
                  exact ⟨rfl, HBV.out.trans (((But.refl (fun b => b = B) _).row B _ (.inl rfl)).below (by have := HVS.out; omega) fun b _ hb => by omega)⟩
          · obtain rfl : i = c := by omega
            obtain rfl : r = 0 := by omega
            have i1 : ¬ (i : Int) < (i : Int) := by omega
            have HRN : Hid (R = some (q, (j : Int))) := HZ0.out.symm
            go_wp2_with (first | (refine ld_set rfl _ rfl B rfl _ HQ0.out ?_) | (refine st_set rfl _ _ rfl B q rfl rfl _ HQ0.out (cellsOf_size _) ?_))
            refine res_set3 rfl B q rfl (setRow_heap _ _ _ _ _ _ HQ0.out) rfl ?_
            rw [HRN.out, HBB.out]
            exact ⟨rfl, HBL.out.trans (((But.refl (fun b => b = B) _).row B _ (.inl rfl)).below (by have := HSZ.out; omega) fun b _ hb => by omega)⟩
end Go.Proofs.YtchhenpijbecaaaDoor
