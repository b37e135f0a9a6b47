/- lint.Must. -/
import Derived.Test.YthoddoabcdbliaaMd
import Derived.Test.YthoddoabcdbliaaMe
namespace Go.Proofs.Ythoddoabcdbliaa
open Go.RowKit

/-- With what Must begins. -/
def mustP (S all : Nat → Bool) (n : Nat) : Nat → Nat → Bool := fun i k => decide (i < n) && (decide (0 < i) && (S i && all k))
set_option maxRecDepth 100000 in
set_option maxHeartbeats 8000000 in
theorem Must_any (prio locks : Int) (A : Option Addr) (l : List I4) (cap : Nat) (Inv : (Nat → Nat → Bool) → Prop) (BI : Nat → (Nat → Bool) → Prop) (w : World) (hI : InsIn w A l) (hA : ∀ a, A = some a → a.block < w.heap.size) (hf : Fine prio l)
    (h0 : ∀ S : Nat → Bool, (∀ k, S k = true ↔ Rch l k) → Inv (mustP S (allP locks) l.length))
    (hB : ∀ F pc x, Inv F → Rch l pc → l[pc]? = some x → BI pc (bhP x (F pc) (allP locks)))
    (hS : ∀ F pc x (j : Nat) B, Inv F → Rch l pc → l[pc]? = some x → (j : Int) ∈ nextP x pc → BI pc B → Inv (upd F j (fun k => F j k && B k))) :
    Calls Try.prog 16 #[.agg #[.int .i64 prio, .slice A l.length cap], .int .i64 locks] w fun e w' => ∃ F G, e = .returned (.slice (some ⟨G, 0, none⟩) l.length l.length) ∧ Blk w' G 39 (setC F l.length) ∧ Inv F ∧
      (∀ pc x, Rch l pc → l[pc]? = some x → ∀ j : Nat, (j : Int) ∈ nextP x pc → ∀ b, b < 16 → (F j b && bhP x (F pc) (allP locks) b) = F j b) ∧ w.heap.size ≤ G ∧ Below w.heap.size w w' := by
  have hlen := hf.len
  have hB1 : Below w.heap.size w (w.alloc (.cells #[.int .i64 prio, .slice A l.length cap] 24)) := (Below.refl _ _).alloc (Nat.le_refl _) _
  have hRE : ∀ W, Below w.heap.size w W → Calls Try.prog 21 #[.agg #[.int .i64 prio, .slice A l.length cap]] W fun e w' => ∃ S : Nat → Bool, e = .returned (.int .u64 (wordB S 64 : Nat)) ∧ (∀ k, S k = true ↔ Rch l k) ∧ Below W.heap.size W w' := fun W h => reach_any prio A l cap W (hI.below h) hf
  have HRE := Lib.hid hRE
  have HSE : Hid (∀ (W : World) (S : Nat → Bool) (G : Nat), Below w.heap.size w W → w.heap.size ≤ G → (∀ k, S k = true ↔ Rch l k) → Blk W G 39 (setC (mustP S (allP locks) l.length) l.length) → Calls Try.prog 28 #[.agg #[.int .i64 prio, .slice A l.length cap], .int .u64 (wordB S 64 : Nat), .int .u16 (wordB (allP locks) 16 : Nat), .slice (some ⟨G, 0, none⟩) l.length l.length, .func (.func 31) #[] #[]] W fun e w' => ∃ F, e = .returned (.tuple #[]) ∧ Blk w' G 39 (setC F l.length) ∧ Inv F ∧ Clo and l S (allP locks) F l.length ∧ But (fun k => k = G) W w') := fun W S G h1 h2 h3 h4 =>
    settleMust_any prio A l cap S (allP locks) G _ Inv BI W (hI.below h1) hf (fun a ha => by have := hA a ha; omega) h4 (h0 S h3) (fun F pc x a b c => hB F pc x a ((h3 pc).1 b) c) (fun F pc x j B a b c d e => hS F pc x j B a ((h3 pc).1 b) c d e)
  have hmk := run_make_row' (P := Try.prog) 35 39 (.int .u16 0) 2 Try.underlying35 infoU16 rfl .i64 .i64 l.length (by omega) (by omega)
  rw [setC_made] at hmk
  have HB := Lib.hid (Blk.new w 24 #[.int .i64 prio, .slice A l.length cap]); have HB1 := Lib.hid hB1
  have HL := Lib.hid (allLocks_any locks)
  have HLEN : Hid (∀ k, Rch l k → k < l.length) := fun k hk => by
    cases hk with
    | zero => omega
    | step h1 h2 h3 => have := nextP_in hf h2 (hI _ _ h2).1.n _ h3; omega
  clear hI hA hf h0 hB hS hB1 hRE
  generalize l.length = N at *
  go_enter Try.func16, Try.ntmps16
  go_upto_region 1 with fail
  generalize w.alloc (.cells #[.int .i64 prio, .slice A N cap] 24) = W1 at *
  go_cut [5, 6, 7] (fun s a v wx => ∃ (S : Nat → Bool) (G : Nat), s = .int .u64 (wordB S 64 : Nat) ∧ a = .int .u16 (wordB (allP locks) 16 : Nat) ∧ v = .slice (some ⟨G, 0, none⟩) N N ∧ (∀ k, S k = true ↔ Rch l k) ∧ Blk wx G 39 (setC (fun _ _ => false) N) ∧ w.heap.size < G ∧ Below w.heap.size w wx ∧ Blk wx w.heap.size 24 #[.int .i64 prio, .slice A N cap])
  case first =>
    have x0 := HB.out.cell 0; have x1 := HB.out.cell 1
    simp only [List.getElem?_toArray, List.getElem?_cons_zero, List.getElem?_cons_succ] at x0 x1
    have hba : Below W1.heap.size W1 (W1.alloc (.cells (setC (fun _ _ => false) N) 39)) := (Below.refl _ _).alloc (Nat.le_refl _) _
    have hbz := HB.out.below hba HB.out.lt
    have z0 := hbz.cell 0; have z1 := hbz.cell 1
    simp only [List.getElem?_toArray, List.getElem?_cons_zero, List.getElem?_cons_succ] at z0 z1
    have HA1 : Hid (Below w.heap.size w (W1.alloc (.cells (setC (fun _ _ => false) N) 39)).drew) := (HB1.out.trans (hba.mono HB1.out.size)).drew
    have HA0 : Hid (Below w.heap.size w W1.drew) := HB1.out.drew
    have HBZ := Lib.hid hbz
    clear hba hbz
    go_region_with (first
      | (go_at_call 21; (with_reducible refine (HRE.out _ HA0.out).mono ?_); rintro e w4 ⟨S, rfl, hS, h4⟩; have H4 := Lib.hid h4; have HS := Lib.hid hS; have HP4 := Lib.hid ((blk_drew HB.out).below h4 HB.out.lt); have y := HP4.out.cell 1; simp only [List.getElem?_toArray, List.getElem?_cons_zero, List.getElem?_cons_succ] at y; clear h4 hS)
      | (go_at_call 21; (with_reducible refine (HRE.out _ HA1.out).mono ?_); rintro e w4 ⟨S, rfl, hS, h4⟩; have H4 := Lib.hid h4; have HS := Lib.hid hS; have HP4 := Lib.hid ((blk_drew HBZ.out).below h4 HBZ.out.lt); clear h4 hS)
      | (go_at_call 29; (with_reducible refine (HL.out _).mono ?_); rintro e wq ⟨rfl, rfl⟩))
    all_goals
      go_wp2_with fail
      go_meet
      first
        | exact ⟨S, w4.heap.size, rfl, rfl, rfl, HS.out, Blk.new w4 _ _, Nat.lt_of_lt_of_le HB.out.lt H4.out.size, (HA0.out.trans (H4.out.mono HA0.out.size)).alloc (Nat.le_trans HA0.out.size H4.out.size) _, HP4.out.alloc _⟩
        | exact ⟨S, W1.heap.size, rfl, rfl, rfl, HS.out, (blk_drew (Blk.new W1 _ _)).below H4.out (blk_drew (Blk.new W1 _ _)).lt, HB.out.lt, HA1.out.trans (H4.out.mono HA1.out.size), HP4.out⟩
  case rest =>
    obtain ⟨S, G, rfl, rfl, rfl, hS, hG, hsz, hb, hp⟩ := hcut
    have HS := Lib.hid hS; have HG := Lib.hid hG; have HSZ := Lib.hid hsz; have HBB := Lib.hid hb; have HP := Lib.hid hp
    clear hS hG hsz hb hp HB HB1 HRE hmk
    generalize wc = W2 at *
    go_wp2_with fail
    go_loopw [19] (fun i wr => ∃ k : Nat, k ≤ N ∧ i = .int .i64 k ∧ Blk wr G 39 (setC (mustP S (allP locks) k) N) ∧ But (fun k => k = G) W2 wr) (fun i _ => N - (intOf i).toNat)
    case atStart =>
      refine ⟨0, Nat.zero_le _, rfl, ?_, But.refl _ _⟩
      have h := HG.out
      rw [setC_congr (H := mustP S (allP locks) 0) (fun i _ => wordB_same _ _ 16 fun b _ => by simp [mustP])] at h
      exact h
    case round =>
      obtain ⟨k, hk, rfl, hg, hb⟩ := hrel
      have HGK := Lib.hid hg; have HBK := Lib.hid hb
      clear hg hb HG
      by_cases hlt : k < N
      · have HA := Lib.hid (has64_any S k wr (by omega))
        have c0 : wr.cell? ⟨G, k, none⟩ = some (.int .u16 (wordB (mustP S (allP locks) k k) 16 : Nat)) := (HGK.out.cell k).trans (setC_get _ hlt)
        have cf : wr.frozen? ⟨G, k, none⟩ = false := HGK.out.free k
        have k0 : (0 : Int) ≤ (k : Int) := by omega
        have k1 : (k : Int) < (N : Int) := by omega
        by_cases hs : 0 < k ∧ S k = true
        · obtain ⟨hs0, hs1⟩ := hs
          have t : (0 : Int) < (k : Int) := by omega
          rw [hs1] at HA
          have HGN : Hid (Blk (wr.setCell ⟨G, k, none⟩ (.int .u16 (wordB (allP locks) 16 : Nat))) G 39 (setC (mustP S (allP locks) (k + 1)) N)) := by
            have := HGK.out.set_ k (.int .u16 (wordB (allP locks) 16 : Nat))
            rw [setC_set _ (allP locks) hlt] at this
            rw [setC_congr (H := mustP S (allP locks) (k + 1)) (fun i _ => by
              by_cases e : i = k
              · subst e; rw [upd, if_pos rfl]; exact wordB_same _ _ 16 fun b _ => by simp [mustP, hs0, hs1]
              · rw [upd, if_neg e]; exact wordB_same _ _ 16 fun b _ => by
                  have : decide (i < k) = decide (i < k + 1) := by rw [decide_eq_decide]; omega
                  simp [mustP, this])] at this
            exact this
          have HBN : Hid (But (fun k => k = G) W2 (wr.setCell ⟨G, k, none⟩ (.int .u16 (wordB (allP locks) 16 : Nat)))) := HBK.out.set _ _ (.inl rfl)
          clear hs1 c0
          have c0 : ∃ v, wr.cell? ⟨G, k, none⟩ = some v := ⟨_, (HGK.out.cell k).trans (setC_get _ hlt)⟩
          obtain ⟨v0, c0⟩ := c0
          go_wp2_with (go_at_call 22; (with_reducible refine HA.out.mono ?_); rintro e wq ⟨rfl, rfl⟩)
          go_roundw
          case rel => exact ⟨k + 1, by omega, by go_num, HGN.out, HBN.out⟩
          case measure => simp [intOf]; omega
        · have HGN : Hid (Blk wr G 39 (setC (mustP S (allP locks) (k + 1)) N)) := by
            have := HGK.out
            rw [setC_congr (H := mustP S (allP locks) (k + 1)) (fun i _ => wordB_same _ _ 16 fun b _ => by
              unfold mustP
              by_cases e : i = k
              · subst e
                by_cases h0 : 0 < i
                · have : S i = false := by
                    cases q : S i
                    · rfl
                    · exact absurd ⟨h0, q⟩ hs
                  simp [this]
                · simp [h0]
              · have : decide (i < k) = decide (i < k + 1) := by rw [decide_eq_decide]; omega
                rw [this])] at this
            exact this
          have hcase : k = 0 ∨ (0 < k ∧ S k = false) := by
            by_cases h0 : 0 < k
            · refine .inr ⟨h0, ?_⟩
              cases q : S k
              · rfl
              · exact absurd ⟨h0, q⟩ hs
            · exact .inl (by omega)
          clear hs c0 cf
          rcases hcase with rfl | ⟨hk0, hs1⟩
          · clear HA
            go_wp2_with fail
            go_roundw
            case rel => exact ⟨1, by omega, by go_num, HGN.out, HBK.out⟩
            case measure => simp [intOf]; omega
          · have t : (0 : Int) < (k : Int) := by omega
            rw [hs1] at HA
            clear hs1
            go_wp2_with (go_at_call 22; (with_reducible refine HA.out.mono ?_); rintro e wq ⟨rfl, rfl⟩)
            go_roundw
            case rel => exact ⟨k + 1, by omega, by go_num, HGN.out, HBK.out⟩
            case measure => simp [intOf]; omega
      · obtain rfl : k = N := by omega
        have t : ¬ (k : Int) < (k : Int) := by omega
        have hbw : Below w.heap.size w wr := HBB.out.trans (HBK.out.below HBB.out.size fun j _ e => by rw [e]; exact Nat.le_of_lt HSZ.out)
        have HC := Lib.hid (HSE.out wr S G hbw (Nat.le_of_lt HSZ.out) HS.out HGK.out)
        have hp := HP.out.but HBK.out (by have := HSZ.out; omega)
        have x0 := hp.cell 0; have x1 := hp.cell 1
        simp only [List.getElem?_toArray, List.getElem?_cons_zero, List.getElem?_cons_succ] at x0 x1
        have HBW := Lib.hid hbw
        clear hbw hp
        go_wp2_with fail
        refine HC.out.mono ?_
        rintro e w5 ⟨F, rfl, hg5, hi5, hc5, hb5⟩
        have HG5 := Lib.hid hg5; have HI5 := Lib.hid hi5; have HC5 := Lib.hid hc5; have HB5 := Lib.hid (HBW.out.trans (hb5.below HBW.out.size fun j _ e => by rw [e]; exact Nat.le_of_lt HSZ.out))
        clear hg5 hi5 hc5 hb5
        dsimp only
        go_wp2_with fail
        go_ret
        exact ⟨F, G, rfl, HG5.out, HI5.out, fun pc x h1 h2 j h3 b h4 => HC5.out pc x (HLEN.out pc h1) ((HS.out pc).2 h1) h2 j h3 b h4, Nat.le_of_lt HSZ.out, HB5.out⟩
end Go.Proofs.Ythoddoabcdbliaa
