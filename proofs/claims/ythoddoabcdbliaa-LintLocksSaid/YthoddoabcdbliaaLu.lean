/- lint.Reach, in a fine program. -/
import Derived.Test.YthoddoabcdbliaaLt
import Derived.Deep.OwnRows
import Derived.Deep.RegionWith
namespace Go.Proofs.Ythoddoabcdbliaa
open Go.RowKit

/-- A row of bools. -/
def boolC (f : Nat → Bool) (N : Nat) : Array Value := ((List.range N).map fun i => Value.bool (f i)).toArray
theorem boolC_get (f : Nat → Bool) {N i : Nat} (h : i < N) : (boolC f N)[i]? = some (.bool (f i)) := by simp [boolC, h]
theorem boolC_made (N : Nat) : madeCells #[.bool false] N = boolC (fun _ => false) N := by
  apply Array.ext_getElem?
  intro i
  by_cases h : i < N
  · rw [boolC_get _ h]; simp [madeCells, h, Nat.mod_one]
  · simp [madeCells, boolC, h]
theorem boolC_set (f : Nat → Bool) {N k : Nat} (b : Bool) (h : k < N) : (boolC f N).setIfInBounds k (.bool b) = boolC (fun i => if i = k then b else f i) N := by
  apply Array.ext_getElem?
  intro i
  by_cases hi : i < N
  · rw [boolC_get _ hi, Array.getElem?_setIfInBounds]
    by_cases e : k = i
    · subst e; simp [boolC, h]
    · rw [if_neg e, boolC_get _ hi, if_neg (fun q => e q.symm)]
  · simp [boolC, hi]
theorem boolC_congr {f g : Nat → Bool} {N : Nat} (h : ∀ i, i < N → f i = g i) : boolC f N = boolC g N := by
  apply Array.ext_getElem?
  intro i
  by_cases hi : i < N
  · rw [boolC_get _ hi, boolC_get _ hi, h i hi]
  · simp [boolC, hi]
theorem blk_drew {w : World} {g : Nat} {t : TypeId} {cs : Array Value} (h : Blk w g t cs) : Blk w.drew g t cs := h
theorem infoBool : (Try.prog.info? 4).map (fun i => (i.zero, i.size, i.bytes)) = some (some (.bool false), 1, 1) := by kernel_rfl
set_option maxRecDepth 100000 in
set_option maxHeartbeats 8000000 in
theorem Reach_any (prio : Int) (A : Option Addr) (l : List I4) (cap : Nat) (w : World) (hI : InsIn w A l) (hf : Fine prio l) :
    Calls Try.prog 10 #[.agg #[.int .i64 prio, .slice A l.length cap]] w fun e w' => ∃ (S : Nat → Bool) (G : Nat), e = .returned (.slice (some ⟨G, 0, none⟩) l.length l.length) ∧ (∀ k, S k = true ↔ Rch l k) ∧ Blk w' G 4 (boolC S l.length) ∧ w.heap.size ≤ G ∧ Below w.heap.size w w' := by
  have hlen := hf.len
  have hB1 : Below w.heap.size w (w.alloc (.cells #[.int .i64 prio, .slice A l.length cap] 24)) := (Below.refl _ _).alloc (Nat.le_refl _) _
  have HRE : Hid (∀ W, Below w.heap.size w W → Calls Try.prog 21 #[.agg #[.int .i64 prio, .slice A l.length cap]] W fun e w' => ∃ S : Nat → Bool, e = .returned (.int .u64 (wordB S 64 : Nat)) ∧ (∀ k, S k = true ↔ Rch l k) ∧ Below W.heap.size W w') := fun W h => reach_any prio A l cap W (hI.below h) hf
  have hb := Blk.new w 24 #[.int .i64 prio, .slice A l.length cap]
  have HB := Lib.hid hb; have HB1 := Lib.hid hB1
  clear hI hf hb hB1
  have hmk := run_make_row' (P := Try.prog) 29 4 (.bool false) 1 Try.underlying29 infoBool rfl .i64 .i64 l.length (by omega) (by omega)
  rw [boolC_made] at hmk
  generalize l.length = N at *
  go_enter Try.func10, Try.ntmps10
  go_upto_region 1 with fail
  generalize w.alloc (.cells #[.int .i64 prio, .slice A N cap] 24) = W1 at *
  go_cut [3, 4] (fun s lv wx => ∃ (S : Nat → Bool) (G : Nat), s = .int .u64 (wordB S 64 : Nat) ∧ lv = .slice (some ⟨G, 0, none⟩) N N ∧ (∀ k, S k = true ↔ Rch l k) ∧ Blk wx G 4 (boolC (fun _ => false) N) ∧ w.heap.size ≤ G ∧ Below w.heap.size w wx)
  case first =>
    have x0 := HB.out.cell 0; have x1 := HB.out.cell 1
    simp only [List.getElem?_toArray, List.getElem?_cons_zero, List.getElem?_cons_succ] at x0 x1
    have hba : Below W1.heap.size W1 (W1.alloc (.cells (boolC (fun _ => false) N) 4)) := (Below.refl _ _).alloc (Nat.le_refl _) _
    have z0 := (HB.out.below hba HB.out.lt).cell 0; have z1 := (HB.out.below hba HB.out.lt).cell 1
    simp only [List.getElem?_toArray, List.getElem?_cons_zero, List.getElem?_cons_succ] at z0 z1
    have HA1 : Hid (Below w.heap.size w (W1.alloc (.cells (boolC (fun _ => false) N) 4)).drew) := (HB1.out.trans (hba.mono HB1.out.size)).drew
    have HA0 : Hid (Below w.heap.size w W1.drew) := HB1.out.drew
    clear hba
    go_region_with (first
      | (go_at_call 21; (with_reducible refine (HRE.out _ HA0.out).mono ?_); rintro e w4 ⟨S, rfl, hS, h4⟩; have H4 := Lib.hid h4; have HS := Lib.hid hS; have y := ((blk_drew HB.out).below h4 HB.out.lt).cell 1; simp only [List.getElem?_toArray, List.getElem?_cons_zero, List.getElem?_cons_succ] at y; clear h4 hS)
      | (go_at_call 21; (with_reducible refine (HRE.out _ HA1.out).mono ?_); rintro e w4 ⟨S, rfl, hS, h4⟩; have H4 := Lib.hid h4; have HS := Lib.hid hS; clear h4 hS))
    all_goals
      go_wp2_with fail
      go_meet
      first
        | exact ⟨S, w4.heap.size, rfl, rfl, HS.out, Blk.new w4 _ _, Nat.le_trans HA0.out.size H4.out.size, (HA0.out.trans (H4.out.mono HA0.out.size)).alloc (Nat.le_trans HA0.out.size H4.out.size) _⟩
        | exact ⟨S, W1.heap.size, rfl, rfl, HS.out, (blk_drew (Blk.new W1 _ _)).below H4.out (blk_drew (Blk.new W1 _ _)).lt, HB1.out.size, HA1.out.trans (H4.out.mono HA1.out.size)⟩
  case rest =>
    obtain ⟨S, G, rfl, rfl, hS, hG, hsz, hb⟩ := hcut
    have HS := Lib.hid hS; have HG := Lib.hid hG; have HSZ := Lib.hid hsz; have HBB := Lib.hid hb
    clear hS hG hsz hb HB HB1 HRE hmk
    generalize wc = W2 at *
    go_wp2_with fail
    go_loopw [14] (fun i wr => ∃ k : Nat, k ≤ N ∧ i = .int .i64 k ∧ Blk wr G 4 (boolC (fun i => decide (i < k) && S i) N) ∧ Below w.heap.size w wr) (fun i _ => N - (intOf i).toNat)
    case atStart => exact ⟨0, Nat.zero_le _, rfl, by simpa using HG.out, HBB.out⟩
    case round =>
      obtain ⟨k, hk, rfl, hg, hb⟩ := hrel
      have HGK := Lib.hid hg; have HBK := Lib.hid hb
      clear hg hb HG HBB
      by_cases hlt : k < N
      · have HA := Lib.hid (has64_any S k wr (by omega))
        have c0 : wr.cell? ⟨G, k, none⟩ = some (.bool (decide (k < k) && S k)) := (HGK.out.cell k).trans (boolC_get _ hlt)
        have cf : wr.frozen? ⟨G, k, none⟩ = false := HGK.out.free k
        have k0 : (0 : Int) ≤ (k : Int) := by omega
        have k1 : (k : Int) < (N : Int) := by omega
        obtain ⟨b, hb⟩ : ∃ b, S k = b := ⟨_, rfl⟩
        rw [hb] at HA
        have HGN : Hid (Blk (wr.setCell ⟨G, k, none⟩ (.bool b)) G 4 (boolC (fun i => decide (i < k + 1) && S i) N)) := by
          have := HGK.out.set_ k (.bool b)
          rw [boolC_set _ b hlt] at this
          rw [boolC_congr (g := fun i => decide (i < k + 1) && S i) (fun i _ => by
            by_cases e : i = k
            · subst e; simp [hb]
            · have : decide (i < k) = decide (i < k + 1) := by rw [decide_eq_decide]; omega
              simp [e, this])] at this
          exact this
        have HBN : Hid (Below w.heap.size w (wr.setCell ⟨G, k, none⟩ (.bool b))) := HBK.out.trans (((But.refl (fun j => j = G) wr).set _ _ (.inl rfl)).below HBK.out.size fun j _ e => by rw [e]; exact HSZ.out)
        clear hb
        go_wp2_with (go_at_call 22; (with_reducible refine HA.out.mono ?_); rintro e wq ⟨rfl, rfl⟩)
        go_roundw
        case rel => exact ⟨k + 1, by omega, by go_num, HGN.out, HBN.out⟩
        case measure => simp [intOf]; omega
      · obtain rfl : k = N := by omega
        have t : ¬ (k : Int) < (k : Int) := by omega
        have HGE : Hid (Blk wr G 4 (boolC S k)) := by
          have := HGK.out
          rw [boolC_congr (g := S) (fun i hi => by simp [hi])] at this
          exact this
        go_wp2_with fail
        go_ret
        exact ⟨S, G, rfl, HS.out, HGE.out, HSZ.out, HBK.out⟩
end Go.Proofs.Ythoddoabcdbliaa
