/- lint.allLocks; lint.May. -/
import Derived.Test.YthoddoabcdbliaaMc
namespace Go.Proofs.Ythoddoabcdbliaa
open Go.RowKit

/-- So many locks. -/
def allP (locks : Int) : Nat → Bool := fun k => decide ((k : Int) < locks)
theorem all_word {n : Nat} (h : n ≤ 16) {locks : Int} (hl : ∀ k : Nat, k < 16 → ((k : Int) < locks ↔ k < n)) : wordB (allP locks) 16 = 2 ^ n - 1 := by
  apply Nat.eq_of_testBit_eq; intro j
  rw [wordB_testBit, Nat.testBit_two_pow_sub_one]
  unfold allP
  by_cases q : j < 16
  · have := hl j q
    by_cases z : j < n
    · simp [q, z, this.2 z]
    · have : ¬ ((j : Int) < locks) := fun e => z (this.1 e)
      simp [z, this]
  · have : ¬ j < n := by omega
    simp [q, this]
theorem all_max {locks : Int} (h : 16 ≤ locks) : ((wordB (allP locks) 16 : Nat) : Int) = 65535 := by
  rw [all_word (n := 16) (Nat.le_refl _) (fun k hk => by omega)]; rfl
theorem all_min {locks : Int} (h : locks ≤ 0) : ((wordB (allP locks) 16 : Nat) : Int) = 0 := by
  rw [all_word (n := 0) (by omega) (fun k hk => by omega)]; rfl
set_option maxHeartbeats 4000000 in
theorem allLocks_any (locks : Int) (w : World) : Calls Try.prog 29 #[.int .i64 locks] w fun e w' => e = .returned (.int .u16 (wordB (allP locks) 16 : Nat)) ∧ w = w' := by
  have hc : locks < 0 ∨ locks = 0 ∨ 16 < locks ∨ locks = 16 ∨ (0 < locks ∧ locks < 16) := by omega
  rcases hc with h | rfl | h | rfl | ⟨h0, h1⟩
  · rw [all_min (by omega)]
    go_enter Try.func29, Try.ntmps29
    go_wp2
    all_goals go_ret
    all_goals exact ⟨rfl, rfl⟩
  · rw [all_min (by omega)]
    go_enter Try.func29, Try.ntmps29
    go_wp2
    all_goals go_ret
    all_goals exact ⟨rfl, rfl⟩
  · rw [all_max (by omega)]
    have h2 : (0 : Int) ≤ locks := by omega
    go_enter Try.func29, Try.ntmps29
    go_wp2
    all_goals go_ret
    all_goals exact ⟨rfl, rfl⟩
  · rw [all_max (by omega)]
    go_enter Try.func29, Try.ntmps29
    go_wp2
    all_goals go_ret
    all_goals exact ⟨rfl, rfl⟩
  · have hl : locks = 1 ∨ locks = 2 ∨ locks = 3 ∨ locks = 4 ∨ locks = 5 ∨ locks = 6 ∨ locks = 7 ∨ locks = 8 ∨ locks = 9 ∨ locks = 10 ∨ locks = 11 ∨ locks = 12 ∨ locks = 13 ∨ locks = 14 ∨ locks = 15 := by omega
    obtain ⟨n, rfl⟩ : ∃ n : Nat, locks = n := ⟨locks.toNat, by omega⟩
    rw [all_word (n := n) (by omega) (fun k hk => by omega)]
    clear h0 h1
    have hl : n = 1 ∨ n = 2 ∨ n = 3 ∨ n = 4 ∨ n = 5 ∨ n = 6 ∨ n = 7 ∨ n = 8 ∨ n = 9 ∨ n = 10 ∨ n = 11 ∨ n = 12 ∨ n = 13 ∨ n = 14 ∨ n = 15 := by omega
    rcases hl with rfl | rfl | rfl | rfl | rfl | rfl | rfl | rfl | rfl | rfl | rfl | rfl | rfl | rfl | rfl
    all_goals
      go_enter Try.func29, Try.ntmps29
      go_wp2
      go_ret
      exact ⟨rfl, rfl⟩
theorem infoU16 : (Try.prog.info? 39).map (fun i => (i.zero, i.size, i.bytes)) = some (some (.int .u16 0), 1, 2) := by kernel_rfl
theorem setC_made (N : Nat) : madeCells #[.int .u16 0] N = setC (fun _ _ => false) N := by
  have h0 : wordB (fun _ => false) 16 = 0 := Nat.eq_of_testBit_eq fun j => by rw [wordB_testBit]; simp
  apply Array.ext_getElem?
  intro i
  by_cases h : i < N
  · rw [setC_get _ h, h0]; simp [madeCells, h, Nat.mod_one]
  · simp [madeCells, setC, h]
set_option maxRecDepth 100000 in
set_option maxHeartbeats 8000000 in
theorem May_any (prio locks : Int) (A : Option Addr) (l : List I4) (cap : Nat) (Inv : (Nat → Nat → Bool) → Prop) (BI : Nat → (Nat → Bool) → Prop) (w : World) (hI : InsIn w A l) (hA : ∀ a, A = some a → a.block < w.heap.size) (hf : Fine prio l) (h0 : Inv fun _ _ => false)
    (hB : ∀ F pc x, Inv F → Rch l pc → l[pc]? = some x → BI pc (bhP x (F pc) (allP locks)))
    (hS : ∀ F pc x (j : Nat) B, Inv F → Rch l pc → l[pc]? = some x → (j : Int) ∈ nextP x pc → BI pc B → Inv (upd F j (fun k => F j k || B k))) :
    Calls Try.prog 15 #[.agg #[.int .i64 prio, .slice A l.length cap], .int .i64 locks] w fun e w' => ∃ F G, e = .returned (.slice (some ⟨G, 0, none⟩) l.length l.length) ∧ Blk w' G 39 (setC F l.length) ∧ Inv F ∧
      (∀ pc x, Rch l pc → l[pc]? = some x → ∀ j : Nat, (j : Int) ∈ nextP x pc → ∀ b, b < 16 → (F j b || bhP x (F pc) (allP locks) b) = F j b) ∧ w.heap.size ≤ G ∧ Below w.heap.size w w' := by
  have hlen := hf.len
  have hB1 : Below w.heap.size w (w.alloc (.cells #[.int .i64 prio, .slice A l.length cap] 24)) := (Below.refl _ _).alloc (Nat.le_refl _) _
  have hRE : ∀ W, Below w.heap.size w W → Calls Try.prog 21 #[.agg #[.int .i64 prio, .slice A l.length cap]] W fun e w' => ∃ S : Nat → Bool, e = .returned (.int .u64 (wordB S 64 : Nat)) ∧ (∀ k, S k = true ↔ Rch l k) ∧ Below W.heap.size W w' := fun W h => reach_any prio A l cap W (hI.below h) hf
  have HRE := Lib.hid hRE
  have HSE : Hid (∀ (W : World) (S : Nat → Bool) (G : Nat), Below w.heap.size w W → w.heap.size ≤ G → (∀ k, S k = true ↔ Rch l k) → Blk W G 39 (setC (fun _ _ => false) l.length) → Calls Try.prog 28 #[.agg #[.int .i64 prio, .slice A l.length cap], .int .u64 (wordB S 64 : Nat), .int .u16 (wordB (allP locks) 16 : Nat), .slice (some ⟨G, 0, none⟩) l.length l.length, .func (.func 30) #[] #[]] W fun e w' => ∃ F, e = .returned (.tuple #[]) ∧ Blk w' G 39 (setC F l.length) ∧ Inv F ∧ Clo or l S (allP locks) F l.length ∧ But (fun k => k = G) W w') := fun W S G h1 h2 h3 h4 =>
    settleMay_any prio A l cap S (allP locks) G _ Inv BI W (hI.below h1) hf (fun a ha => by have := hA a ha; omega) h4 h0 (fun F pc x a b c => hB F pc x a ((h3 pc).1 b) c) (fun F pc x j B a b c d e => hS F pc x j B a ((h3 pc).1 b) c d e)
  have hmk := run_make_row' (P := Try.prog) 35 39 (.int .u16 0) 2 Try.underlying35 infoU16 rfl .i64 .i64 l.length (by omega) (by omega)
  rw [setC_made] at hmk
  have HB := Lib.hid (Blk.new w 24 #[.int .i64 prio, .slice A l.length cap]); have HB1 := Lib.hid hB1
  have HL := Lib.hid (allLocks_any locks)
  have HLEN : Hid (∀ k, Rch l k → k < l.length) := fun k hk => by
    cases hk with
    | zero => omega
    | step h1 h2 h3 => have := nextP_in hf h2 (hI _ _ h2).1.n _ h3; omega
  clear hI hA hf h0 hB hS hB1 hRE
  generalize l.length = N at *
  go_enter Try.func15, Try.ntmps15
  have x0 := HB.out.cell 0; have x1 := HB.out.cell 1
  simp only [List.getElem?_toArray, List.getElem?_cons_zero, List.getElem?_cons_succ] at x0 x1
  go_upto_region 2 with fail
  have ha : Below (w.alloc (.cells #[.int .i64 prio, .slice A N cap] 24)).heap.size (w.alloc (.cells #[.int .i64 prio, .slice A N cap] 24)) ((w.alloc (.cells #[.int .i64 prio, .slice A N cap] 24)).alloc (.cells (setC (fun _ _ => false) N) 39)) := (Below.refl _ _).alloc (Nat.le_refl _) _
  have HP2 := Lib.hid (HB.out.below ha HB.out.lt); have hg2 := Blk.new (w.alloc (.cells #[.int .i64 prio, .slice A N cap] 24)) 39 (setC (fun _ _ => false) N)
  rw [World.size_alloc] at hg2
  have HG2 := Lib.hid hg2; have HB2 := Lib.hid (HB1.out.trans (ha.mono HB1.out.size))
  have HSZ : Hid (w.heap.size ≤ w.heap.size + 1) := Nat.le_succ _
  clear ha x0 x1 HB HB1 hmk hg2
  generalize (w.alloc (.cells #[.int .i64 prio, .slice A N cap] 24)).alloc (.cells (setC (fun _ _ => false) N) 39) = W2 at *
  generalize w.heap.size + 1 = G at *
  go_cut [] (fun wx => ∃ F, Blk wx G 39 (setC F N) ∧ Inv F ∧ (∀ pc x, Rch l pc → l[pc]? = some x → ∀ j : Nat, (j : Int) ∈ nextP x pc → ∀ b, b < 16 → (F j b || bhP x (F pc) (allP locks) b) = F j b) ∧ Below w.heap.size w wx)
  case first =>
    have x0 := HP2.out.cell 0; have x1 := HP2.out.cell 1
    simp only [List.getElem?_toArray, List.getElem?_cons_zero, List.getElem?_cons_succ] at x0 x1
    have HB3 : Hid (Below w.heap.size w W2.drew) := HB2.out.drew
    go_region_with (first
      | (go_at_call 21; (with_reducible refine (HRE.out _ HB3.out).mono ?_); rintro e w4 ⟨S, rfl, hS, h4⟩; have HS := Lib.hid hS; have HB4 := Lib.hid (HB3.out.trans (h4.mono HB3.out.size)); have HG4 := Lib.hid ((blk_drew HG2.out).below h4 HG2.out.lt); have p4 := (blk_drew HP2.out).below h4 HP2.out.lt; have y0 := p4.cell 0; have y1 := p4.cell 1; simp only [List.getElem?_toArray, List.getElem?_cons_zero, List.getElem?_cons_succ] at y0 y1; clear hS h4 p4)
      | (go_at_call 29; (with_reducible refine (HL.out _).mono ?_); rintro e wq ⟨rfl, rfl⟩)
      | (go_at_call 28; (with_reducible refine (HSE.out _ S G HB4.out HSZ.out HS.out HG4.out).mono ?_); rintro e w5 ⟨F, rfl, hg5, hi5, hc5, hb5⟩; have HG5 := Lib.hid hg5; have HI5 := Lib.hid hi5; have HC5 := Lib.hid hc5; have HB5 := Lib.hid (HB4.out.trans (hb5.below HB4.out.size fun k _ e => by rw [e]; exact HSZ.out)); clear hg5 hi5 hc5 hb5))
    all_goals
      go_wp2_with fail
      go_meet
      exact ⟨F, HG5.out, HI5.out, fun pc x h1 h2 j h3 b h4 => HC5.out pc x (HLEN.out pc h1) ((HS.out pc).2 h1) h2 j h3 b h4, HB5.out⟩
  case rest =>
    obtain ⟨F, hg, hi, hc, hb⟩ := hcut
    have HG := Lib.hid hg; have HIN := Lib.hid hi; have HC := Lib.hid hc; have HBB := Lib.hid hb
    clear hg hi hc hb
    go_wp2_with fail
    go_ret
    exact ⟨F, G, rfl, HG.out, HIN.out, HC.out, HSZ.out, HBB.out⟩
end Go.Proofs.Ythoddoabcdbliaa
