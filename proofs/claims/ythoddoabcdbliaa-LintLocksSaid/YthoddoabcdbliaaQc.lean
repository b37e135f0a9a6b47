/- The document's Sets (layer 26), in a fine program. -/
import Derived.Test.YthoddoabcdbliaaQb
import Derived.Test.YthoddoabcdbliaaMf
namespace Go.Proofs.Ythoddoabcdbliaa
open Go.RowKit

structure StS (w : World) (GA GB : Nat) (prio : Int) (A : Option Addr) (N cap : Nat) (F H : Nat → Nat → Bool) (wr : World) : Prop where
  p : Blk wr w.heap.size 24 #[.int .i64 prio, .slice A N cap]
  ga : Blk wr GA 39 (setC F N)
  gb : Blk wr GB 39 (setC H N)
  b : Below w.heap.size w wr
section
variable {w wr wx : World} {GA GB N cap : Nat} {prio : Int} {A : Option Addr} {F H : Nat → Nat → Bool}
theorem StS.below (h : StS w GA GB prio A N cap F H wr) (hb : Below wr.heap.size wr wx) : StS w GA GB prio A N cap F H wx :=
  ⟨h.p.below hb h.p.lt, h.ga.below hb h.ga.lt, h.gb.below hb h.gb.lt, h.b.trans (hb.mono h.b.size)⟩
theorem StS.drew (h : StS w GA GB prio A N cap F H wr) : StS w GA GB prio A N cap F H wr.drew := h.below (Below.refl _ _).drew
theorem StS.seta (h : StS w GA GB prio A N cap F H wr) (hG : w.heap.size < GA) (hne : GA < GB) {k : Nat} (hk : k < N) {u : Nat} {q : Nat → Bool} (hu : u = wordB q 16) {T : Nat → Nat → Bool} (hT : ∀ i, i < N → wordB (upd F k q i) 16 = wordB (T i) 16) : StS w GA GB prio A N cap T H (wr.setCell ⟨GA, k, none⟩ (.int .u16 u)) := by
  have hb : But (fun j => j = GA) wr (wr.setCell ⟨GA, k, none⟩ (.int .u16 u)) := (But.refl (fun j => j = GA) wr).set _ _ (.inl rfl)
  refine ⟨h.p.but hb (by omega), ?_, h.gb.but hb (by omega), h.b.trans (hb.below h.b.size fun j _ e => by rw [e]; omega)⟩
  have := h.ga.set_ k (.int .u16 u)
  rw [hu, setC_set _ q hk, setC_congr hT] at this
  rw [hu]; exact this
theorem StS.setb (h : StS w GA GB prio A N cap F H wr) (hG : w.heap.size < GA) (hne : GA < GB) {k : Nat} (hk : k < N) {u : Nat} {q : Nat → Bool} (hu : u = wordB q 16) {T : Nat → Nat → Bool} (hT : ∀ i, i < N → wordB (upd H k q i) 16 = wordB (T i) 16) : StS w GA GB prio A N cap F T (wr.setCell ⟨GB, k, none⟩ (.int .u16 u)) := by
  have hb : But (fun j => j = GB) wr (wr.setCell ⟨GB, k, none⟩ (.int .u16 u)) := (But.refl (fun j => j = GB) wr).set _ _ (.inl rfl)
  refine ⟨h.p.but hb (by omega), h.ga.but hb (by omega), ?_, h.b.trans (hb.below h.b.size fun j _ e => by rw [e]; omega)⟩
  have := h.gb.set_ k (.int .u16 u)
  rw [hu, setC_set _ q hk, setC_congr hT] at this
  rw [hu]; exact this
end
/-- The bits below k, and from the first i places bit k too. -/
def upto (M : Nat → Nat → Bool) (k i : Nat) : Nat → Nat → Bool := fun j b => (decide (b < k) || (decide (b = k) && decide (j < i))) && M j b
theorem upto_zero (M : Nat → Nat → Bool) (k : Nat) : upto M k 0 = fun j b => decide (b < k) && M j b := by
  funext j b; simp [upto]
theorem upto_all (M : Nat → Nat → Bool) (k N : Nat) (j : Nat) (hj : j < N) : upto M k N j = upto M (k + 1) 0 j := by
  funext b; unfold upto
  have : (decide (b < k) || (decide (b = k) && decide (j < N))) = (decide (b < k + 1) || (decide (b = k + 1) && decide (j < 0))) := by
    simp [hj, Nat.lt_succ_iff_lt_or_eq]
  rw [this]
theorem upto_next (M : Nat → Nat → Bool) (k i : Nat) (q : Nat → Bool) (hq : ∀ b, q b = (upto M k i i b || (decide (b = k) && M i k))) (j : Nat) : upd (upto M k i) i q j = upto M k (i + 1) j := by
  funext b
  unfold upd
  by_cases e : j = i
  · subst e
    rw [if_pos rfl, hq]
    unfold upto
    by_cases e2 : b = k
    · subst e2; simp
    · simp [e2]
  · rw [if_neg e]
    unfold upto
    have : decide (j < i) = decide (j < i + 1) := by rw [decide_eq_decide]; omega
    rw [this]
theorem upto_bit (M : Nat → Nat → Bool) (k i : Nat) : upto M k i i k = false := by simp [upto]
theorem add_bit (M : Nat → Nat → Bool) {k i : Nat} (hk : k < 16) : wordB (upto M k i i) 16 + 2 ^ k = wordB (fun b => upto M k i i b || decide (b = k)) 16 := (wordB_put _ k 16 hk (upto_bit M k i)).symm
set_option maxRecDepth 100000 in
set_option maxHeartbeats 16000000 in
theorem Sets_any (prio locks : Int) (A : Option Addr) (l : List I4) (cap : Nat) (FM FU : Nat → Nat → Bool) (w : World) (hI : InsIn w A l) (hf : Fine prio l)
    (hM : ∀ b, b < 16 → ∀ j, FM j b = true ↔ Had l b locks true j) (hU : ∀ b, b < 16 → ∀ j, FU j b = true ↔ Sure l b locks j) :
    Calls Try.prog 14 #[.agg #[.int .i64 prio, .slice A l.length cap], .int .i64 locks] w fun e w' => ∃ (GA GB : Nat), e = .returned (.tuple #[.slice (some ⟨GA, 0, none⟩) l.length l.length, .slice (some ⟨GB, 0, none⟩) l.length l.length]) ∧
      Blk w' GA 39 (setC FM l.length) ∧ Blk w' GB 39 (setC FU l.length) ∧ Below w.heap.size w w' := by
  have hlen := hf.len
  have hB1 : Below w.heap.size w (w.alloc (.cells #[.int .i64 prio, .slice A l.length cap] 24)) := (Below.refl _ _).alloc (Nat.le_refl _) _
  have HHE : Hid (∀ (W : World) (b : Nat), b < 16 → Below w.heap.size w W → Calls Try.prog 27 #[.agg #[.int .i64 prio, .slice A l.length cap], .int .i64 b, .int .i64 locks] W fun e w' => ∃ (G1 G3 : Nat), e = .returned (.tuple #[.slice (some ⟨G1, 0, none⟩) l.length l.length, .slice (some ⟨G3, 0, none⟩) l.length l.length]) ∧
      Blk w' G1 4 (boolC (fun j => FM j b) l.length) ∧ Blk w' G3 4 (boolC (fun j => FU j b) l.length) ∧ W.heap.size ≤ G1 ∧ W.heap.size ≤ G3 ∧ Below W.heap.size W w') := fun W b hb h =>
    (Held_any prio locks A l cap b W (hI.below h) hf hb).mono fun e w' ⟨S, O, G1, G3, he, hS, hO, h1, h3, h4, h5, h6⟩ => by
      have e1 : S = fun j => FM j b := funext fun j => by rw [Bool.eq_iff_iff, hS, hM b hb]
      have e2 : (fun j => S j && !O j) = fun j => FU j b := funext fun j => by
        rw [Bool.eq_iff_iff, hU b hb]
        unfold Sure
        rw [Bool.and_eq_true, hS, ← hO]
        simp
      exact ⟨G1, G3, he, e1 ▸ h1, e2 ▸ h3, h4, h5, h6⟩
  have hb := Blk.new w 24 #[.int .i64 prio, .slice A l.length cap]
  have HB := Lib.hid hb; have HB1 := Lib.hid hB1
  clear hI hf hb hB1 hM hU
  obtain ⟨N, hN⟩ : ∃ N, l.length = N := ⟨_, rfl⟩
  rw [hN] at hlen HHE HB HB1 ⊢
  clear hN
  have hmk := run_make_row' (P := Try.prog) 35 39 (.int .u16 0) 2 Try.underlying35 infoU16 rfl .i64 .i64 N (by omega) (by omega)
  rw [setC_made] at hmk
  have x0 := HB.out.cell 0; have x1 := HB.out.cell 1
  simp only [List.getElem?_toArray, List.getElem?_cons_zero, List.getElem?_cons_succ] at x0 x1
  have hG0 : w.heap.size < w.heap.size + 1 := by omega
  have hG1 : w.heap.size + 1 < w.heap.size + 1 + 1 := by omega
  have hsz : (w.alloc (.cells #[.int .i64 prio, .slice A N cap] 24)).heap.size = w.heap.size + 1 := by simp
  have e0 : setC (upto FM 0 0) N = setC (fun _ _ => false) N := by rw [upto_zero]; exact setC_congr fun i _ => by simp
  have e1 : setC (upto FU 0 0) N = setC (fun _ _ => false) N := by rw [upto_zero]; exact setC_congr fun i _ => by simp
  have z1 : ((w.alloc (.cells #[.int .i64 prio, .slice A N cap] 24)).alloc (.cells (setC (fun _ _ => false) N) 39)).cell? ⟨w.heap.size, 1, none⟩ = some (.slice A N cap) := (HB.out.alloc _).cell 1
  have hS0 : StS w (w.heap.size + 1) (w.heap.size + 1 + 1) prio A N cap (upto FM 0 0) (upto FU 0 0) (((w.alloc (.cells #[.int .i64 prio, .slice A N cap] 24)).alloc (.cells (setC (fun _ _ => false) N) 39)).alloc (.cells (setC (fun _ _ => false) N) 39)) := by
    have h1 := Blk.new (w.alloc (.cells #[.int .i64 prio, .slice A N cap] 24)) 39 (setC (fun _ _ => false) N)
    have h2 := Blk.new ((w.alloc (.cells #[.int .i64 prio, .slice A N cap] 24)).alloc (.cells (setC (fun _ _ => false) N) 39)) 39 (setC (fun _ _ => false) N)
    rw [World.size_alloc, hsz] at h2
    rw [hsz] at h1
    exact ⟨(HB.out.alloc _).alloc _, e0 ▸ h1.alloc _, e1 ▸ h2, (HB1.out.alloc (by omega) _).alloc (by simp; omega) _⟩
  clear hsz e0 e1
  have HS0 := Lib.hid hS0; have HG0 := Lib.hid hG0; have HG1 := Lib.hid hG1
  clear hS0 hG0 hG1
  go_enter Try.func14, Try.ntmps14
  go_wp2_with fail
  clear x0 x1 z1 HB HB1 hmk
  generalize ((w.alloc (.cells #[.int .i64 prio, .slice A N cap] 24)).alloc (.cells (setC (fun _ _ => false) N) 39)).alloc (.cells (setC (fun _ _ => false) N) 39) = W2 at *
  generalize w.heap.size + 1 + 1 = GB at *
  generalize w.heap.size + 1 = GA at *
  go_loopw [8] (fun i wr => ∃ k : Nat, k ≤ 16 ∧ i = .int .i64 k ∧ StS w GA GB prio A N cap (upto FM k 0) (upto FU k 0) wr) (fun i _ => 16 - (intOf i).toNat)
  case atStart => exact ⟨0, Nat.zero_le _, rfl, HS0.out⟩
  case round =>
    obtain ⟨k, hk, rfl, hst⟩ := hrel
    have HST := Lib.hid hst
    clear hst HS0
    by_cases hlt : k < 16
    · have x0 := HST.out.p.cell 0; have x1 := HST.out.p.cell 1
      simp only [List.getElem?_toArray, List.getElem?_cons_zero, List.getElem?_cons_succ] at x0 x1
      have k0 : (0 : Int) ≤ (k : Int) := by omega
      have k1 : (k : Int) < 16 := by omega
      go_wp2_with fail
      refine (HHE.out wr k hlt HST.out.b).mono ?_
      rintro e w4 ⟨G1, G3, rfl, hg1, hg3, hz1, hz3, h4⟩
      dsimp only
      have HST4 := Lib.hid (HST.out.below h4)
      have HLA := Lib.hid HST.out.ga.lt; have HLB := Lib.hid HST.out.gb.lt
      have HZ1 := Lib.hid hz1; have HZ3 := Lib.hid hz3; have HH1 := Lib.hid hg1; have HH3 := Lib.hid hg3
      clear hg1 hg3 hz1 hz3 h4 x0 x1 HST
      go_wp2_with fail
      go_loopw [33] (fun i wx => ∃ j : Nat, j ≤ N ∧ i = .int .i64 j ∧ StS w GA GB prio A N cap (upto FM k j) (upto FU k j) wx ∧ Blk wx G1 4 (boolC (fun i => FM i k) N) ∧ Blk wx G3 4 (boolC (fun i => FU i k) N)) (fun i _ => N - (intOf i).toNat)
      case atStart => exact ⟨0, Nat.zero_le _, rfl, HST4.out, HH1.out, HH3.out⟩
      case round =>
        obtain ⟨j, hj, rfl, hst, hg1, hg3⟩ := hrel
        clear HST4 HH1 HH3
        have HST := Lib.hid hst; have HH1 := Lib.hid hg1; have HH3 := Lib.hid hg3
        clear hst hg1 hg3
        by_cases hlj : j < N
        · have j0 : (0 : Int) ≤ (j : Int) := by omega
          have j1 : (j : Int) < (N : Int) := by omega
          obtain ⟨ma, hma⟩ : ∃ b, FM j k = b := ⟨_, rfl⟩
          obtain ⟨mb, hmb⟩ : ∃ b, FU j k = b := ⟨_, rfl⟩
          have HBa := Lib.hid hma; have HBb := Lib.hid hmb
          clear hma hmb
          have c1 := (HH1.out.cell j).trans (boolC_get _ hlj)
          rw [HBa.out] at c1
          cases ma with
          | false =>
            have HST : Hid (StS w GA GB prio A N cap (upto FM k (j + 1)) (upto FU k j) wr) := by
              have h := HST.out
              refine ⟨h.p, ?_, h.gb, h.b⟩
              have := h.ga
              rwa [setC_congr (H := upto FM k (j + 1)) (fun i _ => by
                have := upto_next FM k j (upto FM k j j) (fun b => by rw [HBa.out]; simp) i
                rw [← this]; unfold upd; split
                · rename_i e; subst e; rfl
                · rfl)] at this
            have c3 := (HH3.out.cell j).trans (boolC_get _ hlj)
            rw [HBb.out] at c3
            cases mb with
            | false =>
              clear HBa
              have HST : Hid (StS w GA GB prio A N cap (upto FM k (j + 1)) (upto FU k (j + 1)) wr) := by
                have h := HST.out
                refine ⟨h.p, h.ga, ?_, h.b⟩
                have := h.gb
                rwa [setC_congr (H := upto FU k (j + 1)) (fun i _ => by
                  have := upto_next FU k j (upto FU k j j) (fun b => by rw [HBb.out]; simp) i
                  rw [← this]; unfold upd; split
                  · rename_i e; subst e; rfl
                  · rfl)] at this
              go_wp2_with fail
              go_roundw
              case rel => exact ⟨j + 1, by omega, by go_num, HST.out, HH1.out, HH3.out⟩
              case measure => simp [intOf]; omega
            | true =>
              clear HBa
              have cv := (HST.out.gb.cell j).trans (setC_get _ hlj)
              have cf : wr.frozen? ⟨GB, j, none⟩ = false := HST.out.gb.free j
              have hadd := add_bit FU (i := j) hlt
              have hbd := w16_lt (fun b => upto FU k j j b || decide (b = k))
              obtain ⟨u, hu⟩ : ∃ u, wordB (upto FU k j j) 16 = u := ⟨_, rfl⟩
              rw [hu] at cv hadd
              have HFIN : Hid (StS w GA GB prio A N cap (upto FM k (j + 1)) (upto FU k (j + 1)) (wr.drew.setCell ⟨GB, j, none⟩ (.int .u16 (u + 2 ^ k : Nat)))) := HST.out.drew.setb HG0.out HG1.out hlj hadd (fun i _ => by rw [upto_next FU k j _ (fun b => by rw [HBb.out]; simp)])
              have HWR : Hid (Blk (wr.drew.setCell ⟨GB, j, none⟩ (.int .u16 (u + 2 ^ k : Nat))) G1 4 (boolC (fun i => FM i k) N) ∧ Blk (wr.drew.setCell ⟨GB, j, none⟩ (.int .u16 (u + 2 ^ k : Nat))) G3 4 (boolC (fun i => FU i k) N)) := by
                have q1 := HLA.out; have q2 := HLB.out; have q3 := HZ1.out; have q4 := HZ3.out
                exact ⟨(blk_drew HH1.out).far (by show G1 ≠ GB; omega) _, (blk_drew HH3.out).far (by show G3 ≠ GB; omega) _⟩
              rw [← hadd] at hbd
              obtain ⟨v, hv⟩ : ∃ v : Nat, 2 ^ k = v := ⟨_, rfl⟩
              have hpw : ((2 : Int) ^ k) = (v : Int) := by rw [← hv]; simp
              rw [hv] at hbd HFIN HWR
              clear hadd hu hv
              have b0 : (0 : Int) ≤ (u : Int) := by omega
              have b1 : (0 : Int) ≤ (v : Int) := by omega
              have b2 : (u : Int) + (v : Int) < 65536 := by omega
              go_upto_region 13 with fail
              clear HST HH1 HH3
              go_region
              go_wp2_with fail
              go_roundw
              case rel => exact ⟨j + 1, by omega, by go_num, HFIN.out, HWR.out.1, HWR.out.2⟩
              case measure => simp [intOf]; omega
          | true =>
            have cv := (HST.out.ga.cell j).trans (setC_get _ hlj)
            have cf : wr.frozen? ⟨GA, j, none⟩ = false := HST.out.ga.free j
            have hadd := add_bit FM (i := j) hlt
            have hbd := w16_lt (fun b => upto FM k j j b || decide (b = k))
            obtain ⟨u, hu⟩ : ∃ u, wordB (upto FM k j j) 16 = u := ⟨_, rfl⟩
            rw [hu] at cv hadd
            have HFIN : Hid (StS w GA GB prio A N cap (upto FM k (j + 1)) (upto FU k j) (wr.drew.setCell ⟨GA, j, none⟩ (.int .u16 (u + 2 ^ k : Nat)))) := HST.out.drew.seta HG0.out HG1.out hlj hadd (fun i _ => by rw [upto_next FM k j _ (fun b => by rw [HBa.out]; simp)])
            have HWR : Hid (Blk (wr.drew.setCell ⟨GA, j, none⟩ (.int .u16 (u + 2 ^ k : Nat))) G1 4 (boolC (fun i => FM i k) N) ∧ Blk (wr.drew.setCell ⟨GA, j, none⟩ (.int .u16 (u + 2 ^ k : Nat))) G3 4 (boolC (fun i => FU i k) N)) := by
              have q1 := HLA.out; have q2 := HLB.out; have q3 := HZ1.out; have q4 := HZ3.out
              exact ⟨(blk_drew HH1.out).far (by show G1 ≠ GA; omega) _, (blk_drew HH3.out).far (by show G3 ≠ GA; omega) _⟩
            rw [← hadd] at hbd
            obtain ⟨v, hv⟩ : ∃ v : Nat, 2 ^ k = v := ⟨_, rfl⟩
            have hpw : ((2 : Int) ^ k) = (v : Int) := by rw [← hv]; simp
            rw [hv] at hbd HFIN HWR
            clear hadd hu hv
            have b0 : (0 : Int) ≤ (u : Int) := by omega
            have b1 : (0 : Int) ≤ (v : Int) := by omega
            have b2 : (u : Int) + (v : Int) < 65536 := by omega
            go_upto_region 11 with fail
            go_cut [] (fun wz => StS w GA GB prio A N cap (upto FM k (j + 1)) (upto FU k j) wz ∧ Blk wz G1 4 (boolC (fun i => FM i k) N) ∧ Blk wz G3 4 (boolC (fun i => FU i k) N))
            case first =>
              as_aux_lemma =>
                go_region
                all_goals
                  go_wp2_with fail
                  go_meet
                  exact ⟨HFIN.out, HWR.out.1, HWR.out.2⟩
            case rest =>
              obtain ⟨hst, hg1, hg3⟩ := hcut
              clear HST HH1 HH3 HFIN HWR cv cf hpw hbd b0 b1 b2
              have HST := Lib.hid hst; have HH1 := Lib.hid hg1; have HH3 := Lib.hid hg3
              clear hst hg1 hg3
              have c3 := (HH3.out.cell j).trans (boolC_get _ hlj)
              rw [HBb.out] at c3
              cases mb with
              | false =>
                clear HBa
                have HST : Hid (StS w GA GB prio A N cap (upto FM k (j + 1)) (upto FU k (j + 1)) wc) := by
                  have h := HST.out
                  refine ⟨h.p, h.ga, ?_, h.b⟩
                  have := h.gb
                  rwa [setC_congr (H := upto FU k (j + 1)) (fun i _ => by
                    have := upto_next FU k j (upto FU k j j) (fun b => by rw [HBb.out]; simp) i
                    rw [← this]; unfold upd; split
                    · rename_i e; subst e; rfl
                    · rfl)] at this
                go_wp2_with fail
                go_roundw
                case rel => exact ⟨j + 1, by omega, by go_num, HST.out, HH1.out, HH3.out⟩
                case measure => simp [intOf]; omega
              | true =>
                clear HBa
                have cv := (HST.out.gb.cell j).trans (setC_get _ hlj)
                have cf : wc.frozen? ⟨GB, j, none⟩ = false := HST.out.gb.free j
                have hadd := add_bit FU (i := j) hlt
                have hbd := w16_lt (fun b => upto FU k j j b || decide (b = k))
                obtain ⟨u, hu⟩ : ∃ u, wordB (upto FU k j j) 16 = u := ⟨_, rfl⟩
                rw [hu] at cv hadd
                have HFIN : Hid (StS w GA GB prio A N cap (upto FM k (j + 1)) (upto FU k (j + 1)) (wc.drew.setCell ⟨GB, j, none⟩ (.int .u16 (u + 2 ^ k : Nat)))) := HST.out.drew.setb HG0.out HG1.out hlj hadd (fun i _ => by rw [upto_next FU k j _ (fun b => by rw [HBb.out]; simp)])
                have HWR : Hid (Blk (wc.drew.setCell ⟨GB, j, none⟩ (.int .u16 (u + 2 ^ k : Nat))) G1 4 (boolC (fun i => FM i k) N) ∧ Blk (wc.drew.setCell ⟨GB, j, none⟩ (.int .u16 (u + 2 ^ k : Nat))) G3 4 (boolC (fun i => FU i k) N)) := by
                  have q1 := HLA.out; have q2 := HLB.out; have q3 := HZ1.out; have q4 := HZ3.out
                  exact ⟨(blk_drew HH1.out).far (by show G1 ≠ GB; omega) _, (blk_drew HH3.out).far (by show G3 ≠ GB; omega) _⟩
                rw [← hadd] at hbd
                obtain ⟨v, hv⟩ : ∃ v : Nat, 2 ^ k = v := ⟨_, rfl⟩
                have hpw : ((2 : Int) ^ k) = (v : Int) := by rw [← hv]; simp
                rw [hv] at hbd HFIN HWR
                clear hadd hu hv
                have b0 : (0 : Int) ≤ (u : Int) := by omega
                have b1 : (0 : Int) ≤ (v : Int) := by omega
                have b2 : (u : Int) + (v : Int) < 65536 := by omega
                go_upto_region 13 with fail
                clear HST HH1 HH3
                go_region
                go_wp2_with fail
                go_roundw
                case rel => exact ⟨j + 1, by omega, by go_num, HFIN.out, HWR.out.1, HWR.out.2⟩
                case measure => simp [intOf]; omega
        · obtain rfl : j = N := by omega
          have t : ¬ (j : Int) < (j : Int) := by omega
          have HSTN : Hid (StS w GA GB prio A j cap (upto FM (k + 1) 0) (upto FU (k + 1) 0) wr) := by
            have h := HST.out
            refine ⟨h.p, ?_, ?_, h.b⟩
            · have := h.ga
              rwa [setC_congr (H := upto FM (k + 1) 0) (fun i hi => by rw [upto_all FM k j i hi])] at this
            · have := h.gb
              rwa [setC_congr (H := upto FU (k + 1) 0) (fun i hi => by rw [upto_all FU k j i hi])] at this
          go_wp2_with fail
          go_roundw
          case rel => exact ⟨k + 1, by omega, by go_num, HSTN.out⟩
          case measure => simp [intOf]; omega
    · obtain rfl : k = 16 := by omega
      have HFA : Hid (Blk wr GA 39 (setC FM N)) := by
        have := HST.out.ga
        rwa [setC_congr (H := FM) (fun i _ => wordB_same _ _ 16 fun m hm => by simp [upto_zero, hm])] at this
      have HFB : Hid (Blk wr GB 39 (setC FU N)) := by
        have := HST.out.gb
        rwa [setC_congr (H := FU) (fun i _ => wordB_same _ _ 16 fun m hm => by simp [upto_zero, hm])] at this
      go_wp2_with fail
      go_ret2
      exact ⟨GA, GB, rfl, HFA.out, HFB.out, HST.out.b⟩
end Go.Proofs.Ythoddoabcdbliaa
