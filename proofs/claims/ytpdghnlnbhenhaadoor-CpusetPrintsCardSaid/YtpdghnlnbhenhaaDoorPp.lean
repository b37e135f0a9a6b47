/- The contract of cpuset.Parse. -/
import Derived.Test.YtpdghnlnbhenhaaDoorPn
import Derived.Test.YtpdghnlnbhenhaaDoorSl
namespace Go.Proofs.YtpdghnlnbhenhaaDoor
open Go.RowKit

/-- Three results, the first a set in a block. -/
theorem res_set3 {fn : Func} {R : Ending → World → Prop} {a : Act} {w : World} {t u v : Tmp} (h : fn.results = #[.cell t 25, .tmp u, .tmp v]) (g : Nat) (p : Nat → Bool)
    (hp : a.tmps.getD t undef = .pointer (some ⟨g, 0, none⟩)) (hg : w.heap[g]? = some (.cells (cellsOf p) 25 (0, 0))) (hd : a.defers = [])
    (hR : R (.returned (.tuple #[.agg (cellsOf p), a.tmps.getD u undef, a.tmps.getD v undef])) w) : bodyPost Tryd.prog fn R .ret a w := by
  have hp' : a.tmps[t]?.getD undef = .pointer (some ⟨g, 0, none⟩) := by simpa using hp
  refine bodyPost_ret (v := .tuple #[.agg (cellsOf p), a.tmps.getD u undef, a.tmps.getD v undef]) ?_ hd hR
  simp [results, h, hp', asAddr, run_loadVar_row w g 25 25 _ (0, 0) _ hg underSet rfl (by rw [infoSet, cellsOf_size])]

/-- A set's text read: the three results. -/
def parseV (r : (Nat → Bool) × Nat × Nat) : Value := .tuple #[.agg (cellsOf r.1), .int .i64 r.2.1, .int .i64 r.2.2]
theorem meets_any' (p : Nat → Bool) (f t : Nat) : (!eqP (fun n => p n && rangeP f t n) (fun _ => false)) = (List.range 1024).any (fun n => p n && (decide (f ≤ n) && decide (n ≤ t))) := by
  have h : ∀ n, rangeP f t n = (decide (f ≤ n) && decide (n ≤ t)) := fun n => by
    unfold rangeP; rw [Bool.eq_iff_iff]; simp
  rw [Bool.eq_iff_iff]
  simp only [h, eqP, Bool.not_eq_true', List.any_eq_true, List.mem_range]
  constructor
  · intro hx
    by_cases hy : ∃ n, n < 1024 ∧ (p n && (decide (f ≤ n) && decide (n ≤ t))) = true
    · exact hy
    · exfalso
      have : ((List.range 1024).all fun n => (p n && (decide (f ≤ n) && decide (n ≤ t))) == false) = true := by
        rw [List.all_eq_true]
        intro n hn
        have : ¬ (p n && (decide (f ≤ n) && decide (n ≤ t))) = true := fun e => hy ⟨n, by simpa using hn, e⟩
        exact beq_iff_eq.2 (Bool.eq_false_iff.2 this)
      rw [this] at hx; cases hx
  · rintro ⟨n, hn, e⟩
    by_cases hx : ((List.range 1024).all fun n => (p n && (decide (f ≤ n) && decide (n ≤ t))) == false) = true
    · rw [List.all_eq_true] at hx
      have := hx n (by simpa using hn)
      rw [e] at this; cases this
    · simpa using hx
theorem or_range (p : Nat → Bool) (f t : Nat) : (fun n => p n || rangeP f t n) = fun n => p n || (decide (f ≤ n) && decide (n ≤ t)) := by
  funext n; congr 1; unfold rangeP; rw [Bool.eq_iff_iff]; simp

theorem parse_step (w2 : World) (B : Nat) (z p q : Nat → Bool) (h0 : w2.heap[B]? = some (.cells (cellsOf z) 25 (0, 0))) (h1 : w2.heap[B + 1]? = some (.cells (cellsOf p) 25 (0, 0))) (hlt : B + 1 < w2.heap.size) :
    ((w2.alloc (.cells (cellsOf fun _ => false) 25)).setRow w2.heap.size (cellsOf q)).heap[B]? = some (.cells (cellsOf z) 25 (0, 0)) ∧
    ((w2.alloc (.cells (cellsOf fun _ => false) 25)).setRow w2.heap.size (cellsOf q)).heap[B + 1]? = some (.cells (cellsOf p) 25 (0, 0)) ∧
    ((w2.alloc (.cells (cellsOf fun _ => false) 25)).setRow w2.heap.size (cellsOf q)).heap[w2.heap.size]? = some (.cells (cellsOf q) 25 (0, 0)) ∧
    Below w2.heap.size w2 ((w2.alloc (.cells (cellsOf fun _ => false) 25)).setRow w2.heap.size (cellsOf q)) ∧
    w2.heap.size < ((w2.alloc (.cells (cellsOf fun _ => false) 25)).setRow w2.heap.size (cellsOf q)).heap.size :=
  ⟨(setRow_other _ _ _ _ (by omega)).trans ((heap_alloc_old _ _ (by omega)).trans h0),
   (setRow_other _ _ _ _ (by omega)).trans ((heap_alloc_old _ _ (by omega)).trans h1),
   setRow_heap _ _ _ _ _ _ (heap_alloc_new _ _),
   below_setRow ((Below.refl _ _).alloc (Nat.le_refl _) _) (Nat.le_refl _) _,
   by simp⟩

set_option maxRecDepth 100000 in
set_option maxHeartbeats 1000000 in
theorem parse_empty (s : ByteArray) (w : World) (hs : s.size = 0) :
    Calls Tryd.prog 29 #[.string s] w fun e w' => e = .returned (parseV (fun _ => false, 0, 0)) ∧ Below w.heap.size w w' := by
  have hz := cellsOf_zero.symm
  have he : s.toList = [] := by rw [ByteArray.toList_eq]; apply List.eq_nil_of_length_eq_zero; simpa using hs
  have g0 := heap_alloc2_old w (.cells (cellsOf fun _ => false) 25) (.cells (cellsOf fun _ => false) 25)
  have g1 := heap_alloc2_new w (.cells (cellsOf fun _ => false) 25) (.cells (cellsOf fun _ => false) 25)
  have G0 := Lib.hid g0; have G1 := Lib.hid g1; clear g0 g1 hs
  go_enter Tryd.func29, Tryd.ntmps29
  go_wp2_with (first | (refine ld_set rfl _ rfl _ rfl _ G1.out ?_) | (refine st_set rfl _ _ rfl _ _ rfl rfl _ G0.out (cellsOf_size _) ?_))
  refine res_set3 rfl _ _ rfl (setRow_heap _ _ _ _ _ _ G0.out) rfl ⟨rfl, ?_⟩
  exact below_setRow (((Below.refl _ _).alloc (Nat.le_refl _) _).alloc (by simp) _) (Nat.le_refl _) _

set_option maxRecDepth 100000 in
set_option maxHeartbeats 2000000 in
theorem parse_some (s : ByteArray) (w : World) (hs : s.size ≤ 100000) (hpos : 0 < s.size) :
    Calls Tryd.prog 29 #[.string s] w fun e w' => e = .returned (parseV (parseR (byteAt s) s.size (s.size + 1) (fun _ => false) 0)) ∧ Below w.heap.size w w' := by
  generalize hRR : parseR (byteAt s) s.size (s.size + 1) (fun _ => false) 0 = RR
  have HR := Lib.hid hRR; clear hRR
  have hz := cellsOf_zero.symm
  have he : s.toList.isEmpty = false := by
    rw [ByteArray.toList_eq]
    cases h : s.data.toList with
    | nil => have : s.data.toList.length = s.size := by simp
             rw [h] at this; simp at this; omega
    | cons a l => rfl
  have he2 : (s.toList == []) = false := by
    cases h : s.toList with
    | nil => rw [h] at he; cases he
    | cons a l => rfl
  have g0 := heap_alloc2_old w (.cells (cellsOf fun _ => false) 25) (.cells (cellsOf fun _ => false) 25)
  have g1 := heap_alloc2_new w (.cells (cellsOf fun _ => false) 25) (.cells (cellsOf fun _ => false) 25)
  generalize hB : w.heap.size = B at g0 g1 ⊢
  have HB := Lib.hid hB; clear hB
  have G0 := Lib.hid g0; have G1 := Lib.hid g1; clear g0 g1
  go_enter Tryd.func29, Tryd.ntmps29
  go_wp2
  rw [HB.out]
  go_loopw [6] (fun i wr => ∃ k fu : Nat, ∃ p : Nat → Bool, k ≤ s.size ∧ s.size + 1 ≤ fu + k ∧ i = .int .i64 k ∧ parseR (byteAt s) s.size fu p k = RR ∧ Below B w wr ∧ wr.heap[B]? = some (.cells (cellsOf fun _ => false) 25 (0, 0)) ∧ wr.heap[B + 1]? = some (.cells (cellsOf p) 25 (0, 0))) (fun i _ => s.size + 1 - (intOf i).toNat)
  case atStart =>
    exact ⟨0, s.size + 1, _, by omega, by omega, rfl, HR.out, ((Below.refl _ _).alloc (by rw [HB.out]; exact Nat.le_refl _) _).alloc (by simp [HB.out]) _, G0.out, G1.out⟩
  case round =>
    obtain ⟨k, fu, p, hk, hfu, rfl, hR, hb, g0, g1⟩ := hrel
    have K0 := Lib.hid g0; have K1 := Lib.hid g1; clear g0 g1
    obtain ⟨fu, rfl⟩ : ∃ n, fu = n + 1 := ⟨fu - 1, by omega⟩
    obtain ⟨f, t, e, er, hI⟩ : ∃ f t e er, itemR (byteAt s) s.size k = (f, t, e, er) := ⟨_, _, _, _, rfl⟩
    have hit := fun w => item_any s k w hs hk
    have hle := itemR_le (byteAt s) s.size k hk
    rw [parseR] at hR
    rw [hI] at hit hle hR
    simp only at hit hle hR
    have HI := Lib.hid hit; clear hit hI
    obtain ⟨hle1, hle2⟩ := hle
    by_cases her : er = 0
    · subst her
      obtain ⟨b1, b2, b3⟩ := hle2 rfl
      rw [if_neg (by simp)] at hR
      have hM := meets_any' p f t
      have hO := or_range p f t
      have hsz : B + 1 < wr.heap.size := by
        by_cases h : B + 1 < wr.heap.size
        · exact h
        · have := K1.out; rw [Array.getElem?_eq_none (by omega)] at this; cases this
      by_cases hm : (List.range 1024).any (fun n => p n && (decide (f ≤ n) && decide (n ≤ t))) = true
      · rw [if_pos hm] at hR
        rw [hm] at hM
        have hMt : Hid (∀ w, Calls Tryd.prog 28 #[.agg (cellsOf p), .agg (cellsOf (rangeP f t))] w fun e w' => e = .returned (.bool true) ∧ Below w.heap.size w w') := fun w => by
          have := meets_any p (rangeP f t) w; rw [hM] at this; exact this
        have HR2 := Lib.hid hR; clear hR hM hO hm hle2
        go_wp2_with fail
        refine (HI.out _).mono ?_
        rintro e' w' ⟨rfl, rfl⟩
        go_wp2_with fail
        refine (range_any f t _).mono ?_
        rintro e' w2 ⟨rfl, h2⟩
        have hlt2 : B + 1 < w2.heap.size := Nat.lt_of_lt_of_le hsz h2.size
        obtain ⟨s0, s1, s2, s3, s4⟩ := parse_step w2 B _ p (rangeP f t) ((h2.block _ (by omega)).trans K0.out) ((h2.block _ hsz).trans K1.out) hlt2
        have S0 := Lib.hid s0; have S1 := Lib.hid s1; have S2 := Lib.hid s2; have S3 := Lib.hid s3; have S4 := Lib.hid s4; clear s0 s1 s2 s3 s4
        go_wp2_with (first | (refine st_set rfl _ _ rfl _ _ rfl rfl _ (heap_alloc_new _ _) (cellsOf_size _) ?_) | (refine ld_set rfl _ rfl _ rfl _ S1.out ?_) | (refine ld_set rfl _ rfl _ rfl _ S2.out ?_) | (go_at_call 28; refine (hMt.out _).mono ?_; rintro e' w3 ⟨rfl, h3⟩) | (refine st_set rfl _ _ rfl _ _ rfl rfl _ ((h3.block _ (by have := S4.out; omega)).trans S0.out) (cellsOf_size _) ?_))
        refine res_set3 rfl _ _ rfl (setRow_heap _ _ _ _ _ _ ((h3.block _ (by have := S4.out; omega)).trans S0.out)) rfl ⟨by rw [← HR2.out] <;> rfl, ?_⟩
        exact below_setRow ((hb.trans (h2.mono (by omega))).trans ((S3.out.mono (by omega)).trans (h3.mono (by have := S4.out; omega)))) (Nat.le_refl _) _
      · have hm' : (List.range 1024).any (fun n => p n && (decide (f ≤ n) && decide (n ≤ t))) = false := by simpa using hm
        rw [if_neg hm] at hR
        rw [hm'] at hM
        have hMf : Hid (∀ w, Calls Tryd.prog 28 #[.agg (cellsOf p), .agg (cellsOf (rangeP f t))] w fun e w' => e = .returned (.bool false) ∧ Below w.heap.size w w') := fun w => by
          have := meets_any p (rangeP f t) w; rw [hM] at this; exact this
        have hOr : Hid (∀ w, Calls Tryd.prog 25 #[.agg (cellsOf p), .agg (cellsOf (rangeP f t))] w fun e w' => e = .returned (.agg (cellsOf (fun n => p n || (decide (f ≤ n) && decide (n ≤ t))))) ∧ Below w.heap.size w w') := fun w => by
          have := or_any p (rangeP f t) w; rw [hO] at this; exact this
        clear hM hO hm hm' hle2
        go_wp2_with fail
        refine (HI.out _).mono ?_
        rintro e' w' ⟨rfl, rfl⟩
        go_wp2_with fail
        refine (range_any f t _).mono ?_
        rintro e' w2 ⟨rfl, h2⟩
        have hlt2 : B + 1 < w2.heap.size := Nat.lt_of_lt_of_le hsz h2.size
        obtain ⟨s0, s1, s2, s3, s4⟩ := parse_step w2 B _ p (rangeP f t) ((h2.block _ (by omega)).trans K0.out) ((h2.block _ hsz).trans K1.out) hlt2
        have S0 := Lib.hid s0; have S1 := Lib.hid s1; have S2 := Lib.hid s2; have S3 := Lib.hid s3; have S4 := Lib.hid s4; clear s0 s1 s2 s3 s4
        by_cases hend : e = s.size
        · have hte : ((e : Int) == (s.size : Int)) = true := beqT hend
          rw [if_pos hend] at hR
          have HR2 := Lib.hid hR; clear hR hend
          go_wp2_with (first | (refine st_set rfl _ _ rfl _ _ rfl rfl _ (heap_alloc_new _ _) (cellsOf_size _) ?_) | (refine ld_set rfl _ rfl _ rfl _ S1.out ?_) | (refine ld_set rfl _ rfl _ rfl _ S2.out ?_) | (go_at_call 28; refine (hMf.out _).mono ?_; rintro e' w3 ⟨rfl, h3⟩) | (refine ld_set rfl _ rfl _ rfl _ ((h3.block (B + 1) (by have := S4.out; omega)).trans S1.out) ?_) | (refine ld_set rfl _ rfl _ rfl _ ((h3.block w2.heap.size (by have := S4.out; omega)).trans S2.out) ?_) | (go_at_call 25; refine (hOr.out _).mono ?_; rintro e' w4 ⟨rfl, h4⟩) | (refine st_set rfl _ _ rfl (B + 1) _ rfl rfl _ ((h4.block _ (by have := h3.size; have := S4.out; omega)).trans ((h3.block _ (by have := S4.out; omega)).trans S1.out)) (cellsOf_size _) ?_) | (refine ld_set rfl _ rfl (B + 1) rfl _ (setRow_heap _ _ _ _ _ _ ((h4.block _ (by have := h3.size; have := S4.out; omega)).trans ((h3.block _ (by have := S4.out; omega)).trans S1.out))) ?_) | (refine st_set rfl _ _ rfl B _ rfl rfl _ ((setRow_other _ _ _ _ (by omega)).trans ((h4.block _ (by have := h3.size; have := S4.out; omega)).trans ((h3.block _ (by have := S4.out; omega)).trans S0.out))) (cellsOf_size _) ?_))
          refine res_set3 rfl _ _ rfl (setRow_heap _ _ _ _ _ _ ((setRow_other _ _ _ _ (by omega)).trans ((h4.block _ (by have := h3.size; have := S4.out; omega)).trans ((h3.block _ (by have := S4.out; omega)).trans S0.out)))) rfl ⟨by rw [← HR2.out] <;> rfl, ?_⟩
          exact below_setRow (below_setRow ((hb.trans (h2.mono (by omega))).trans ((S3.out.mono (by omega)).trans ((h3.mono (by have := S4.out; omega)).trans (h4.mono (by have := h3.size; have := S4.out; omega))))) (by omega) _) (Nat.le_refl _) _
        · have hte : ((e : Int) == (s.size : Int)) = false := beqF hend
          rw [if_neg hend] at hR
          have HR2 := Lib.hid hR; clear hR
          go_wp2_with (first | (refine st_set rfl _ _ rfl _ _ rfl rfl _ (heap_alloc_new _ _) (cellsOf_size _) ?_) | (refine ld_set rfl _ rfl _ rfl _ S1.out ?_) | (refine ld_set rfl _ rfl _ rfl _ S2.out ?_) | (go_at_call 28; refine (hMf.out _).mono ?_; rintro e' w3 ⟨rfl, h3⟩) | (refine ld_set rfl _ rfl _ rfl _ ((h3.block (B + 1) (by have := S4.out; omega)).trans S1.out) ?_) | (refine ld_set rfl _ rfl _ rfl _ ((h3.block w2.heap.size (by have := S4.out; omega)).trans S2.out) ?_) | (go_at_call 25; refine (hOr.out _).mono ?_; rintro e' w4 ⟨rfl, h4⟩) | (refine st_set rfl _ _ rfl (B + 1) _ rfl rfl _ ((h4.block _ (by have := h3.size; have := S4.out; omega)).trans ((h3.block _ (by have := S4.out; omega)).trans S1.out)) (cellsOf_size _) ?_))
          go_roundw
          case rel =>
            refine ⟨e + 1, fu, _, by omega, by omega, by go_num, HR2.out, below_setRow ((hb.trans (h2.mono (by omega))).trans ((S3.out.mono (by omega)).trans ((h3.mono (by have := S4.out; omega)).trans (h4.mono (by have := h3.size; have := S4.out; omega))))) (by omega) _, ?_, setRow_heap _ _ _ _ _ _ ((h4.block _ (by have := h3.size; have := S4.out; omega)).trans ((h3.block _ (by have := S4.out; omega)).trans S1.out))⟩
            exact (setRow_other _ _ _ _ (by omega)).trans ((h4.block _ (by have := h3.size; have := S4.out; omega)).trans ((h3.block _ (by have := S4.out; omega)).trans S0.out))
          case measure => simp [intOf]; omega
    · rw [if_pos her] at hR
      have hne := bneT her
      have HR2 := Lib.hid hR; clear hR hle2 her
      go_wp2_with fail
      refine (HI.out _).mono ?_
      rintro e w' ⟨rfl, rfl⟩
      go_wp2_with (first | (refine st_set rfl _ _ rfl _ _ rfl rfl _ K0.out (cellsOf_size _) ?_))
      refine res_set3 rfl _ _ rfl (setRow_heap _ _ _ _ _ _ K0.out) rfl ⟨by rw [← HR2.out] <;> rfl, ?_⟩
      exact below_setRow hb (Nat.le_refl _) _
/-- cpuset.Parse, of every text of at most 100000 bytes. -/
theorem parse_any (s : ByteArray) (w : World) (hs : s.size ≤ 100000) :
    Calls Tryd.prog 29 #[.string s] w fun e w' => e = .returned (parseV (parseAll (byteAt s) s.size)) ∧ Below w.heap.size w w' := by
  unfold parseAll
  by_cases h : s.size = 0
  · rw [if_pos h]; exact parse_empty s w h
  · rw [if_neg h]; exact parse_some s w hs (by omega)
end Go.Proofs.YtpdghnlnbhenhaaDoor
