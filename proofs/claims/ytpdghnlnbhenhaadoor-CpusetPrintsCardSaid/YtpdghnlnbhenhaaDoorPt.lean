/- The contract of cpuset.Print. -/
import Derived.Test.YtpdghnlnbhenhaaDoorFi
import Derived.Test.YtpdghnlnbhenhaaDoorShelf
import Derived.Lib.BufferRead
import Derived.Laws.IdiomStrings
import Derived.Lib.ItoaLen
namespace Go.Proofs.YtpdghnlnbhenhaaDoor
open Go.RowKit

/-- Where the row of neighbours that i begins ends. -/
def endO (p : Nat → Bool) : Nat → Nat → Nat
  | 0, i => i
  | f + 1, i => if i + 1 < 1024 ∧ p (i + 1) = true then endO p f (i + 1) else i
def endOf (p : Nat → Bool) (i : Nat) : Nat := endO p 1024 i
theorem endO_spec (p : Nat → Bool) (f i : Nat) (hi : i < 1024) (hp : p i = true) (hf : 1024 ≤ f + i) : RowEnd p i (endO p f i) := by
  induction f generalizing i with
  | zero => omega
  | succ f ih =>
    rw [endO]
    by_cases h : i + 1 < 1024 ∧ p (i + 1) = true
    · rw [if_pos h]
      obtain ⟨a, b, c, d⟩ := ih (i + 1) h.1 h.2 (by omega)
      refine ⟨by omega, b, fun j h1 h2 => ?_, d⟩
      by_cases e : j = i
      · subst e; exact hp
      · exact c j (by omega) h2
    · rw [if_neg h]
      refine ⟨by omega, hi, fun j h1 h2 => by rw [show j = i by omega]; exact hp, ?_⟩
      by_cases h1 : i + 1 < 1024
      · have := hasP_yes p (i + 1) h1
        rw [show ((i + 1 : Nat) : Int) = (i : Int) + 1 by omega] at this
        rw [this]; simpa using fun e => h ⟨h1, e⟩
      · exact hasP_no p _ (by omega)
theorem endOf_spec (p : Nat → Bool) (i : Nat) (hi : i < 1024) (hp : p i = true) : RowEnd p i (endOf p i) := endO_spec p 1024 i hi hp (by omega)

/-- One row's text behind those that are there. -/
def rowT (acc : List UInt8) (i e : Nat) : List UInt8 :=
  let a := (if acc.length = 0 then acc else acc ++ [44]) ++ Lib.itoa i
  if i < e then (a ++ [45]) ++ Lib.itoa e else a
/-- The text of the rows of neighbours from o on, behind what is there. -/
def printFrom (p : Nat → Bool) : Nat → Option Nat → List UInt8 → List UInt8
  | 0, _, acc => acc
  | _ + 1, none, acc => acc
  | f + 1, some i, acc => printFrom p f (firstO (fromP p ((endOf p i : Int) + 1))) (rowT acc i (endOf p i))
def printAll (p : Nat → Bool) : List UInt8 := printFrom p 1025 (firstO p) []

theorem own_on {w w' : World} {B e k n : Nat} {v : Value} {xs : List Value} (h : w.ownsRow B e k v n xs) (hb : Below w.heap.size w w') : w'.ownsRow B e k v n xs :=
  h.kept (row := none) ⟨hb.os, hb.tape, hb.output, hb.size, fun j hj _ => hb.block j hj⟩ (by cases v.ownBlock <;> simp)
theorem infoByte : (Tryd.prog.info? 5).map (fun i => (i.zero, i.size, i.bytes)) = some (some (.int .u8 0), 1, 1) := by kernel_rfl
theorem conv_own {w : World} {B : Nat} {v : Value} {l : List UInt8} (h : w.ownsRow B 5 1 v l.length (Lib.byteCells l)) : (convert 56 9 v).run Tryd.prog w = .ok (.string ⟨l.toArray⟩) w := by
  rcases h.2 with ⟨rfl, hn⟩ | ⟨g, cap, cur, rfl, hg, hh, hc⟩
  · have : l = [] := List.eq_nil_of_length_eq_zero hn
    subst this
    exact Lib.run_convert_nil_bytes w _ _ _ 0 Tryd.underlying56 Tryd.underlying5 Tryd.underlying9
  · refine run_convert_bytes_back w _ _ _ ⟨g, 0, none⟩ cap l Tryd.underlying56 Tryd.underlying5 Tryd.underlying9 fun j hj => ?_
    have := h.cells (g := g) rfl j (.int .u8 (l[j].toNat : Int)) (by simp [Lib.byteCells, hj])
    exact this
theorem Tabs.pow {w : World} (h : Tabs w) (B : Nat) (hB : 3 ≤ B) : Lib.TabBelow Tryd.prog B w "internal/strconv.uint64pow10" .u64 Lib.pow10Tab := fun _ hb => var?_below hb gPow (by omega) h.2.1

/-- How far the loop still goes. -/
def printM (f ok : Value) : Nat := match ok with | .bool true => 1025 - (intOf f).toNat | _ => 0

/-- What holds at the loop's head. -/
structure PrInv (p : Nat → Bool) (B : Nat) (w : World) (T : List UInt8) (o : Option Nat) (fu : Nat) (acc : List UInt8) (v : Value) (wr : World) : Prop where
  txt : printFrom p fu o acc = T
  bel : Below B w wr
  blk : wr.heap[B]? = some (.cells (cellsOf p) 25 (0, 0))
  lt : B < wr.heap.size
  own : wr.ownsRow (B + 1) 5 1 v acc.length (Lib.byteCells acc)
  ok : ∀ i, o = some i → i < 1024 ∧ p i = true ∧ 1025 ≤ fu + i
  len : acc.length + 60 * fu ≤ 70000
theorem own_form {w : World} {B n : Nat} {v : Value} {xs : List Value} (h : w.ownsRow B 5 1 v n xs) : ∃ a cap, v = .slice a n cap := by
  rcases h.2 with ⟨rfl, rfl⟩ | ⟨g, cap, cur, rfl, _⟩
  · exact ⟨none, 0, rfl⟩
  · exact ⟨_, cap, rfl⟩
theorem cells_app (a b : List UInt8) : Lib.byteCells a ++ Lib.byteCells b = Lib.byteCells (a ++ b) := by simp [Lib.byteCells]
theorem own_app {w : World} {B : Nat} {v : Value} {a b : List UInt8} (h : w.ownsRow B 5 1 v (a.length + b.length) (Lib.byteCells a ++ Lib.byteCells b)) : w.ownsRow B 5 1 v (a ++ b).length (Lib.byteCells (a ++ b)) := by
  rw [cells_app] at h; rwa [List.length_append]
theorem fromP_next (p : Nat → Bool) (e i : Nat) (h : firstO (fromP p ((e : Int) + 1)) = some i) : i < 1024 ∧ p i = true ∧ e < i := by
  obtain ⟨a, b, _⟩ := firstO_spec h
  unfold fromP at b
  simp only [Bool.and_eq_true, decide_eq_true_eq] at b
  exact ⟨a, b.1, by omega⟩
theorem printM_lt (i : Nat) (o : Option Nat) (hi : i < 1024) (ho : ∀ j, o = some j → i < j) : printM (.int .i64 (o.getD 0 : Nat)) (.bool o.isSome) < printM (.int .i64 i) (.bool true) := by
  cases o with
  | none => simp [printM, intOf]; omega
  | some j => have := ho j rfl; simp [printM, intOf]; omega
set_option maxRecDepth 100000 in
set_option maxHeartbeats 4000000 in
theorem print_any (p : Nat → Bool) (w : World) (hT : Tabs w) :
    Calls Tryd.prog 31 #[.agg (cellsOf p)] w fun e w' => e = .returned (.string ⟨(printAll p).toArray⟩) ∧ Below w.heap.size w w' := by
  obtain ⟨TT, hTT⟩ : ∃ TT, printFrom p 1025 (firstO p) [] = TT := ⟨_, rfl⟩
  have HT := Lib.hid hTT
  rw [show printAll p = TT from hTT]; clear hTT
  have hg : (w.alloc (.cells (cellsOf p) 25)).heap[w.heap.size]? = some (.cells (cellsOf p) 25 (0, 0)) := heap_alloc_new _ _
  have HG := Lib.hid hg; clear hg
  have HB := Lib.hid ((Below.refl w.heap.size w).alloc (Nat.le_refl _) (.cells (cellsOf p) 25))
  have hT3 := hT.2.2
  have T1 := Lib.hid (hT.below HB.out hT3)
  have hTh := Lib.hid hT; clear hT
  generalize hB : w.heap.size = B at HG HB hT3 ⊢
  have HBB := Lib.hid hB; clear hB
  go_enter Tryd.func31, Tryd.ntmps31
  go_wp2_with (first | (rw [HBB.out]; refine ld_set rfl _ rfl B rfl _ HG.out ?_) | (go_at_call 22; refine (first_any p _ T1.out).mono ?_; unfold optV; rintro e w2 ⟨rfl, h2⟩))
  have P0 : PrInv p B w TT (firstO p) 1025 [] (.slice none 0 0) w2 := {
    txt := HT.out
    bel := HB.out.trans (h2.mono (by simp [HBB.out]))
    blk := (h2.block _ (by simp [HBB.out])).trans HG.out
    lt := Nat.lt_of_lt_of_le (by simp [HBB.out]) h2.size
    own := World.ownsRow_nil _ _ _ _
    ok := fun i hi => by obtain ⟨a, b, _⟩ := firstO_spec hi; exact ⟨a, b, by omega⟩
    len := by simp }
  go_loopw [3, 4, 5] (fun v f ok wr => ∃ (o : Option Nat) (fu : Nat) (acc : List UInt8), f = .int .i64 (o.getD 0 : Nat) ∧ ok = .bool o.isSome ∧ PrInv p B w TT o fu acc v wr) (fun _ f ok _ => printM f ok)
  case atStart => exact ⟨firstO p, 1025, [], rfl, rfl, P0⟩
  case round =>
    obtain ⟨o, fu, acc, hf, hok, hI⟩ := hrel
    clear P0
    rcases o with _ | i
    · obtain rfl : u4 = .int .i64 0 := hf
      obtain rfl : u5 = .bool false := hok
      have hcv := conv_own hI.own
      have htx : acc = TT := by
        have := hI.txt
        cases fu <;> exact this
      have HTX := Lib.hid htx; clear htx
      go_wp2
      go_ret
      exact ⟨by rw [HTX.out] <;> rfl, hI.bel⟩
    · obtain rfl : u4 = .int .i64 i := hf
      obtain rfl : u5 = .bool true := hok
      obtain ⟨hi1, hi2, hi3⟩ := hI.ok i rfl
      obtain ⟨fu, rfl⟩ : ∃ n, fu = n + 1 := ⟨fu - 1, by omega⟩
      have HE := Lib.hid (endOf_spec p i hi1 hi2)
      have htx := hI.txt
      rw [printFrom] at htx
      obtain ⟨e, he⟩ : ∃ e, endOf p i = e := ⟨_, rfl⟩
      rw [he] at htx HE
      have HTX := Lib.hid htx; clear htx he hi2
      have hlen := hI.len
      have hTr := hTh.out.below hI.bel hT3
      have HTR := Lib.hid hTr; clear hTr
      have hll := Lib.itoa_length_le (i : Int) (by omega) (by omega)
      have hle := Lib.itoa_length_le (e : Int) (by omega) (by have := HE.out.2.1; omega)
      have hi4 : i ≤ e := HE.out.1
      have he4 : e < 1024 := HE.out.2.1
      obtain ⟨ad, cap, hv⟩ := own_form hI.own
      obtain ⟨i0, hi0, hz0, hz1, hz2⟩ := info_parts infoByte
      have hit0 : (0 : Int) ≤ (i : Int) := by omega
      have hown0 := hI.own
      rw [hv] at hown0
      have OW := Lib.hid hown0; clear hown0
      subst hv
      have hrow := rowEnd_any p i e
      have HRW : Hid (∀ w, Calls Tryd.prog 38 #[.agg (cellsOf p), .int .i64 i] w fun x w' => x = .returned (.int .i64 e) ∧ Below w.heap.size w w') := fun w => hrow w HE.out
      clear hrow
      by_cases hac : acc.length = 0
      · have hl0 : decide (0 < acc.length) = false := decide_eq_false (by omega)
        have HAC : Hid ((if acc.length = 0 then acc else acc ++ [44]) = acc) := if_pos hac
        clear hac
        go_wp2_with (first | (refine ld_set rfl _ rfl _ rfl _ hI.blk ?_) | (go_at_call 38; refine (HRW.out _).mono ?_; rintro x w2 ⟨rfl, h2⟩))
        have O2 := Lib.hid (own_on OW.out h2)
        have bel2 := Below.trans hI.bel (h2.mono (by have := hI.lt; omega))
        have K2 := (h2.block B hI.lt).trans hI.blk
        have lt2 : B < w2.heap.size := Nat.lt_of_lt_of_le hI.lt h2.size
        refine (Tryd.strconv_AppendInt_10 (B + 1) (acc).length (i : Int) (by omega) (by omega) _ (Lib.byteCells (acc)) _ O2.out (by have := lt2; omega) (by skip; omega) ((hTh.out.below bel2 hT3).pow (B + 1) (by omega))).mono ?_
        rintro x w4 ⟨v4, rfl, own4, b4, -⟩
        have O4 := Lib.hid (own_app own4); clear own4
        have bel4 := Below.trans bel2 (b4.mono (by omega))
        have K4 := Lib.hid ((b4.block B (by omega)).trans K2)
        have lt4 : B < w4.heap.size := Nat.lt_of_lt_of_le (lt2) b4.size
        have hlen4 : ((acc) ++ Lib.itoa i).length ≤ acc.length + 22 := by skip; simp only [List.length_append] at *; omega
        have BEL4 := Lib.hid bel4; clear bel4 b4
        by_cases hie : i < e
        · have hte : decide (i < e) = true := by simp; omega
          have htt : rowT acc i e = ((acc ++ Lib.itoa i) ++ [45]) ++ Lib.itoa e := by simp only [rowT, if_pos hie]; rw [HAC.out]
          have HTT := Lib.hid htt; clear htt
          go_wp2_with (at_builtin; refine wpList_append_own _ rfl (.tmp 28) (.tmp 29) 56 rfl (B + 1) 5 i0 (.int .u8 0) 1 1 Tryd.underlying56 hi0 hz0 hz1 hz2 rfl (by decide) _ _ _ rfl (O4.out.alloc _) ⟨w4.heap.size, 0, none⟩ 1 1 [.int .u8 45] rfl rfl ?_ ?_ ?_ ?_ ?_ ?_)
          · exact cell_one_new _ _ _
          · intro u hu; simp at hu; subst hu; rfl
          · unfold maxLen; omega
          · omega
          · simp; omega
          intro v5 w5 own5 g5 _
          have own5' : w5.ownsRow (B + 1) 5 1 v5 (((acc) ++ Lib.itoa i) ++ [45]).length (Lib.byteCells (((acc) ++ Lib.itoa i) ++ [45])) := by simpa [Lib.byteCells, Nat.add_assoc] using own5
          have O5 := Lib.hid own5'
          have b5 : Below (B + 1) w4 w5 := Below.grown ((Below.refl _ _).alloc (by omega) _) g5 (by simp; omega) (fun k hk => (O4.out.lt k hk).1)
          have BEL5 := Lib.hid (Below.trans BEL4.out (b5.mono (by omega)))
          have K5 := Lib.hid ((b5.block B (by omega)).trans K4.out)
          have lt5 : B < w5.heap.size := Nat.lt_of_lt_of_le lt4 b5.size
          have hlen5 : ((((acc) ++ Lib.itoa i) ++ [45]).length) ≤ acc.length + 23 := by simp only [List.length_append, List.length_cons, List.length_nil] at *; omega
          clear own5 g5 own5' b5
          go_wp2_with fail
          refine (Tryd.strconv_AppendInt_10 (B + 1) _ (e : Int) (by omega) (by omega) _ _ _ O5.out (by omega) (by omega) ((hTh.out.below BEL5.out hT3).pow (B + 1) (by omega))).mono ?_
          rintro x w6 ⟨v6, rfl, own6, b6, -⟩
          have O6 := Lib.hid (own_app own6); clear own6
          have BEL6 := Lib.hid (Below.trans BEL5.out (b6.mono (by omega)))
          have K6 := Lib.hid ((b6.block B (by omega)).trans K5.out)
          have lt6 : B < w6.heap.size := Nat.lt_of_lt_of_le lt5 b6.size
          have hlen6 : (((((acc) ++ Lib.itoa i) ++ [45]) ++ Lib.itoa e).length) ≤ acc.length + 46 := by simp only [List.length_append, List.length_cons, List.length_nil] at *; omega
          clear b6
          go_wp2_with (first | (refine ld_set rfl _ rfl _ rfl _ K6.out ?_) | (go_at_call 20; refine (next_any p _ _ (hTh.out.below BEL6.out hT3)).mono ?_; unfold optV; rintro x w7 ⟨rfl, h7⟩))
          have P7 : PrInv p B w TT (firstO (fromP p ((e : Int) + 1))) fu (rowT acc i e) v6 w7 := {
            txt := HTX.out
            bel := Below.trans BEL6.out (h7.mono (by omega))
            blk := (h7.block _ lt6).trans K6.out
            lt := Nat.lt_of_lt_of_le lt6 h7.size
            own := by rw [HTT.out]; exact own_on O6.out h7
            ok := fun j hj => by obtain ⟨c1, c2, c3⟩ := fromP_next p e j hj; exact ⟨c1, c2, by omega⟩
            len := by rw [HTT.out]; omega }
          go_roundw
          case rel => exact ⟨_, fu, _, rfl, rfl, P7⟩
          case measure => exact printM_lt i _ hi1 (fun j hj => by have := fromP_next p e j hj; omega)
        · have hte : decide (i < e) = false := by simp; omega
          have htt : rowT acc i e = (acc ++ Lib.itoa i) := by simp only [rowT, if_neg hie]; rw [HAC.out]
          have HTT := Lib.hid htt; clear htt
          go_wp2_with (first | (refine ld_set rfl _ rfl _ rfl _ K4.out ?_) | (go_at_call 20; refine (next_any p _ _ (hTh.out.below BEL4.out hT3)).mono ?_; unfold optV; rintro x w7 ⟨rfl, h7⟩))
          have P7 : PrInv p B w TT (firstO (fromP p ((e : Int) + 1))) fu (rowT acc i e) v4 w7 := {
            txt := HTX.out
            bel := Below.trans BEL4.out (h7.mono (by omega))
            blk := (h7.block _ lt4).trans K4.out
            lt := Nat.lt_of_lt_of_le lt4 h7.size
            own := by rw [HTT.out]; exact own_on O4.out h7
            ok := fun j hj => by obtain ⟨c1, c2, c3⟩ := fromP_next p e j hj; exact ⟨c1, c2, by omega⟩
            len := by rw [HTT.out]; omega }
          go_roundw
          case rel => exact ⟨_, fu, _, rfl, rfl, P7⟩
          case measure => exact printM_lt i _ hi1 (fun j hj => by have := fromP_next p e j hj; omega)
      · have hl0 : decide (0 < acc.length) = true := decide_eq_true (by omega)
        have HAC : Hid ((if acc.length = 0 then acc else acc ++ [44]) = (acc ++ [44])) := if_neg hac
        clear hac
        go_wp2_with (first | (refine ld_set rfl _ rfl _ rfl _ hI.blk ?_) | (go_at_call 38; refine (HRW.out _).mono ?_; rintro x w1 ⟨rfl, h1⟩) | (at_builtin; refine wpList_append_own _ rfl (.tmp 19) (.tmp 20) 56 rfl (B + 1) 5 i0 (.int .u8 0) 1 1 Tryd.underlying56 hi0 hz0 hz1 hz2 rfl (by decide) _ _ _ rfl ((own_on OW.out h1).alloc _) ⟨w1.heap.size, 0, none⟩ 1 1 [.int .u8 44] rfl rfl ?_ ?_ ?_ ?_ ?_ ?_))
        · exact cell_one_new _ _ _
        · intro u hu; simp at hu; subst hu; rfl
        · unfold maxLen; omega
        · omega
        · have := hI.lt; have := h1.size; simp; omega
        intro v2 w2 own2 g2 _
        have lt1 : B < w1.heap.size := Nat.lt_of_lt_of_le hI.lt h1.size
        have b2 : Below (B + 1) w1 w2 := Below.grown ((Below.refl _ _).alloc (by omega) _) g2 (by simp; omega) (fun k hk => (OW.out.lt k hk).1)
        have own2' : w2.ownsRow (B + 1) 5 1 v2 (acc ++ [44]).length (Lib.byteCells (acc ++ [44])) := own_app (b := [44]) own2
        have O2 := Lib.hid own2'
        have bel2 := Below.trans (Below.trans hI.bel (h1.mono (by have := hI.lt; omega))) (b2.mono (by omega))
        have K2 := (b2.block B (by omega)).trans ((h1.block B hI.lt).trans hI.blk)
        have lt2 : B < w2.heap.size := Nat.lt_of_lt_of_le lt1 b2.size
        have hlen2 : (acc ++ [44]).length = acc.length + 1 := by simp
        have HL2 := Lib.hid hlen2
        clear own2 g2 own2' hlen2
        have BEL2 := Lib.hid bel2; have KK2 := Lib.hid K2; clear bel2 K2 b2
        go_wp2_with fail
        refine (Tryd.strconv_AppendInt_10 (B + 1) (acc ++ [44]).length (i : Int) (by omega) (by omega) _ (Lib.byteCells (acc ++ [44])) _ O2.out (by have := lt2; omega) (by have := HL2.out; omega) ((hTh.out.below BEL2.out hT3).pow (B + 1) (by omega))).mono ?_
        rintro x w4 ⟨v4, rfl, own4, b4, -⟩
        have O4 := Lib.hid (own_app own4); clear own4
        have bel4 := Below.trans BEL2.out (b4.mono (by omega))
        have K4 := Lib.hid ((b4.block B (by omega)).trans KK2.out)
        have lt4 : B < w4.heap.size := Nat.lt_of_lt_of_le (lt2) b4.size
        have hlen4 : ((acc ++ [44]) ++ Lib.itoa i).length ≤ acc.length + 22 := by have := HL2.out; simp only [List.length_append] at *; omega
        have BEL4 := Lib.hid bel4; clear bel4 b4
        by_cases hie : i < e
        · have hte : decide (i < e) = true := by simp; omega
          have htt : rowT acc i e = ((acc ++ [44] ++ Lib.itoa i) ++ [45]) ++ Lib.itoa e := by simp only [rowT, if_pos hie]; rw [HAC.out]
          have HTT := Lib.hid htt; clear htt
          go_wp2_with (at_builtin; refine wpList_append_own _ rfl (.tmp 28) (.tmp 29) 56 rfl (B + 1) 5 i0 (.int .u8 0) 1 1 Tryd.underlying56 hi0 hz0 hz1 hz2 rfl (by decide) _ _ _ rfl (O4.out.alloc _) ⟨w4.heap.size, 0, none⟩ 1 1 [.int .u8 45] rfl rfl ?_ ?_ ?_ ?_ ?_ ?_)
          · exact cell_one_new _ _ _
          · intro u hu; simp at hu; subst hu; rfl
          · unfold maxLen; omega
          · omega
          · simp; omega
          intro v5 w5 own5 g5 _
          have own5' : w5.ownsRow (B + 1) 5 1 v5 (((acc ++ [44]) ++ Lib.itoa i) ++ [45]).length (Lib.byteCells (((acc ++ [44]) ++ Lib.itoa i) ++ [45])) := by simpa [Lib.byteCells, Nat.add_assoc] using own5
          have O5 := Lib.hid own5'
          have b5 : Below (B + 1) w4 w5 := Below.grown ((Below.refl _ _).alloc (by omega) _) g5 (by simp; omega) (fun k hk => (O4.out.lt k hk).1)
          have BEL5 := Lib.hid (Below.trans BEL4.out (b5.mono (by omega)))
          have K5 := Lib.hid ((b5.block B (by omega)).trans K4.out)
          have lt5 : B < w5.heap.size := Nat.lt_of_lt_of_le lt4 b5.size
          have hlen5 : ((((acc ++ [44]) ++ Lib.itoa i) ++ [45]).length) ≤ acc.length + 23 := by simp only [List.length_append, List.length_cons, List.length_nil] at *; omega
          clear own5 g5 own5' b5
          go_wp2_with fail
          refine (Tryd.strconv_AppendInt_10 (B + 1) _ (e : Int) (by omega) (by omega) _ _ _ O5.out (by omega) (by omega) ((hTh.out.below BEL5.out hT3).pow (B + 1) (by omega))).mono ?_
          rintro x w6 ⟨v6, rfl, own6, b6, -⟩
          have O6 := Lib.hid (own_app own6); clear own6
          have BEL6 := Lib.hid (Below.trans BEL5.out (b6.mono (by omega)))
          have K6 := Lib.hid ((b6.block B (by omega)).trans K5.out)
          have lt6 : B < w6.heap.size := Nat.lt_of_lt_of_le lt5 b6.size
          have hlen6 : (((((acc ++ [44]) ++ Lib.itoa i) ++ [45]) ++ Lib.itoa e).length) ≤ acc.length + 46 := by simp only [List.length_append, List.length_cons, List.length_nil] at *; omega
          clear b6
          go_wp2_with (first | (refine ld_set rfl _ rfl _ rfl _ K6.out ?_) | (go_at_call 20; refine (next_any p _ _ (hTh.out.below BEL6.out hT3)).mono ?_; unfold optV; rintro x w7 ⟨rfl, h7⟩))
          have P7 : PrInv p B w TT (firstO (fromP p ((e : Int) + 1))) fu (rowT acc i e) v6 w7 := {
            txt := HTX.out
            bel := Below.trans BEL6.out (h7.mono (by omega))
            blk := (h7.block _ lt6).trans K6.out
            lt := Nat.lt_of_lt_of_le lt6 h7.size
            own := by rw [HTT.out]; exact own_on O6.out h7
            ok := fun j hj => by obtain ⟨c1, c2, c3⟩ := fromP_next p e j hj; exact ⟨c1, c2, by omega⟩
            len := by rw [HTT.out]; omega }
          go_roundw
          case rel => exact ⟨_, fu, _, rfl, rfl, P7⟩
          case measure => exact printM_lt i _ hi1 (fun j hj => by have := fromP_next p e j hj; omega)
        · have hte : decide (i < e) = false := by simp; omega
          have htt : rowT acc i e = (acc ++ [44] ++ Lib.itoa i) := by simp only [rowT, if_neg hie]; rw [HAC.out]
          have HTT := Lib.hid htt; clear htt
          go_wp2_with (first | (refine ld_set rfl _ rfl _ rfl _ K4.out ?_) | (go_at_call 20; refine (next_any p _ _ (hTh.out.below BEL4.out hT3)).mono ?_; unfold optV; rintro x w7 ⟨rfl, h7⟩))
          have P7 : PrInv p B w TT (firstO (fromP p ((e : Int) + 1))) fu (rowT acc i e) v4 w7 := {
            txt := HTX.out
            bel := Below.trans BEL4.out (h7.mono (by omega))
            blk := (h7.block _ lt4).trans K4.out
            lt := Nat.lt_of_lt_of_le lt4 h7.size
            own := by rw [HTT.out]; exact own_on O4.out h7
            ok := fun j hj => by obtain ⟨c1, c2, c3⟩ := fromP_next p e j hj; exact ⟨c1, c2, by omega⟩
            len := by rw [HTT.out]; omega }
          go_roundw
          case rel => exact ⟨_, fu, _, rfl, rfl, P7⟩
          case measure => exact printM_lt i _ hi1 (fun j hj => by have := fromP_next p e j hj; omega)
end Go.Proofs.YtpdghnlnbhenhaaDoor
