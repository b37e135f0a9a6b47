/- layer 31 (codec): a set's rows of neighbours as numbers. -/
import Derived.Test.YtchhenpijbecaaaDoorCe
import Derived.Deep.AppendLies
import Derived.Lib.BufferRead
import Derived.Laws.IdiomStrings
namespace Go.Proofs.YtchhenpijbecaaaDoor
open Go.RowKit
set_option maxRecDepth 100000

/-- Where the row of neighbours that i begins ends. -/
def endO (p : Nat → Bool) : Nat → Nat → Nat
  | 0, i => i
  | f + 1, i => if i + 1 < 1024 ∧ p (i + 1) = true then endO p f (i + 1) else i
def endOf (p : Nat → Bool) (i : Nat) : Nat := endO p 1024 i
theorem endO_spec (p : Nat → Bool) (f i : Nat) (hi : i < 1024) (hp : p i = true) (hf : 1024 ≤ f + i) : RowEnd p i (endO p f i) := by
  induction f generalizing i with
  | zero => omega
  | succ f ih =>
    rw [endO]
    by_cases h : i + 1 < 1024 ∧ p (i + 1) = true
    · rw [if_pos h]
      obtain ⟨a, b, c, d⟩ := ih (i + 1) h.1 h.2 (by omega)
      refine ⟨by omega, b, fun j h1 h2 => ?_, d⟩
      by_cases e : j = i
      · subst e; exact hp
      · exact c j (by omega) h2
    · rw [if_neg h]
      refine ⟨by omega, hi, fun j h1 h2 => by rw [show j = i by omega]; exact hp, ?_⟩
      by_cases h1 : i + 1 < 1024
      · have := hasP_yes p (i + 1) h1
        rw [show ((i + 1 : Nat) : Int) = (i : Int) + 1 by omega] at this
        rw [this]; simpa using fun e => h ⟨h1, e⟩
      · exact hasP_no p _ (by omega)
theorem endOf_spec (p : Nat → Bool) (i : Nat) (hi : i < 1024) (hp : p i = true) : RowEnd p i (endOf p i) := endO_spec p 1024 i hi hp (by omega)

theorem own_on {w w' : World} {B e k n : Nat} {v : Value} {xs : List Value} (h : w.ownsRow B e k v n xs) (hb : Below w.heap.size w w') : w'.ownsRow B e k v n xs :=
  h.kept (row := none) ⟨hb.os, hb.tape, hb.output, hb.size, fun j hj _ => hb.block j hj⟩ (by cases v.ownBlock <;> simp)
theorem conv_own {w : World} {B : Nat} {v : Value} {l : List UInt8} (h : w.ownsRow B 5 1 v l.length (Lib.byteCells l)) : (convert 22 9 v).run Tryd.prog w = .ok (.string ⟨l.toArray⟩) w := by
  rcases h.2 with ⟨rfl, hn⟩ | ⟨g, cap, cur, rfl, hg, hh, hc⟩
  · have : l = [] := List.eq_nil_of_length_eq_zero hn
    subst this
    exact Lib.run_convert_nil_bytes w _ _ _ 0 Tryd.underlying22 Tryd.underlying5 Tryd.underlying9
  · refine run_convert_bytes_back w _ _ _ ⟨g, 0, none⟩ cap l Tryd.underlying22 Tryd.underlying5 Tryd.underlying9 fun j hj => ?_
    have := h.cells (g := g) rfl j (.int .u8 (l[j].toNat : Int)) (by simp [Lib.byteCells, hj])
    exact this
/-- How far the loop still goes. -/
def printM (f ok : Value) : Nat := match ok with | .bool true => 1025 - (intOf f).toNat | _ => 0

theorem fromP_next (p : Nat → Bool) (e i : Nat) (h : firstO (fromP p ((e : Int) + 1)) = some i) : i < 1024 ∧ p i = true ∧ e < i := by
  obtain ⟨a, b, _⟩ := firstO_spec h
  unfold fromP at b
  simp only [Bool.and_eq_true, decide_eq_true_eq] at b
  exact ⟨a, b.1, by omega⟩
theorem printM_lt (i : Nat) (o : Option Nat) (hi : i < 1024) (ho : ∀ j, o = some j → i < j) : printM (.int .i64 (o.getD 0 : Nat)) (.bool o.isSome) < printM (.int .i64 i) (.bool true) := by
  cases o with
  | none => simp [printM, intOf]; omega
  | some j => have := ho j rfl; simp [printM, intOf]; omega

/-- the numbers of the rows of neighbours from one on, the next number that may begin one being told. -/
def rowsF (p : Nat → Bool) : Nat → Option Nat → Nat → List Int
  | 0, _, _ => []
  | _ + 1, none, _ => []
  | f + 1, some i, m => ((i : Int) - (m : Int)) :: ((endOf p i : Int) - (i : Int)) :: rowsF p f (firstO (fromP p ((endOf p i + 2 : Nat) : Int))) (endOf p i + 2)
def rowsT (p : Nat → Bool) : List Int := rowsF p 1025 (firstO p) 0
def rowsOf (p : Nat → Bool) : List Int := ((rowsT p).length / 2 : Nat) :: rowsT p
theorem infoInt : (Tryd.prog.info? 3).map (fun i => (i.zero, i.size, i.bytes)) = some (some (.int .i64 0), 1, 8) := by kernel_rfl
abbrev OwI (B : Nat) (w : World) (v : Value) (l : List Int) : Prop := w.ownsRow B 3 1 v l.length (l.map (Value.int .i64))
/-- What holds at the loop's head. -/
structure RwInv (p : Nat → Bool) (B : Nat) (w : World) (T : List Int) (o : Option Nat) (m : Nat) (fu : Nat) (c : Nat) (acc : List Int) (v : Value) (wr : World) : Prop where
  txt : acc ++ rowsF p fu o m = T
  cnt : acc.length = 2 * c
  bel : Below B w wr
  blk : wr.heap[B]? = some (.cells (cellsOf p) 33 (0, 0))
  lt : B < wr.heap.size
  own : OwI (B + 1) wr v ((c : Int) :: acc)
  ok : ∀ i, o = some i → i < 1024 ∧ p i = true ∧ 1025 ≤ fu + i ∧ m ≤ i
  mm : 2 * c ≤ m
  mb : m ≤ 1025
set_option maxHeartbeats 8000000 in
theorem rows_any (p : Nat → Bool) (w : World) (hT : Tabs w) :
    Calls Tryd.prog 29 #[.agg (cellsOf p)] w fun e w' => ∃ g cap, e = .returned (.slice (some ⟨g, 0, none⟩) (rowsOf p).length cap) ∧ OwI w.heap.size w' (.slice (some ⟨g, 0, none⟩) (rowsOf p).length cap) (rowsOf p) ∧ Below w.heap.size w w' ∧ (rowsOf p).length ≤ 2000 := by
  obtain ⟨TT, hTT⟩ : ∃ TT, rowsT p = TT := ⟨_, rfl⟩
  have HT := Lib.hid (show rowsF p 1025 (firstO p) 0 = TT from hTT)
  unfold rowsOf
  rw [hTT]; clear hTT
  have hg : (w.alloc (.cells (cellsOf p) 33)).heap[w.heap.size]? = some (.cells (cellsOf p) 33 (0, 0)) := heap_alloc_new _ _
  have HG := Lib.hid hg; clear hg
  have HB := Lib.hid ((Below.refl w.heap.size w).alloc (Nat.le_refl _) (.cells (cellsOf p) 33))
  have hT1 := hT.2
  have hTh := Lib.hid hT; clear hT
  have HS := Lib.hid (show (w.alloc (.cells (cellsOf p) 33)).heap.size = w.heap.size + 1 by simp)
  obtain ⟨i0, hi0, hz0, hz1, hz2⟩ := info_parts infoInt
  go_enter Tryd.func29, Tryd.ntmps29
  go_upto_region 1 with fail
  generalize w.alloc (.cells (cellsOf p) 33) = W at *
  obtain ⟨B, hB⟩ : ∃ B, w.heap.size = B := ⟨_, rfl⟩
  rw [hB] at HG HB HS hT1 ⊢
  have HBB := Lib.hid hB; clear hB
  go_upto_region 3 with fail
  have hO : OwI (B + 1) (W.alloc (.cells #[.int .i64 0] 3)) (.slice (some ⟨W.heap.size, 0, none⟩) 1 1) [0] := W.ownsRow_lit #[.int .i64 0] 1 (by rw [HS.out]; exact Nat.le_refl _) (by decide) rfl
  have hBl : Below B w (W.alloc (.cells #[.int .i64 0] 3)) := HB.out.alloc (by rw [HS.out]; omega) _
  have hSz : B + 1 ≤ (W.alloc (.cells #[.int .i64 0] 3)).heap.size := by have := HS.out; simp; omega
  have hGd : (W.alloc (.cells #[.int .i64 0] 3)).heap[B]? = some (.cells (cellsOf p) 33 (0, 0)) := (Below.heap_alloc W _ B (by rw [HS.out]; omega)).trans HG.out
  generalize W.alloc (.cells #[.int .i64 0] 3) = V at *
  have HTV := Lib.hid (hTh.out.below hBl hT1)
  have HO := Lib.hid hO; have HBL := Lib.hid hBl; have HSZ := Lib.hid hSz; have HGD := Lib.hid hGd
  clear hO hBl hSz hGd
  generalize W.heap.size = q0 at *
  go_wp2_with (first | (refine ld_set rfl _ rfl _ rfl _ HGD.out ?_) | (go_at_call 40; refine (first_any p _ HTV.out).mono ?_; unfold optV; rintro e w2 ⟨rfl, h2⟩; have H2 := Lib.hid h2; clear h2))
  go_loopw [3, 4, 5, 6] (fun v m f ok wr => ∃ (o : Option Nat) (fu c mm : Nat) (acc : List Int) (g cap : Nat), v = .slice (some ⟨g, 0, none⟩) (acc.length + 1) cap ∧ m = .int .i64 mm ∧ f = .int .i64 (o.getD 0 : Nat) ∧ ok = .bool o.isSome ∧ RwInv p B w TT o mm fu c acc v wr) (fun _ _ f ok _ => printM f ok)
  case atStart =>
    refine ⟨firstO p, 1025, 0, 0, [], q0, 1, rfl, rfl, rfl, rfl, ?_⟩
    exact {
      txt := HT.out
      cnt := rfl
      bel := HBL.out.trans (H2.out.mono (by have := HSZ.out; omega))
      blk := (H2.out.block _ (by have := HSZ.out; omega)).trans HGD.out
      lt := Nat.lt_of_lt_of_le (by have := HSZ.out; omega) H2.out.size
      own := own_on HO.out H2.out
      ok := fun i hi => by obtain ⟨a, b, _⟩ := firstO_spec hi; exact ⟨a, b, by omega, by omega⟩
      mm := by omega
      mb := by omega }
  case round =>
    obtain ⟨o, fu, c, mm, acc, g, cap, rfl, rfl, hf, hok, hI⟩ := hrel
    have HI := Lib.hid hI
    clear hI
    rcases o with _ | i
    · obtain rfl : u5 = .int .i64 0 := hf
      obtain rfl : u6 = .bool false := hok
      have htx : acc = TT := by
        have := HI.out.txt
        cases fu <;> simpa [rowsF] using this
      have HTX := Lib.hid htx; clear htx
      have hcl : Hid (acc.length / 2 = c) := by have := HI.out.cnt; show _ = _; omega
      have hmm := HI.out.mm
      subst HTX
      go_wp2
      go_ret
      refine ⟨g, cap, rfl, ?_, ?_, ?_⟩
      · rw [hcl.out]; exact own_mono HI.out.own (by have := HBB.out; omega)
      · rw [HBB.out]; exact HI.out.bel
      · have := HI.out.cnt; have := HI.out.mb; omega
    · obtain rfl : u5 = .int .i64 i := hf
      obtain rfl : u6 = .bool true := hok
      obtain ⟨hi1, hi2, hi3, hi4⟩ := HI.out.ok i rfl
      obtain ⟨fu, rfl⟩ : ∃ n, fu = n + 1 := ⟨fu - 1, by omega⟩
      have HE := Lib.hid (endOf_spec p i hi1 hi2)
      have htx := HI.out.txt
      rw [rowsF] at htx
      obtain ⟨e, he⟩ : ∃ e, endOf p i = e := ⟨_, rfl⟩
      rw [he] at htx HE
      have HTX := Lib.hid htx; clear htx he hi2
      go_upto_region 7 with fail
      go_loopw [7] (fun tv wq => ∃ t : Nat, tv = .int .i64 t ∧ i ≤ t ∧ t ≤ e ∧ Below wr.heap.size wr wq) (fun tv _ => 1025 - (intOf tv).toNat)
      case atStart => exact ⟨i, rfl, Nat.le_refl _, HE.out.1, Below.refl _ _⟩
      case round =>
        obtain ⟨t, rfl, ht1, ht2, hbq⟩ := hrel
        have HBQ := Lib.hid hbq
        have HGQ := Lib.hid ((hbq.block B HI.out.lt).trans HI.out.blk)
        clear hbq
        have het := HE.out.2.1
        have HH : Hid (Calls Tryd.prog 42 #[.agg (cellsOf p), .int .i64 ((t : Int) + 1)] wr fun e w' => e = .returned (.bool (hasP p ((t : Int) + 1))) ∧ Below wr.heap.size wr w') := has_any p _ wr
        by_cases hte : t < e
        · have hv : hasP p ((t : Int) + 1) = true := by
            have := hasP_yes p (t + 1) (by omega)
            rw [show (((t + 1 : Nat)) : Int) = (t : Int) + 1 by omega] at this
            rw [this]; exact HE.out.2.2.1 (t + 1) (by omega) (by omega)
          rw [hv] at HH
          clear hv
          go_wp2_with (first | (refine ld_set rfl _ rfl _ rfl _ HGQ.out ?_) | (go_at_call 42; (with_reducible refine HH.out.mono ?_); rintro e w2 ⟨rfl, h2⟩; have H2 := Lib.hid h2; clear h2))
          go_roundw
          case rel => exact ⟨t + 1, by go_num, by omega, by omega, HBQ.out.trans (H2.out.mono HBQ.out.size)⟩
          case measure => simp [intOf]; omega
        · obtain rfl : t = e := by omega
          have hv := HE.out.2.2.2
          rw [hv] at HH
          clear hv
          go_upto_region 9 with (first | (refine ld_set rfl _ rfl _ rfl _ HGQ.out ?_) | (go_at_call 42; (with_reducible refine HH.out.mono ?_); rintro e w2 ⟨rfl, h2⟩; have H2 := Lib.hid h2; clear h2))
          have BW2 := Lib.hid (HBQ.out.trans (H2.out.mono HBQ.out.size))
          have OW2 : Hid (OwI (B + 1) w2 (.slice (some ⟨g, 0, none⟩) (acc.length + 1) cap) ((c : Int) :: acc)) := own_on HI.out.own BW2.out
          have hgB := Lib.hid (OW2.out.lt g rfl)
          have c0 : w2.cell? ⟨g, 0, none⟩ = some (.int .i64 (c : Int)) := (OW2.out.cellAt 0 (by simp)).trans rfl
          have f0 : w2.frozen? ⟨g, 0, none⟩ = false := OW2.out.frozenAt 0
          have HLB := Lib.hid HI.out.lt
          have O3 : Hid (OwI (B + 1) (w2.setCell ⟨g, 0, none⟩ (.int .i64 ((c : Int) + 1))) (.slice (some ⟨g, 0, none⟩) (acc.length + 1) cap) (((c + 1 : Nat) : Int) :: acc)) := (OW2.out.stored 0 _).1
          have hcm := HI.out.mm
          have HCN := Lib.hid HI.out.cnt
          have hi5 := HE.out.1
          have hit : (i : Int) ≤ (t : Int) := by omega
          have hmi : (mm : Int) ≤ (i : Int) := by omega
          have hc1 : c ≤ 600 := by omega
          have B3 := Lib.hid (((But.refl (fun k => B + 1 ≤ k) w2).set ⟨g, 0, none⟩ (.int .i64 ((c : Int) + 1)) (.inl hgB.out.1)))
          have G2 := Lib.hid ((BW2.out.block B HLB.out).trans HI.out.blk)
          have S2 := Lib.hid (show B + 1 ≤ w2.heap.size from Nat.le_trans HLB.out BW2.out.size)
          go_upto_region 10 with fail
          clear c0 f0
          generalize hW3 : w2.setCell ⟨g, 0, none⟩ (.int .i64 ((c : Int) + 1)) = w3 at *
          clear hW3
          have hlen : (acc.length + 1) + 2 = ((((c + 1 : Nat) : Int) :: acc) ++ [(i : Int) - (mm : Int), (t : Int) - (i : Int)]).length := by simp
          have HLEN := Lib.hid hlen
          clear hlen
          go_upto_region 11 with (at_builtin; refine wpList_append_lies _ rfl (.tmp 33) (.tmp 40) 67 rfl (B + 1) 3 i0 (.int .i64 0) 1 8 Tryd.underlying67 hi0 hz0 hz1 hz2 rfl (by decide) _ _ _ rfl (O3.out.alloc _) ⟨w3.heap.size, 0, none⟩ 2 2 [.int .i64 ((i : Int) - (mm : Int)), .int .i64 ((t : Int) - (i : Int))] rfl rfl ?_ ?_ (by decide) ?_ ?_ ?_ (w3.heap.size + 1) ?_ ?_)
          · intro j u hu
            have hadd : (⟨w3.heap.size, 0, none⟩ : Addr).add j = ⟨w3.heap.size, j, none⟩ := by unfold Addr.add; split <;> simp_all
            rw [hadd, (Blk.new w3 _ _).cell]
            match j, hu with
            | 0, hu => exact hu
            | 1, hu => exact hu
          · intro u hu
            simp only [List.mem_cons, List.not_mem_nil, or_false] at hu
            rcases hu with rfl | rfl <;> rfl
          · have := HCN.out; simp only [List.length_cons]; unfold maxLen; omega
          · have := HCN.out; simp only [List.length_cons]; omega
          · have := B3.out.size; have := S2.out; simp; omega
          · simp
          intro g4 cap4 w4 own4 gr4 hat4 hl4
          have O4 : Hid (OwI (B + 1) w4 (.slice (some ⟨g4, 0, none⟩) (acc.length + 1 + 2) cap4) ((((c + 1 : Nat) : Int) :: acc) ++ [(i : Int) - (mm : Int), (t : Int) - (i : Int)])) := by
            show w4.ownsRow _ _ _ _ _ _
            rw [← HLEN.out]
            simpa using own4
          have B4 : Hid (But (fun k => B + 1 ≤ k) w2 w4) := (B3.out.alloc (.cells #[.int .i64 ((i : Int) - (mm : Int)), .int .i64 ((t : Int) - (i : Int))] 3)).grown gr4 fun k hk => .inl (by
            have := hgB.out.1
            cases hk; exact this)
          clear own4 gr4 hat4 hl4
          have L4 := Lib.hid (B4.out.below (B := B + 1) S2.out fun k _ hk => hk)
          have G4 := Lib.hid ((L4.out.block B (by omega)).trans G2.out)
          have BL4 := Lib.hid (HI.out.bel.trans ((BW2.out.mono (Nat.le_of_lt HLB.out)).trans (L4.out.mono (by omega))))
          have T4 := Lib.hid (hTh.out.below BL4.out hT1)
          have hNX : Hid (Calls Tryd.prog 41 #[.agg (cellsOf p), .int .i64 ((t : Int) + 2)] w4 fun e w' => e = .returned (optV (firstO (fromP p ((t + 2 : Nat) : Int)))) ∧ Below w4.heap.size w4 w') := next_any p _ w4 T4.out
          generalize hON : firstO (fromP p ((t + 2 : Nat) : Int)) = on at *
          have HON := Lib.hid hON
          clear hON
          go_wp2_with (first | (refine ld_set rfl _ rfl _ rfl _ G4.out ?_) | (go_at_call 41; (with_reducible refine hNX.out.mono ?_); unfold optV; rintro e w5 ⟨rfl, h5⟩; have H5 := Lib.hid h5; clear h5))
          have hnx : ∀ j, on = some j → j < 1024 ∧ p j = true ∧ t + 2 ≤ j := fun j hj => by
            rw [hj] at HON
            obtain ⟨a, b, _⟩ := firstO_spec HON.out
            unfold fromP at b
            simp only [Bool.and_eq_true, decide_eq_true_eq] at b
            exact ⟨a, b.1, by omega⟩
          go_roundw
          case rel =>
            refine ⟨on, fu, c + 1, t + 2, acc ++ [(i : Int) - (mm : Int), (t : Int) - (i : Int)], g4, cap4, by simp, by simp, rfl, rfl, ?_⟩
            exact {
              txt := by rw [List.append_assoc]; exact HTX.out
              cnt := by have := HCN.out; simp; omega
              bel := BL4.out.trans (H5.out.mono (Nat.le_trans (Nat.le_of_lt HLB.out) (Nat.le_trans BW2.out.size L4.out.size)))
              blk := (H5.out.block B (Nat.lt_of_lt_of_le HLB.out (Nat.le_trans BW2.out.size L4.out.size))).trans G4.out
              lt := Nat.lt_of_lt_of_le HLB.out (Nat.le_trans BW2.out.size (Nat.le_trans L4.out.size H5.out.size))
              own := by
                have := own_on O4.out H5.out
                unfold OwI
                simpa using this
              ok := fun j hj => by obtain ⟨a, b, d⟩ := hnx j hj; exact ⟨a, b, by omega, d⟩
              mm := by have := HCN.out; omega
              mb := by omega }
          case measure => exact printM_lt i on hi1 fun j hj => by have := hnx j hj; omega
end Go.Proofs.YtchhenpijbecaaaDoor
