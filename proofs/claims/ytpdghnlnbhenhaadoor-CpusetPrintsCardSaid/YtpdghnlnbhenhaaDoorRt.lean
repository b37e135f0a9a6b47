/- The document's Print: the same text. -/
import Derived.Test.YtpdghnlnbhenhaaDoorDc
import Derived.Test.YtpdghnlnbhenhaaDoorPq
namespace Go.Proofs.YtpdghnlnbhenhaaDoor
open Go.RowKit

theorem str_add (A B : List UInt8) (W : World) (h : A.length ≤ 1000000) (h2 : B.length ≤ 1000000) : (Op.stringOp .add ⟨A.toArray⟩ ⟨B.toArray⟩).run Tryd.prog W = .ok (.string ⟨(A ++ B).toArray⟩) W := by
  have h1 : (ByteArray.mk A.toArray).size = A.length := by simp [ByteArray.size]
  have h2 : (ByteArray.mk B.toArray).size = B.length := by simp [ByteArray.size]
  refine (run_string_add_sum (P := Tryd.prog) (w := W) ⟨A.toArray⟩ ⟨B.toArray⟩ (by omega)).trans ?_
  rw [ByteArray.mk_append_mk]
theorem mk_app (A B : List UInt8) : ByteArray.mk A.toArray ++ ByteArray.mk B.toArray = ⟨(A ++ B).toArray⟩ := by
  rw [ByteArray.mk_append_mk]
theorem row_str (acc : List UInt8) (k j : Nat) (hk : k < j) (h : acc.length = 0) : Value.string (⟨acc.toArray⟩ ++ ⟨(Lib.decDigits k).toArray⟩ ++ (⟨#[45]⟩ ++ ⟨(Lib.decDigits j).toArray⟩)) = Value.string ⟨(rowT acc k j).toArray⟩ := by
  show Value.string (⟨acc.toArray⟩ ++ ⟨(Lib.decDigits k).toArray⟩ ++ (⟨[45].toArray⟩ ++ ⟨(Lib.decDigits j).toArray⟩)) = _
  rw [mk_app, mk_app, mk_app, rowT_body, rowBody, if_pos h, if_pos hk]; simp
theorem row_str_c (acc : List UInt8) (k j : Nat) (hk : k < j) (h : ¬ acc.length = 0) : Value.string (⟨acc.toArray⟩ ++ ⟨#[44]⟩ ++ ⟨(Lib.decDigits k).toArray⟩ ++ (⟨#[45]⟩ ++ ⟨(Lib.decDigits j).toArray⟩)) = Value.string ⟨(rowT acc k j).toArray⟩ := by
  show Value.string (⟨acc.toArray⟩ ++ ⟨[44].toArray⟩ ++ ⟨(Lib.decDigits k).toArray⟩ ++ (⟨[45].toArray⟩ ++ ⟨(Lib.decDigits j).toArray⟩)) = _
  rw [mk_app, mk_app, mk_app, mk_app, rowT_body, rowBody, if_neg h, if_pos hk]; simp
theorem row_one (acc : List UInt8) (k j : Nat) (hk : ¬ k < j) (h : acc.length = 0) : Value.string (⟨acc.toArray⟩ ++ ⟨(Lib.decDigits k).toArray⟩) = Value.string ⟨(rowT acc k j).toArray⟩ := by
  rw [mk_app, rowT_body, rowBody, if_pos h, if_neg hk]
theorem row_one_c (acc : List UInt8) (k j : Nat) (hk : ¬ k < j) (h : ¬ acc.length = 0) : Value.string (⟨acc.toArray⟩ ++ ⟨#[44]⟩ ++ ⟨(Lib.decDigits k).toArray⟩) = Value.string ⟨(rowT acc k j).toArray⟩ := by
  show Value.string (⟨acc.toArray⟩ ++ ⟨[44].toArray⟩ ++ ⟨(Lib.decDigits k).toArray⟩) = _
  rw [mk_app, mk_app, rowT_body, rowBody, if_neg h, if_neg hk]
theorem row_len (acc : List UInt8) (i e : Nat) (hi : i < 1024) (he : e < 1024) : (rowT acc i e).length ≤ acc.length + 50 := by
  have l1 := Lib.itoa_length_le (i : Int) (by omega) (by omega)
  have l2 := Lib.itoa_length_le (e : Int) (by omega) (by omega)
  have h3 : (if acc.length = 0 then acc else acc ++ [44]).length ≤ acc.length + 1 := by split <;> simp
  unfold rowT
  generalize (if acc.length = 0 then acc else acc ++ [44]) = A at h3 ⊢
  dsimp only
  split <;> simp only [List.length_append, List.length_cons, List.length_nil] <;> omega
/-- What holds at the loop's head. -/
structure RpInv (p : Nat → Bool) (B : Nat) (w : World) (T : List UInt8) (k : Nat) (fu : Nat) (acc : List UInt8) (wr : World) : Prop where
  txt : printFrom p fu (rsFrom p k) acc = T
  bel : Below B w wr
  blk : wr.heap[B]? = some (.cells (cellsOf p) 25 (0, 0))
  lt : B < wr.heap.size
  fuel : 1025 ≤ fu + k
  len : acc.length + 60 * fu ≤ 70000
set_option maxRecDepth 100000 in
set_option maxHeartbeats 4000000 in
theorem refPrint_any (p : Nat → Bool) (w : World) :
    Calls Tryd.prog 32 #[.agg (cellsOf p)] w fun e w' => e = .returned (.string ⟨(printAll p).toArray⟩) ∧ Below w.heap.size w w' := by
  obtain ⟨TT, hTT⟩ : ∃ TT, printFrom p 1025 (firstO p) [] = TT := ⟨_, rfl⟩
  rw [show printAll p = TT from hTT]
  have HT := Lib.hid hTT; clear hTT
  have hg : (w.alloc (.cells (cellsOf p) 25)).heap[w.heap.size]? = some (.cells (cellsOf p) 25 (0, 0)) := heap_alloc_new _ _
  have HG := Lib.hid hg; clear hg
  have HB := Lib.hid ((Below.refl w.heap.size w).alloc (Nat.le_refl _) (.cells (cellsOf p) 25))
  generalize hB : w.heap.size = B at HG HB ⊢
  have HBB := Lib.hid hB; clear hB
  have P0 : RpInv p B w TT 0 1025 [] (w.alloc (.cells (cellsOf p) 25)) := {
    txt := by rw [rs_zero]; exact HT.out
    bel := HB.out
    blk := HG.out
    lt := by simp [HBB.out]
    fuel := by omega
    len := by simp }
  go_enter Tryd.func32, Tryd.ntmps32
  go_wp2
  rw [HBB.out]
  go_loopw [3, 4] (fun v n wr => ∃ (k : Nat) (fu : Nat) (acc : List UInt8), k ≤ 1024 ∧ n = .int .i64 k ∧ v = .string ⟨acc.toArray⟩ ∧ RpInv p B w TT k fu acc wr) (fun _ n _ => 1025 - (intOf n).toNat)
  case atStart => exact ⟨0, 1025, [], by omega, rfl, rfl, P0⟩
  case round =>
    obtain ⟨k, fu, acc, hk, hn, hv, hI⟩ := hrel
    clear P0
    subst hn hv
    by_cases hlt : k < 1024
    · have hold := refHas_any p (k : Int)
      have hprev := refHas_any p ((k : Int) - 1)
      have hp1 : hasP p k = p k := hasP_yes p k hlt
      rw [hp1] at hold
      have HP1 := Lib.hid hp1; clear hp1
      by_cases hpk : p k = true
      · rw [hpk] at hold
        have HO := Lib.hid hold; clear hold
        by_cases hpb : hasP p ((k : Int) - 1) = true
        · rw [hpb] at hprev
          have HP := Lib.hid hprev; clear hprev
          have hrs : rs p k = false := by unfold rs; rw [hpk, hpb]; rfl
          have HN := Lib.hid (rs_not p k hrs)
          have HPK := Lib.hid hpk; have HPB := Lib.hid hpb
          clear hpk hpb hrs
          go_wp2_with (first | (refine ld_set rfl _ rfl _ rfl _ hI.blk ?_) | (refine ld_set rfl _ rfl _ rfl _ ((h1.block _ hI.lt).trans hI.blk) ?_) | (go_at_call 15; (with_reducible refine (HO.out _).mono ?_); rintro e w1 ⟨rfl, h1⟩) | (go_at_call 15; (with_reducible refine (HP.out _).mono ?_); rintro e w2 ⟨rfl, h2⟩))
          go_roundw
          case rel => exact ⟨k + 1, fu, acc, by omega, by go_num, rfl, {
            txt := by rw [← HN.out]; exact hI.txt
            bel := (hI.bel.trans (h1.mono (by have := hI.lt; omega))).trans (h2.mono (by have := hI.lt; have := h1.size; omega))
            blk := (h2.block _ (Nat.lt_of_lt_of_le hI.lt h1.size)).trans ((h1.block _ hI.lt).trans hI.blk)
            lt := Nat.lt_of_lt_of_le hI.lt (Nat.le_trans h1.size h2.size)
            fuel := by have := hI.fuel; omega
            len := hI.len }⟩
          case measure => simp [intOf]; omega
        · have hpb' : hasP p ((k : Int) - 1) = false := by simpa using hpb
          rw [hpb'] at hprev
          have HP := Lib.hid hprev; clear hprev
          have hrs : rs p k = true := by unfold rs; rw [hpk, hpb']; rfl
          have HRS := Lib.hid hrs
          have HPK := Lib.hid hpk
          clear hpk hpb hpb' hrs
          obtain ⟨fu, rfl⟩ : ∃ n, fu = n + 1 := ⟨fu - 1, by have := hI.fuel; omega⟩
          have hE := endOf_spec p k hlt HPK.out
          have htx := hI.txt
          rw [rs_here p k hlt HRS.out, printFrom] at htx
          obtain ⟨e, he⟩ : ∃ e, endOf p k = e := ⟨_, rfl⟩
          rw [he] at htx hE
          rw [← rs_next p k e hE] at htx
          have HTX := Lib.hid htx; clear htx he
          have HE := Lib.hid hE; clear hE
          go_wp2_with (first | (refine ld_set rfl _ rfl _ rfl _ hI.blk ?_) | (refine ld_set rfl _ rfl _ rfl _ ((h1.block _ hI.lt).trans hI.blk) ?_) | (go_at_call 15; (with_reducible refine (HO.out _).mono ?_); rintro e w1 ⟨rfl, h1⟩) | (go_at_call 15; (with_reducible refine (HP.out _).mono ?_); rintro e w2 ⟨rfl, h2⟩))
          have bel2 := (hI.bel.trans (h1.mono (by have := hI.lt; omega))).trans (h2.mono (by have := hI.lt; have := h1.size; omega))
          have blk2 := (h2.block _ (Nat.lt_of_lt_of_le hI.lt h1.size)).trans ((h1.block _ hI.lt).trans hI.blk)
          have lt2 : B < w2.heap.size := Nat.lt_of_lt_of_le hI.lt (Nat.le_trans h1.size h2.size)
          have hlen := hI.len
          have hfu := hI.fuel
          have BEL2 := Lib.hid bel2; have BLK2 := Lib.hid blk2
          clear bel2 blk2 h1 h2 hI HO HP HP1
          obtain ⟨he1, he2, -, -⟩ := HE.out
          go_loopw [5] (fun t wx => ∃ j : Nat, k ≤ j ∧ j ≤ e ∧ t = .int .i64 j ∧ Below B w wx ∧ wx.heap[B]? = some (.cells (cellsOf p) 25 (0, 0)) ∧ B < wx.heap.size) (fun t _ => e - (intOf t).toNat)
          case atStart => exact ⟨k, by omega, he1, rfl, BEL2.out, BLK2.out, lt2⟩
          case round =>
            obtain ⟨j, hj1, hj2, hj, hb, g0, hlt3⟩ := hrel
            subst hj
            have K0 := Lib.hid g0; have HBW := Lib.hid hb; clear g0 hb BEL2 BLK2 lt2
            by_cases hje : j = e
            · have hc := refHas_any p ((j : Int) + 1)
              rw [show hasP p ((j : Int) + 1) = false by rw [hje]; exact HE.out.2.2.2] at hc
              have HC := Lib.hid hc; clear hc
              subst hje
              have lk := dec_len_le k (by omega)
              have lj := dec_len_le j (by omega)
              by_cases hac : acc.length = 0
              · have hem : (!acc.isEmpty) = false := by cases acc <;> simp_all
                have HAC := Lib.hid hac; clear hac
                go_wp2_with (first | (refine ld_set rfl _ rfl _ rfl _ K0.out ?_) | (go_at_call 15; (with_reducible refine (HC.out _).mono ?_); rintro e' w3 ⟨rfl, h3⟩) | (go_at_call 40; (with_reducible refine (dec_any 1024 k _ (by omega) (by omega)).mono ?_); rintro e' w4 ⟨rfl, h4⟩) | (go_at_call 40; (with_reducible refine (dec_any 1024 j _ (by omega) (by omega)).mono ?_); rintro e' w5 ⟨rfl, h5⟩))
                · go_roundw
                  case rel => exact ⟨k + 1, fu, rowT acc k j, by omega, by go_num, row_str acc k j (by assumption) HAC.out, {
                    txt := HTX.out
                    bel := HBW.out.trans (((h3.trans (h4.mono h3.size)).trans (h5.mono (Nat.le_trans h3.size h4.size))).mono (by omega))
                    blk := (h5.block _ (by have := h3.size; have := h4.size; omega)).trans ((h4.block _ (by have := h3.size; omega)).trans ((h3.block _ (by omega)).trans K0.out))
                    lt := by have := h3.size; have := h4.size; have := h5.size; omega
                    fuel := by omega
                    len := by have := row_len acc k j (by omega) (by omega); omega }⟩
                  case measure => simp [intOf]; omega
                · go_roundw
                  case rel => exact ⟨k + 1, fu, rowT acc k j, by omega, by go_num, row_one acc k j (by assumption) HAC.out, {
                    txt := HTX.out
                    bel := HBW.out.trans ((h3.trans (h4.mono h3.size)).mono (by omega))
                    blk := (h4.block _ (by have := h3.size; omega)).trans ((h3.block _ (by omega)).trans K0.out)
                    lt := by have := h3.size; have := h4.size; omega
                    fuel := by omega
                    len := by have := row_len acc k j (by omega) (by omega); omega }⟩
                  case measure => simp [intOf]; omega
              · have hem : (!acc.isEmpty) = true := by cases acc <;> simp_all
                have HAC := Lib.hid hac; clear hac
                go_wp2_with (first | (refine ld_set rfl _ rfl _ rfl _ K0.out ?_) | (go_at_call 15; (with_reducible refine (HC.out _).mono ?_); rintro e' w3 ⟨rfl, h3⟩) | (go_at_call 40; (with_reducible refine (dec_any 1024 k _ (by omega) (by omega)).mono ?_); rintro e' w4 ⟨rfl, h4⟩) | (go_at_call 40; (with_reducible refine (dec_any 1024 j _ (by omega) (by omega)).mono ?_); rintro e' w5 ⟨rfl, h5⟩))
                · go_roundw
                  case rel => exact ⟨k + 1, fu, rowT acc k j, by omega, by go_num, row_str_c acc k j (by assumption) HAC.out, {
                    txt := HTX.out
                    bel := HBW.out.trans (((h3.trans (h4.mono h3.size)).trans (h5.mono (Nat.le_trans h3.size h4.size))).mono (by omega))
                    blk := (h5.block _ (by have := h3.size; have := h4.size; omega)).trans ((h4.block _ (by have := h3.size; omega)).trans ((h3.block _ (by omega)).trans K0.out))
                    lt := by have := h3.size; have := h4.size; have := h5.size; omega
                    fuel := by omega
                    len := by have := row_len acc k j (by omega) (by omega); omega }⟩
                  case measure => simp [intOf]; omega
                · go_roundw
                  case rel => exact ⟨k + 1, fu, rowT acc k j, by omega, by go_num, row_one_c acc k j (by assumption) HAC.out, {
                    txt := HTX.out
                    bel := HBW.out.trans ((h3.trans (h4.mono h3.size)).mono (by omega))
                    blk := (h4.block _ (by have := h3.size; omega)).trans ((h3.block _ (by omega)).trans K0.out)
                    lt := by have := h3.size; have := h4.size; omega
                    fuel := by omega
                    len := by have := row_len acc k j (by omega) (by omega); omega }⟩
                  case measure => simp [intOf]; omega
            · have ht : hasP p ((j : Int) + 1) = true := by
                have := hasP_yes p (j + 1) (by omega)
                rw [HE.out.2.2.1 (j + 1) (by omega) (by omega)] at this
                simpa using this
              have hc := refHas_any p ((j : Int) + 1)
              rw [ht] at hc
              have HC := Lib.hid hc; clear hc ht
              go_wp2_with (first | (refine ld_set rfl _ rfl _ rfl _ K0.out ?_) | (go_at_call 15; (with_reducible refine (HC.out _).mono ?_); rintro e' w3 ⟨rfl, h3⟩))
              go_roundw
              case rel => exact ⟨j + 1, by omega, by omega, by go_num, HBW.out.trans (h3.mono (by omega)), (h3.block _ hlt3).trans K0.out, Nat.lt_of_lt_of_le hlt3 h3.size⟩
              case measure => simp [intOf]; omega
      · have hpk' : p k = false := by simpa using hpk
        rw [hpk'] at hold
        have HO := Lib.hid hold; clear hold hprev
        have hrs : rs p k = false := by unfold rs; rw [hpk']; rfl
        have HN := Lib.hid (rs_not p k hrs)
        have HPK := Lib.hid hpk'
        clear hpk hpk' hrs
        go_wp2_with (first | (refine ld_set rfl _ rfl _ rfl _ hI.blk ?_) | (go_at_call 15; refine (HO.out _).mono ?_; rintro e w1 ⟨rfl, h1⟩))
        go_roundw
        case rel => exact ⟨k + 1, fu, acc, by omega, by go_num, rfl, {
            txt := by rw [← HN.out]; exact hI.txt
            bel := hI.bel.trans (h1.mono (by have := hI.lt; omega))
            blk := (h1.block _ hI.lt).trans hI.blk
            lt := Nat.lt_of_lt_of_le hI.lt h1.size
            fuel := by have := hI.fuel; omega
            len := hI.len }⟩
        case measure => simp [intOf]; omega
    · obtain rfl : k = 1024 := by omega
      have htx : acc = TT := by
        have := hI.txt
        rw [rs_end] at this
        cases fu <;> exact this
      have HTX := Lib.hid htx; clear htx
      go_wp2
      go_ret
      exact ⟨by rw [HTX.out] <;> rfl, hI.bel⟩
end Go.Proofs.YtpdghnlnbhenhaaDoor
