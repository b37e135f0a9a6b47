/- BubbleMany's walk (layer 13). -/
import Derived.Test.YtdlncbndhljhfaaZo
import Derived.Test.YtdlncbndhljhfaaZp
namespace Go.Proofs.Ytdlncbndhljhfaa
open Go.RowKit
set_option maxRecDepth 100000

theorem many_own {w W : World} {fb : Nat} {v : Value} {k : Nat} (hk : k < 40) (u : Int) (hu : manyU k = u) (h : Own w fb v (manyB k) W) :
    Calls Try.prog 38 #[.pointer (some ⟨fb, 0, none⟩), .int .i64 u, .agg (cellsOf (ofP (fun _ => (k : Int)) 1))] W fun e W' => e = .returned (.tuple #[.int .i64 (if k < 32 then (k : Int) else 0), .int .i64 (if k < 32 then 0 else 4)]) ∧ ∃ v', Own w fb v' (manyB (k + 1)) W' := by
  have := own_make (manyU k) (ofP (fun _ => (k : Int)) 1) h
  rw [many_all k hk] at this
  rw [← hu]
  refine this.mono fun e W' ⟨he, ho⟩ => ⟨?_, ho⟩
  rw [he]
  split <;> rfl
theorem M3_full : emptyP M3 = false := by decide +kernel
theorem masks_same (bs : List Bub) : eqP (maskP bs (-1)) (maskP [] 5) = true := by
  rw [eqP_true]
  intro n _
  unfold maskP
  rw [way_no (show inB bs (-1) = false by unfold inB; simp), way_no (show inB [] 5 = false by unfold inB; simp)]
  rfl
set_option maxHeartbeats 16000000 in
theorem many13_any (n : Int) (w : World) : Calls Try.prog 9 #[.int .i64 n] w (GotB w.heap.size (.bool true) w) := by
  have HLV := Lib.hid lives13_any
  have HK := Lib.hid (fun (a : Int) (W : World) => mk1 a (ofP (fun _ => a) 1) rfl W)
  go_enter Try.func9, Try.ntmps9
  go_upto_region 1 with fail
  go_cut [0] (fun t wx => ∃ N : Nat, t = .int .i64 N ∧ N ≤ 40 ∧ wx = w)
  case first =>
    clear HLV HK
    obtain ⟨N, hN⟩ : ∃ N : Nat, max 0 (min n 40) = (N : Int) := ⟨(max 0 (min n 40)).toNat, by omega⟩
    have h40 : N ≤ 40 := by omega
    go_wp2_with fail
    all_goals
      go_meet
      exact ⟨N, by first | rfl | (rw [hN]) | (congr 1; omega), h40, rfl⟩
  case rest =>
    obtain ⟨N, rfl, hN, hwx⟩ := hcut
    obtain rfl := hwx.symm
    have HN := Lib.hid (own_new w w (Below.refl _ _))
    go_wp2_with fail
    refine HN.out.mono ?_
    rintro e w1 ⟨rfl, h1⟩
    dsimp only
    generalize hfb : w.heap.size = fb at h1 ⊢
    have HO1 := Lib.hid h1; have HFB := Lib.hid hfb
    clear h1 HN hfb
    go_wp2_with fail
    go_loopw [19] (fun iv wr => ∃ (k : Nat) (v : Value), iv = .int .i64 k ∧ k ≤ N ∧ Own w fb v (manyB k) wr) (fun iv _ => N - (intOf iv).toNat)
    case atStart => exact ⟨0, _, rfl, Nat.zero_le _, HO1.out⟩
    case round =>
      obtain ⟨k, v, rfl, hk, ho⟩ := hrel
      have HO := Lib.hid ho
      clear ho HO1
      by_cases hlt : k < N
      · have hr : k % 3 = 0 ∨ k % 3 = 1 ∨ k % 3 = 2 := by omega
        have hu : manyU k = (k : Int).tmod 3 - 1 := by unfold manyU; rw [Int.tmod_eq_emod_of_nonneg (by omega)]; omega
        have ht : (k : Int).tmod 3 = 0 ∨ (k : Int).tmod 3 = 1 ∨ (k : Int).tmod 3 = 2 := by rw [Int.tmod_eq_emod_of_nonneg (by omega)]; omega
        have HU := Lib.hid hu
        have HK2 := Lib.hid (HK.out (k : Int) wr)
        have tk : ((k : Int) != (k : Int)) = false := by simp
        have t0 : ((0 : Int) != (k : Int)) = true ∨ ((0 : Int) != (k : Int)) = false := by cases ((0 : Int) != (k : Int)) <;> simp
        clear hu hr
        rcases ht with ht | ht | ht
        all_goals
          go_wp2_with fail
          refine HK2.out.mono ?_
          rintro e w2 ⟨rfl, h2⟩
          dsimp only
          have HM := Lib.hid (many_own (by omega) _ (HU.out.trans (by rw [ht])) (HO.out.on h2))
          clear h2 HO
          by_cases h32 : k < 32
          · have t32 : decide ((k : Int) < 32) = true := by simp; omega
            simp only [if_pos h32] at HM
            clear h32
            go_wp2_with fail
            refine HM.out.mono ?_
            rintro e w3 ⟨rfl, v3, h3⟩
            dsimp only
            have HO3 := Lib.hid h3
            clear h3 HM
            go_wp2_with fail
            go_roundw
            case rel => exact ⟨k + 1, v3, by go_num, by omega, HO3.out⟩
            case measure => simp [intOf]; omega
          · have t32 : decide ((k : Int) < 32) = false := by simp; omega
            simp only [if_neg h32] at HM
            clear h32
            go_wp2_with fail
            refine HM.out.mono ?_
            rintro e w3 ⟨rfl, v3, h3⟩
            dsimp only
            have HO3 := Lib.hid h3
            clear h3 HM
            go_wp2_with fail
            go_roundw
            case rel => exact ⟨k + 1, v3, by go_num, by omega, HO3.out⟩
            case measure => simp [intOf]; omega
      · obtain rfl : k = N := by omega
        have tk : ¬ (k : Int) < (k : Int) := by omega
        have hl := many_len k (by omega)
        have hmin : min (k : Int) 32 = ((manyB k).length : Int) := by omega
        have HK1 := Lib.hid (mk1 1 M3 rfl)
        have HE := masks_same (manyB k)
        clear hl
        go_wp2_with fail
        refine (HK1.out _).mono ?_
        rintro e w2 ⟨rfl, h2⟩
        dsimp only
        have HO2 := Lib.hid (HO.out.on h2)
        have HMN := Lib.hid (fmake_nil M3 M3_full w2)
        clear h2 HO
        go_wp2_with fail
        refine HMN.out.mono ?_
        rintro e w3 ⟨rfl, h3⟩
        dsimp only
        have HO3 := Lib.hid (HO2.out.on h3)
        clear h3 HO2 HMN
        go_wp2_with fail
        refine (fburst_nil 0 w3).mono ?_
        rintro e w4 ⟨rfl, h4⟩
        dsimp only
        have HO4 := Lib.hid (HO3.out.on h4)
        clear h4 HO3
        go_wp2_with fail
        refine (fget_nil 0 w4).mono ?_
        rintro e w5 ⟨rfl, h5⟩
        dsimp only
        have HO5 := Lib.hid (HO4.out.on h5)
        clear h5 HO4
        have hZl := bubL_len zB
        have hZo := bubL_one zB
        generalize bubL zB = Z at *
        have hst := run_storeCells_new (P := Try.prog) w5 71 #[.int .i64 0, .int .u64 0, .int .u64 0, .int .u64 0, .int .u64 0, .int .u64 0, .int .u64 0, .int .u64 0, .int .u64 0, .int .u64 0, .int .u64 0, .int .u64 0, .int .u64 0, .int .u64 0, .int .u64 0, .int .u64 0, .int .u64 0, .int .i64 0, .int .i64 0] Z.toArray (infoB.trans (congrArg some (by rw [List.size_toArray, hZl]))) (Eq.trans (show _ = 19 from rfl) (by rw [List.size_toArray, hZl])) (all_oneCell_toArray hZo)
        have HO6 := Lib.hid (HO5.out.on (show Below w5.heap.size w5 (w5.alloc (.cells Z.toArray 71)) from (Below.refl _ _).alloc (Nat.le_refl _) _))
        clear HO5 hZo
        go_upto_region 14 with fail
        clear hst hZl
        generalize w5.alloc (.cells Z.toArray 71) = w6 at *
        have HL1 := Lib.hid (flen_any HO6.out.tab)
        have HL2 : Hid (Calls Try.prog 40 #[.pointer none] w6 fun e w' => e = .returned (.int .i64 0) ∧ w6 = w') := Lib.hid (flen_nil w6)
        have HF1 : Hid (Calls Try.prog 41 #[.pointer none, .int .i64 (-1)] w6 fun e w' => e = .returned (.bool true) ∧ Below w6.heap.size w6 w') := Lib.hid (ffree_nil (-1) w6)
        have tc : (((manyB k).length : Int) == ((manyB k).length : Int)) = true := by simp
        go_wp2_with (first
          | (go_at_call 40; (with_reducible refine HL1.out.mono ?_); rintro e wq ⟨rfl, rfl⟩)
          | (go_at_call 40; (with_reducible refine HL2.out.mono ?_); rintro e wq ⟨rfl, rfl⟩))
        refine HF1.out.mono ?_
        rintro e w7 ⟨rfl, h7⟩
        dsimp only
        have HO7 := Lib.hid (HO6.out.on h7)
        have HF2 : Hid (Calls Try.prog 41 #[.pointer none, .int .i64 0] w7 fun e w' => e = .returned (.bool false) ∧ Below w7.heap.size w7 w') := Lib.hid (ffree_nil 0 w7)
        clear h7 HO6 HL1 HL2 HF1
        go_wp2_with fail
        refine HF2.out.mono ?_
        rintro e w8 ⟨rfl, h8⟩
        dsimp only
        have HO8 := Lib.hid (HO7.out.on h8)
        have HM1 := Lib.hid (fmask_any (-1) HO8.out.tab)
        generalize maskP (manyB k) (-1) = P1 at HM1 HE
        clear h8 HO7 HF2
        go_wp2_with fail
        refine HM1.out.mono ?_
        rintro e w9 ⟨rfl, h9⟩
        dsimp only
        have HO9 := Lib.hid (HO8.out.on h9)
        clear h9 HO8 HM1
        go_wp2_with fail
        refine (fmask_nil 5 w9).mono ?_
        rintro e w10 ⟨rfl, h10⟩
        dsimp only
        have HO10 := Lib.hid (HO9.out.on h10)
        clear h10 HO9
        generalize maskP [] 5 = P2 at HE ⊢
        go_wp2_with (with_reducible (show wpList _ _ _ _ _ _); refine eqlS_halt rfl (.tmp 98) (.tmp 100) rfl ?_)
        refine Lib.hid ?_
        refine eql_set (by rfl) (.tmp 98) (.tmp 100) _ rfl P1 P2 rfl rfl ?_
        go_wp2_with fail
        refine (HLV.out _).mono ?_
        rintro e w11 ⟨rfl, h11⟩
        dsimp only
        have HB := Lib.hid (HO10.out.on h11).below
        clear h11 HO10
        go_wp2_with fail
        go_ret
        exact ⟨rfl, HB.out⟩
end Go.Proofs.Ytdlncbndhljhfaa
