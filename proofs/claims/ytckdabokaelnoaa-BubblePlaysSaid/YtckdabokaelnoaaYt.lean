/- BubblePlays' walk (layer 13). -/
import Derived.Test.YtckdabokaelnoaaYs
namespace Go.Proofs.Ytckdabokaelnoaa
open Go.RowKit
set_option maxRecDepth 100000

theorem OpsB.less {w : World} {A : Option Addr} {l : List OpB} (h : OpsB w A l) (k : Nat) : OpsB w A (l.take k) := fun i o ho => by
  by_cases hi : i < k
  · rw [List.getElem?_take, if_pos hi] at ho; exact h i o ho
  · rw [List.getElem?_take, if_neg hi] at ho; cases ho
theorem loadO_halt {ops : Array Oper} {rest : List Oper} {op : Oper} {a : Act} {w : World} {Q : Exit → Act → World → Prop} {g : Nat × Bool} (_ : op.guard = some g) (x : Operand) (_ : op.op = .load 31 x) (h : Hid (wpList Try.prog ops Q (op :: rest) a w)) : wpList Try.prog ops Q (op :: rest) a w := h.out
section
variable {w : World} {fb : Nat} {v d : Value} {bs : List Bub}
set_option maxHeartbeats 20000000 in
theorem plays13_any (A : Option Addr) (l0 : List OpB) (cap : Nat) (w : World) (hml : l0.length ≤ cap ∧ l0.length ≤ maxLen) (hI : OpsB w A l0) :
    Calls Try.prog 3 #[.slice A l0.length cap] w (GotB w.heap.size (.bool true) w) := by
  have HN := Lib.hid (own_new w w (Below.refl _ _))
  have hcap := hml.1
  clear hml
  go_enter Try.func3, Try.ntmps3
  go_upto_region 1 with fail
  go_cut [0] (fun t wx => ∃ l : List OpB, OpsB w A l ∧ l.length ≤ 40 ∧ t = .slice A l.length cap ∧ w = wx)
  case first =>
    have HI := Lib.hid hI
    clear hI
    by_cases h60 : l0.length ≤ 40
    · have HL := Lib.hid h60
      generalize hL : l0.length = len at *
      have HLL := Lib.hid hL
      clear hL
      have t0 : ¬ (40 : Int) < len := by omega
      have t1 : (0 : Int) ≤ len := by omega
      have t2 : (len : Int) ≤ cap := by omega
      go_wp2_with fail
      go_meet
      have hm : (min (len : Int) 40).toNat = len := by omega
      exact ⟨l0, HI.out, by rw [HLL.out]; exact HL.out, by rw [HLL.out, hm], rfl⟩
    · have hlt : (l0.take 40).length = 40 := by rw [List.length_take]; omega
      have HL := Lib.hid hlt
      generalize hL : l0.length = len at *
      clear hL hlt
      have t0 : (40 : Int) < len := by omega
      have t2 : (40 : Int) ≤ cap := by omega
      have t3 : 40 ≤ cap := by omega
      go_wp2_with fail
      go_meet
      have hm : (min (len : Int) 40).toNat = 40 := by omega
      exact ⟨l0.take 40, HI.out.less 40, by rw [HL.out]; exact Nat.le_refl _, by rw [HL.out, hm], rfl⟩
  case rest =>
    obtain ⟨l, hI, hl40, rfl, rfl⟩ := hcut
    have HI := Lib.hid hI
    obtain ⟨N, hN⟩ : ∃ N, l.length = N := ⟨_, rfl⟩
    have HLN := Lib.hid hN
    rw [hN] at hl40 ⊢
    clear hI hN hcap
    go_wp2_with fail
    refine HN.out.mono ?_
    rintro e w1 ⟨rfl, h1⟩
    dsimp only
    generalize hfb : w.heap.size = fb at h1 ⊢
    have HFB := Lib.hid hfb
    have HP1 := Lib.hid (Pair.start h1)
    clear h1 HN hfb
    go_wp2_with fail
    go_loopw [4, 7, 8, 19] (fun dv s7 s8 iv wr => ∃ (k : Nat) (v : Value) (bs : List Bub) (u7 u8 : Value), u7 = s7 ∧ u8 = s8 ∧ iv = .int .i64 k ∧ k ≤ N ∧ Pair w fb v dv bs bs wr) (fun _ _ _ iv _ => N - (intOf iv).toNat)
    case atStart => exact ⟨0, _, [], _, _, rfl, rfl, rfl, Nat.zero_le _, HP1.out⟩
    case round =>
      obtain ⟨k, v, bs, us7, us8, rfl, rfl, rfl, hk, hp⟩ := hrel
      have HP := Lib.hid hp
      clear hp HP1
      by_cases hlt : k < N
      · obtain ⟨o, ho⟩ : ∃ o, l[k]? = some o := ⟨_, List.getElem?_eq_getElem (by have := HLN.out; omega)⟩
        obtain ⟨bb, off, rfl, -, hr⟩ := (HI.out.below HP.out.own.below) k o ho
        have HR := Lib.hid hr
        have hO19 := opbL_len o
        have HIO := Lib.hid (infoOpB.trans (congrArg some hO19.symm))
        have hst := run_storeCells_new (P := Try.prog) wr 31 #[.int .u64 0, .int .i64 0, .int .i64 0, .int .u64 0, .int .u64 0, .int .u64 0, .int .u64 0, .int .u64 0, .int .u64 0, .int .u64 0, .int .u64 0, .int .u64 0, .int .u64 0, .int .u64 0, .int .u64 0, .int .u64 0, .int .u64 0, .int .u64 0, .int .u64 0] (opbL o).toArray (infoOpB.trans (congrArg some (by rw [List.size_toArray, hO19]))) (Eq.trans (show _ = 19 from rfl) (by rw [List.size_toArray, hO19])) (all_one (opbL_one o))
        have hal : Below wr.heap.size wr (wr.alloc (.cells (opbL o).toArray 31)) := (Below.refl _ _).alloc (Nat.le_refl _) _
        have HP2 := Lib.hid (HP.out.on hal)
        have HDO := Lib.hid (fun W (h : Pair w fb v u4 bs bs W) => do13_any o h)
        have HAK := Lib.hid (fun W v d (h : Pair w fb v d (doB bs o) (doB bs o) W) => alike13_any o h)
        have hbx := Blk.new wr 31 (opbL o).toArray
        have HBX := Lib.hid hbx
        have HYR : Hid ((wr.alloc (.cells (opbL o).toArray 31)).rangeAt wr.heap.size 0 (opbL o)) := Lib.hid (blk_rangeB hbx)
        have k0 : (0 : Int) ≤ (k : Int) := by omega
        have k1 : (k : Int) < (N : Int) := by omega
        have HFL : Hid (∀ q, OwnF fb v q → q ≠ wr.heap.size) := fun q hq e => by have := HP.out.own.tab.lt hq; omega
        clear hr hal ho HP hbx
        generalize opbL o = O at *
        go_wp2_with (first
          | (with_reducible (show wpList _ _ _ _ _ _); refine wpList_load_mid rfl 31 (.tmp 21) rfl bb (off + k * 19) rfl O _ HR.out Try.underlying31 rfl HIO.out ?_)
          | (with_reducible (show wpList _ _ _ _ _ _); refine wpList_load_mid rfl 31 (.tmp 6) rfl wr.heap.size 0 rfl O _ HYR.out Try.underlying31 rfl HIO.out ?_))
        refine (HDO.out _ HP2.out).mono ?_
        rintro e w4 ⟨v4, d4, rfl, h4, b4⟩
        dsimp only
        have HP4 := Lib.hid h4
        have HB4 : Hid (Blk w4 wr.heap.size 31 O.toArray) := HBX.out.but b4 (fun q => HFL.out _ q rfl)
        have HYR4 : Hid (w4.rangeAt wr.heap.size 0 O) := Lib.hid (blk_rangeB HB4.out)
        clear h4 b4 HDO HP2 hst hO19 HYR HBX
        go_wp2_with (with_reducible (show wpList _ _ _ _ _ _); refine loadO_halt rfl (.tmp 6) rfl ?_)
        refine Lib.hid ?_
        refine loadG (by rfl) 31 (.tmp 6) rfl wr.heap.size 0 rfl O _ HYR4.out Try.underlying31 rfl HIO.out ?_
        go_wp2_with fail
        refine (HAK.out _ _ _ HP4.out).mono ?_
        rintro e w5 ⟨rfl, h5⟩
        dsimp only
        have HP5 := Lib.hid (HP4.out.on h5)
        clear h5 HAK HP4
        go_wp2_with fail
        go_roundw
        case rel => exact ⟨k + 1, v4, doB bs o, _, _, rfl, rfl, by go_num, by omega, HP5.out⟩
        case measure => simp [intOf]; omega
      · have hkn : k = N := by omega
        have k1 : ¬ (k : Int) < (N : Int) := by omega
        have k2 : decide (k < N) = false := by simpa using hlt
        have HBl : Hid (Below w.heap.size w wr) := HP.out.own.below
        clear hkn HP
        go_wp2_with (go_at_call 17; (with_reducible refine (lives13_any _).mono ?_); rintro e w9 ⟨rfl, h9⟩; have H9 := Lib.hid h9; clear h9)
        go_ret
        exact ⟨rfl, HBl.out.trans (H9.out.mono HBl.out.size)⟩
end
end Go.Proofs.Ytckdabokaelnoaa
