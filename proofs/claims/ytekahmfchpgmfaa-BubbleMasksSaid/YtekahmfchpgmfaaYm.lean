/- Layer 13's law file: a forest that is played. -/
import Derived.Test.YtekahmfchpgmfaaYk
import Derived.Deep.WholeRow
namespace Go.Proofs.Ytekahmfchpgmfaa
open Go.RowKit
set_option maxRecDepth 100000

theorem infoOpB : (Try.prog.info? 68).map (·.size) = some 19 := by kernel_rfl
theorem opbL_one (o : OpB) : ∀ u ∈ opbL o, u.oneCell' = true := by
  intro u hu
  simp only [opbL, List.mem_cons] at hu
  rcases hu with rfl | rfl | rfl | hu
  · rfl
  · rfl
  · rfl
  · exact bubL_one ⟨0, o.mask, 0, 0⟩ u (by simp [bubL]; exact .inr (.inl (by simpa using hu)))
theorem all_one {L : List Value} (h : ∀ u ∈ L, u.oneCell' = true) : L.toArray.all (·.oneCell') = true := by
  rw [List.all_toArray, List.all_eq_true]; exact h
section
variable {w : World} {fb : Nat} {v d : Value} {bs : List Bub}
theorem Pair.start {W : World} (h : Own w fb v [] W) : Pair w fb v (.slice none 0 0) [] [] W :=
  ⟨h, ⟨⟨rfl, .inl ⟨rfl, rfl⟩⟩, ⟨by simp, by simp, by simp⟩⟩, fun g hg => by simp [Value.ownBlock] at hg, fun g hg => by simp [Value.ownBlock] at hg⟩
set_option maxHeartbeats 16000000 in
theorem run13_any (P : List Bub → Prop) (hP0 : P []) (hPs : ∀ bs o, InvB bs → P bs → P (doB bs o)) (A : Option Addr) (l : List OpB) (cap : Nat) (w : World) (hml : l.length ≤ maxLen) (hI : OpsB w A l) :
    Calls Try.prog 8 #[.slice A l.length cap] w fun e w' => ∃ fb v bs, e = .returned (.tuple #[.pointer (some ⟨fb, 0, none⟩), .int .i64 (bs : List Bub).length]) ∧ Own w fb v bs w' ∧ P bs := by
  have HN := Lib.hid (own_new w w (Below.refl _ _))
  have HI := Lib.hid hI; have HPS := Lib.hid hPs; have HP0 := Lib.hid hP0
  obtain ⟨N, hN⟩ : ∃ N, l.length = N := ⟨_, rfl⟩
  have HLN := Lib.hid hN
  rw [hN] at hml ⊢
  have hml2 : N ≤ 9223372036854775807 := hml
  clear hI hPs hP0 hN hml
  go_enter Try.func8, Try.ntmps8
  go_wp2_with fail
  refine HN.out.mono ?_
  rintro e w1 ⟨rfl, h1⟩
  dsimp only
  generalize hfb : w.heap.size = fb at h1 ⊢
  have HP1 := Lib.hid (Pair.start h1)
  clear h1 HN hfb
  go_wp2_with fail
  go_loopw [5, 11] (fun dv iv wr => ∃ (k : Nat) (v : Value) (bs : List Bub), iv = .int .i64 k ∧ k ≤ N ∧ Pair w fb v dv bs bs wr ∧ P bs) (fun _ iv _ => N - (intOf iv).toNat)
  case atStart => exact ⟨0, _, [], rfl, Nat.zero_le _, HP1.out, HP0.out⟩
  case round =>
    obtain ⟨k, v, bs, rfl, hk, hp, hpp⟩ := hrel
    have HP := Lib.hid hp; have HPP := Lib.hid hpp
    clear hp hpp HP1
    by_cases hlt : k < N
    · obtain ⟨o, ho⟩ : ∃ o, l[k]? = some o := ⟨_, List.getElem?_eq_getElem (by have := HLN.out; omega)⟩
      obtain ⟨bb, off, rfl, -, hr⟩ := (HI.out.below HP.out.own.below) k o ho
      have HR := Lib.hid hr
      have hO19 := opbL_len o
      have HIO := Lib.hid (infoOpB.trans (congrArg some hO19.symm))
      have hst := run_storeCells_new (P := Try.prog) wr 68 #[.int .u64 0, .int .i64 0, .int .i64 0, .int .u64 0, .int .u64 0, .int .u64 0, .int .u64 0, .int .u64 0, .int .u64 0, .int .u64 0, .int .u64 0, .int .u64 0, .int .u64 0, .int .u64 0, .int .u64 0, .int .u64 0, .int .u64 0, .int .u64 0, .int .u64 0] (opbL o).toArray (infoOpB.trans (congrArg some (by rw [List.size_toArray, hO19]))) (Eq.trans (show _ = 19 from rfl) (by rw [List.size_toArray, hO19])) (all_one (opbL_one o))
      have hal : Below wr.heap.size wr (wr.alloc (.cells (opbL o).toArray 68)) := (Below.refl _ _).alloc (Nat.le_refl _) _
      have HP2 := Lib.hid (HP.out.on hal)
      have HDO := Lib.hid (fun W (h : Pair w fb v u5 bs bs W) => do13_any o h)
      have HYR : Hid ((wr.alloc (.cells (opbL o).toArray 68)).rangeAt wr.heap.size 0 (opbL o)) := Lib.hid (blk_rangeB (Blk.new wr _ _))
      have HPN := Lib.hid (HPS.out bs o HP.out.own.tab.inv HPP.out)
      have k0 : (0 : Int) ≤ (k : Int) := by omega
      have k1 : (k : Int) < (N : Int) := by omega
      clear hr hal ho HP
      generalize opbL o = O at *
      by_cases h40 : k < 40
      · have t40 : decide ((k : Int) < 40) = true := by simp; omega
        have t41 : (k : Int) < 40 := by omega
        go_wp2_with (first
          | (with_reducible (show wpList _ _ _ _ _ _); refine wpList_load_mid rfl 68 (.tmp 14) rfl bb (off + k * 19) rfl O _ HR.out Try.underlying68 rfl HIO.out ?_)
          | (with_reducible (show wpList _ _ _ _ _ _); refine wpList_load_mid rfl 68 (.tmp 7) rfl wr.heap.size 0 rfl O _ HYR.out Try.underlying68 rfl HIO.out ?_))
        refine (HDO.out _ HP2.out).mono ?_
        rintro e w4 ⟨v4, d4, rfl, h4, -⟩
        dsimp only
        have HP4 := Lib.hid h4
        clear h4 HDO HP2 hst hO19 HYR
        go_wp2_with fail
        go_roundw
        case rel => exact ⟨k + 1, v4, doB bs o, by go_num, by omega, HP4.out, HPN.out⟩
        case measure => simp [intOf]; omega
      · have t40 : decide ((k : Int) < 40) = false := by simp; omega
        have t41 : ¬ (k : Int) < 40 := by omega
        go_wp2_with (with_reducible (show wpList _ _ _ _ _ _); refine wpList_load_mid rfl 68 (.tmp 14) rfl bb (off + k * 19) rfl O _ HR.out Try.underlying68 rfl HIO.out ?_)
        go_roundw
        case rel => exact ⟨k + 1, v, bs, by go_num, by omega, HP2.out, HPP.out⟩
        case measure => simp [intOf]; omega
    · have hkn : k = N := by omega
      have k1 : ¬ (k : Int) < (N : Int) := by omega
      have k2 : decide (k < N) = false := by simpa using hlt
      have HL := Lib.hid (flen_any HP.out.own.tab)
      clear hkn
      go_wp2_with (go_at_call 26; (with_reducible refine HL.out.mono ?_); rintro e wq ⟨rfl, rfl⟩)
      go_ret2
      exact ⟨fb, v, bs, rfl, HP.out.own, HPP.out⟩
end
end Go.Proofs.Ytekahmfchpgmfaa
