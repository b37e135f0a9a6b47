/- The walk of CpusetNext: the law answers true at every set and every number. -/
import Derived.Test.YtaljhmpaccldcaaDoorLi
namespace Go.Proofs.YtaljhmpaccldcaaDoor
open Go.RowKit

theorem first_head (p : Nat → Bool) : firstO p = (upto p 1024).head? := by unfold firstO upto; rw [List.head?_filter]
theorem first_from (p : Nat → Bool) (f : Int) : firstO (fromP p f) = (upto p 1024).find? (fun n : Nat => decide (f ≤ (n : Int))) := by
  unfold firstO upto fromP; rw [List.find?_filter]; congr 1; funext a; simp
/-- The first of the first j that is f or more. -/
def seen (L : List Nat) (f : Int) (j : Nat) : Option Nat := (L.take j).find? (fun n : Nat => decide (f ≤ (n : Int)))
theorem seen_next (L : List Nat) (f : Int) (j : Nat) (h : j < L.length) : seen L f (j + 1) = (seen L f j).or (if f ≤ (L[j] : Int) then some L[j] else none) := by
  unfold seen
  rw [List.take_add_one, List.find?_append, List.getElem?_eq_getElem h]
  congr 1
  simp [List.find?_cons]
  split <;> simp_all

theorem ints_cases {w : World} {ad : Option Addr} {n cap : Nat} {z : Nat → Int} (h : IntsAt w (.slice ad n cap) z n) : n = 0 ∨ ∃ b off, ad = some ⟨b, off, none⟩ ∧ b < w.heap.size ∧ ∀ i, i < n → w.cell? ⟨b, off + i, none⟩ = some (.int .i64 (z i)) := by
  obtain ⟨a, c, e, h⟩ := h
  injection e with e1 _ _
  subst e1
  exact h
set_option maxRecDepth 100000 in
set_option maxHeartbeats 1600000 in
theorem next_law (p : Nat → Bool) (f : Int) (w : World) (hT : Tabs w) :
    Calls Tryd.prog 5 #[.agg (cellsOf p), .int .i64 f] w fun e w' => e = .returned (.bool true) ∧ Below w.heap.size w w' := by
  have hb0 : Below w.heap.size w (w.alloc (.cells (cellsOf p) 25)) := (Below.refl _ _).alloc (Nat.le_refl _) _
  have TT := Lib.hid (hT.on hb0); have HB0 := Lib.hid hb0; clear hb0 hT
  have G0 := Lib.hid (heap_alloc_new w (.cells (cellsOf p) 25))
  go_enter Tryd.func5, Tryd.ntmps5
  go_wp2_with (with_reducible (show wpList _ _ _ _ _ _); refine ld_set rfl _ rfl _ rfl _ G0.out ?_)
  refine (refList_any p _).mono ?_
  rintro e w1 ⟨v, rfl, R1⟩
  have hsz : w.heap.size < w1.heap.size := Nat.lt_of_lt_of_le (by simp) R1.lt
  have G1 := Lib.hid ((R1.bel.block _ (by simp)).trans G0.out)
  have T1 := Lib.hid (TT.out.on R1.bel)
  have B1 := Lib.hid (HB0.out.trans (R1.bel.mono (by simp)))
  have I1 := ints_of_own R1.own
  have hH := first_head p
  have hF := first_from p f
  have hC := upto_cnt p 1024
  have hLen := upto_len p 1024
  clear TT HB0 G0 R1
  have RL := fun W hW => list_any p W hW
  generalize upto p 1024 = L at *
  generalize hbb : w.heap.size = b at *
  have HBB := Lib.hid hbb; clear hbb
  have I1' := I1
  obtain ⟨ad, cap, rfl, -⟩ := I1
  have hcells := ints_cases I1'
  have II := Lib.hid I1'; clear I1'
  have hln : ∀ W, Calls Tryd.prog 18 #[.agg (cellsOf p)] W fun e w' => e = .returned (.int .i64 L.length) ∧ Below W.heap.size W w' := fun W => by
    have := len_any p W; rw [← hC] at this; exact this
  have HL := Lib.hid hln
  have HH := Lib.hid hH; have HF := Lib.hid hF; have HC := Lib.hid hC; have HR := Lib.hid RL; have HCL := Lib.hid hcells
  clear hH hF hC RL hcells hln
  go_wp2
  go_loop [5, 6, 20] (fun a o i => ∃ j : Nat, j ≤ L.length ∧ i = .int .i64 j ∧ a = .int .i64 ((seen L f j).getD 0 : Nat) ∧ o = .bool (seen L f j).isSome) (fun _ _ i => L.length - (intOf i).toNat)
  case atStart => exact ⟨0, by omega, rfl, rfl, rfl⟩
  case round =>
    obtain ⟨j, hj, rfl, ha, ho⟩ := hrel
    by_cases hlt : j < L.length
    · have hsn := seen_next L f j hlt
      have hcl := HCL.out
      rcases hcl with hcl | ⟨bl, off, rfl, hbl, hcl⟩
      · omega
      have c0 := hcl j hlt
      rw [List.getD_eq_getElem?_getD, List.getElem?_eq_getElem hlt, Option.getD_some] at c0
      generalize L[j] = n at *
      have HCL2 := Lib.hid hcl; clear hcl
      generalize seen L f j = o at *
      rcases o with _ | m
      · obtain rfl : u5 = .int .i64 0 := ha
        obtain rfl : u6 = .bool false := ho
        by_cases hf : f ≤ (n : Int)
        · have d1 : decide (f ≤ (n : Int)) = true := by simpa using hf
          rw [if_pos hf] at hsn
          have HS := Lib.hid hsn; clear hsn hf
          go_wp2
          go_round
          case rel => exact ⟨j + 1, by omega, by go_num, by rw [HS.out] <;> rfl, by rw [HS.out] <;> rfl⟩
          case measure => simp [intOf]; omega
        · have d1 : decide (f ≤ (n : Int)) = false := by simp; omega
          rw [if_neg hf] at hsn
          have HS := Lib.hid hsn; clear hsn hf
          go_wp2
          go_round
          case rel => exact ⟨j + 1, by omega, by go_num, by rw [HS.out] <;> rfl, by rw [HS.out] <;> rfl⟩
          case measure => simp [intOf]; omega
      · obtain rfl : u5 = .int .i64 m := ha
        obtain rfl : u6 = .bool true := ho
        rw [Option.some_or] at hsn
        have HS := Lib.hid hsn; clear hsn
        by_cases hf : f ≤ (n : Int)
        · have d1 : decide (f ≤ (n : Int)) = true := by simpa using hf
          clear hf
          go_wp2
          go_round
          case rel => exact ⟨j + 1, by omega, by go_num, by rw [HS.out] <;> rfl, by rw [HS.out] <;> rfl⟩
          case measure => simp [intOf]; omega
        · have d1 : decide (f ≤ (n : Int)) = false := by simp; omega
          clear hf
          go_wp2
          go_round
          case rel => exact ⟨j + 1, by omega, by go_num, by rw [HS.out] <;> rfl, by rw [HS.out] <;> rfl⟩
          case measure => simp [intOf]; omega
    · obtain rfl : j = L.length := by omega
      have hse : seen L f L.length = firstO (fromP p f) := by unfold seen; rw [List.take_length]; exact HF.out.symm
      have hnx := next_any p f
      rw [← hse] at hnx
      have hfo := first_any p
      rw [HH.out] at hfo
      have HN := Lib.hid hnx; have HFO := Lib.hid hfo; clear hnx hfo hse
      generalize seen L f L.length = o at *
      have ho2 : u6 = .bool o.isSome := ho
      subst ha ho2
      clear ho
      go_wp2_with (with_reducible (show wpList _ _ _ _ _ _); refine ld_set rfl _ rfl _ rfl _ G1.out ?_)
      refine (HN.out _ T1.out).mono ?_
      unfold optV
      rintro e w2 ⟨rfl, h2⟩
      have G2 := Lib.hid ((h2.block _ hsz).trans G1.out)
      have T2 := Lib.hid (T1.out.on h2)
      have B2 := Lib.hid (B1.out.trans (h2.mono (by omega)))
      have hsz2 := Nat.lt_of_lt_of_le hsz h2.size
      go_wp2_with (with_reducible (show wpList _ _ _ _ _ _); refine ld_set rfl _ rfl _ rfl _ G2.out ?_)
      refine (HR.out _ T2.out).mono ?_
      rintro e w3 ⟨v3, rfl, R3⟩
      have G3 := Lib.hid ((R3.bel.block _ hsz2).trans G2.out)
      have T3 := Lib.hid (T2.out.on R3.bel)
      have B3 := Lib.hid (B2.out.trans (R3.bel.mono (by omega)))
      have hsz3 := Nat.lt_of_lt_of_le hsz2 R3.lt
      have i3 := ints_of_own R3.own
      have i1 := Lib.hid ((II.out.below h2).below R3.bel)
      clear R3
      have i3' := i3
      obtain ⟨ad3, cap3, rfl, -⟩ := i3
      go_wp2_with (with_reducible (show wpList _ _ _ _ _ _); refine ld_set rfl _ rfl _ rfl _ G3.out ?_)
      refine (HFO.out _ T3.out).mono ?_
      unfold optV
      rintro e w4 ⟨rfl, h4⟩
      have G4 := Lib.hid ((h4.block _ hsz3).trans G3.out)
      have T4 := Lib.hid (T3.out.on h4)
      have B4 := Lib.hid (B3.out.trans (h4.mono (by omega)))
      have hsz4 := Nat.lt_of_lt_of_le hsz3 h4.size
      have J1 := ints_cases (i1.out.below h4)
      have J3 := ints_cases (i3'.below h4)
      clear i1 i3' HCL II HF HH HN HFO HR
      rcases L with _ | ⟨x, L⟩
      · clear J1 J3
        go_wp2_with (first | (with_reducible (show wpList _ _ _ _ _ _); refine ld_set rfl _ rfl _ rfl _ G4.out ?_) | (go_at_call 18; refine (HL.out _).mono ?_; rintro e w5 ⟨rfl, h5⟩))
        go_loop [93] (fun i => i = .int .i64 0) (fun _ => 0)
        case atStart => rfl
        case round =>
          subst hrel
          go_wp2_with (go_at_call 16; refine (lives_any _ (T4.out.on h5)).mono ?_; rintro e w6 ⟨rfl, h6⟩)
          go_ret
          exact ⟨rfl, by rw [HBB.out]; exact (B4.out.trans (h5.mono (by omega))).trans (h6.mono (by have := h5.size; omega))⟩
      · have hN : (x :: L).length = L.length + 1 := rfl
        rcases J3 with hc3 | ⟨b3, off3, rfl, hb3, hc3⟩
        · simp at hc3
        rcases J1 with hcl | ⟨bl, off, rfl, hbl, hcl⟩
        · simp at hcl
        have c0 : w4.cell? ⟨bl, off, none⟩ = some (.int .i64 x) := by have h0 := hcl 0 (by simp); rw [Nat.add_zero] at h0; exact h0
        have H3 := Lib.hid hc3; have H1 := Lib.hid hcl; clear hc3 hcl
        generalize (x :: L).length = n at *
        have hlp : decide ((0 : Int) < (n : Int)) = true := by simp; omega
        go_wp2_with (first | (with_reducible (show wpList _ _ _ _ _ _); refine ld_set rfl _ rfl _ rfl _ G4.out ?_) | (go_at_call 18; refine (HL.out _).mono ?_; rintro e w5 ⟨rfl, h5⟩))
        go_loopw [93] (fun i wr => ∃ k : Nat, k ≤ n ∧ i = .int .i64 k ∧ Below w5.heap.size w5 wr) (fun i _ => n - (intOf i).toNat)
        case atStart => exact ⟨0, by omega, rfl, Below.refl _ _⟩
        case round =>
          obtain ⟨k, hk, rfl, hb⟩ := hrel
          have h5b := h5.trans (hb.mono h5.size)
          by_cases hlt : k < n
          · have e1 : wr.cell? ⟨bl, off + k, none⟩ = some (.int .i64 ((x :: L).getD k 0 : Nat)) := (h5b.cell (p := ⟨bl, off + k, none⟩) hbl).trans (H1.out k hlt)
            have e3 : wr.cell? ⟨b3, off3 + k, none⟩ = some (.int .i64 ((x :: L).getD k 0 : Nat)) := (h5b.cell (p := ⟨b3, off3 + k, none⟩) hb3).trans (H3.out k hlt)
            generalize (x :: L).getD k 0 = m at e1 e3
            go_wp2
            go_region
            go_wp2
            go_roundw
            case rel => exact ⟨k + 1, by omega, by go_num, hb.trans (Below.refl _ _).drew⟩
            case measure => simp [intOf]; omega
          · obtain rfl : k = n := by omega
            go_wp2_with (go_at_call 16; refine (lives_any _ (T4.out.on h5b)).mono ?_; rintro e w6 ⟨rfl, h6⟩)
            go_ret
            exact ⟨rfl, by rw [HBB.out]; exact (B4.out.trans (h5b.mono (by omega))).trans (h6.mono (by have := h5b.size; omega))⟩
end Go.Proofs.YtaljhmpaccldcaaDoor
