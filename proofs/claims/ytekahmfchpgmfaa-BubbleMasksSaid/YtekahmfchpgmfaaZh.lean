/- A forest's Mask, Free, Get (layer 13). -/
import Derived.Test.YtekahmfchpgmfaaZe
namespace Go.Proofs.Ytekahmfchpgmfaa
open Go.RowKit
set_option maxRecDepth 100000

theorem MineN.contains_any {B : Nat} {v : Value} {L : List Int} {w : World} (h : MineN B v L w) (hl : L.length ≤ 1000) (x : Int) :
    Calls Try.prog 66 #[v, .int .i64 x] w fun e w' => e = .returned (.bool (L.contains x)) ∧ w' = w := by
  obtain ⟨A, cap, rfl, hn⟩ := h.nums
  cases L with
  | nil => exact Try.slices_Contains_int_empty A cap x w
  | cons y r =>
    obtain ⟨b, off, rfl, -, -⟩ := hn 0 y rfl
    have := Try.slices_Contains_int b off (y :: r).length cap (y :: r) x w (Nat.le_refl _) (by omega) (fun j hj => by
      obtain ⟨b', off', e, -, hc⟩ := hn j _ (List.getElem?_eq_getElem hj)
      cases e
      rw [hc, List.getD_eq_getElem?_getD, List.getElem?_eq_getElem hj]; rfl)
    rwa [List.take_length] at this
section
variable {fb : Nat} {v : Value} {bs : List Bub} {w w' : World}
/-- What holds of each world above. -/
theorem ForC.up (h : ForC fb v bs w) : ∀ W, Below w.heap.size w W → ForC fb v bs W := fun _ hb => h.below hb
set_option maxHeartbeats 2000000 in
/-- The closure of Free: is it other than burst? -/
theorem free1_any {i : Nat} {x : Bub} (hx : bs[i]? = some x) (h : ForC fb v bs w) {q : Nat} (hq : w.cell? ⟨q, 0, none⟩ = some (.pointer (some ⟨fb, 0, none⟩))) :
    Calls Try.prog 60 #[.int .i64 i, .pointer (some ⟨q, 0, none⟩)] w fun e w' => e = .returned (.bool (!(x.state == 4))) ∧ Below w.heap.size w w' := by
  have hal : Below w.heap.size w (w.alloc (.cells #[.int .i64 4] 3)) := (Below.refl _ _).alloc (Nat.le_refl _) _
  have HAL := Lib.hid hal
  have HI := Lib.hid (fis_any hx (h.below hal) w.heap.size 1 1 [4] rfl (st_in1 w 4) (by omega))
  have hz : ([4] : List Int).contains x.state = (x.state == 4) := by show _ = decide (x.state = 4); simp
  rw [hz] at HI
  clear hz h hx hal
  generalize (x.state == 4) = r at *
  go_enter Try.func60, Try.ntmps60
  go_wp2_with (go_at_call 53; (with_reducible refine HI.out.mono ?_); rintro e wq ⟨rfl, rfl⟩)
  go_ret
  exact ⟨rfl, HAL.out⟩
/-- The place of the first that isn't burst. -/
def firstNo (bs : List Bub) : List Int → Int → Int
  | [], _ => -1
  | y :: r, k => if (atB bs y).state == 4 then firstNo bs r (k + 1) else k
theorem firstNo_all (bs : List Bub) : ∀ (l : List Int) (k : Int), 0 ≤ k → decide (0 ≤ firstNo bs l k) = !(l.all fun y => (atB bs y).state == 4)
  | [], k, _ => by simp [firstNo]
  | y :: r, k, hk => by
    unfold firstNo
    cases hy : (atB bs y).state == 4 with
    | true => simp only [↓reduceIte, List.all_cons, hy, Bool.true_and]; exact firstNo_all bs r (k + 1) (by omega)
    | false => simp [hy, hk]
set_option maxHeartbeats 4000000 in
theorem idxfree_any {A : Option Addr} {cap : Nat} (L : List Int) (hl : L.length ≤ 1000) (hL : ∀ y ∈ L, inB bs y = true) (h : ForC fb v bs w) (hn : NumsIn w A L) {q : Nat} (hq : w.cell? ⟨q, 0, none⟩ = some (.pointer (some ⟨fb, 0, none⟩))) (hqw : q < w.heap.size) :
    Calls Try.prog 78 #[.slice A L.length cap, .func (.func 60) #[] #[.pointer (some ⟨q, 0, none⟩)]] w fun e w' => e = .returned (.int .i64 (firstNo bs L 0)) ∧ Below w.heap.size w w' := by
  have HF := Lib.hid h; have HN := Lib.hid hn; have HQ := Lib.hid hq; have HLL := Lib.hid hL
  clear h hn hq hL
  obtain ⟨R, hR⟩ : ∃ R, firstNo bs L 0 = R := ⟨_, rfl⟩
  have HR := Lib.hid hR
  rw [hR]
  clear hR
  go_enter Try.func78, Try.ntmps78
  go_wp2_with fail
  go_loopw [8] (fun iv wr => ∃ k : Nat, iv = .int .i64 k ∧ k ≤ L.length ∧ Below w.heap.size w wr ∧ firstNo bs (L.drop k) k = R) (fun iv _ => L.length - (intOf iv).toNat)
  case atStart => exact ⟨0, rfl, Nat.zero_le _, Below.refl _ _, by simpa using HR.out⟩
  case round =>
    obtain ⟨k, rfl, hk, hb, hr⟩ := hrel
    have HB := Lib.hid hb; have HRR := Lib.hid hr
    clear hr HR
    by_cases hlt : k < L.length
    · obtain ⟨y, hy⟩ : ∃ y, L[k]? = some y := ⟨_, List.getElem?_eq_getElem hlt⟩
      have hd : L.drop k = y :: L.drop (k + 1) := by
        rw [List.drop_eq_getElem_cons hlt]
        congr 1
        rw [List.getElem?_eq_getElem hlt] at hy; simpa using hy
      obtain ⟨i, x, rfl, hx⟩ := inB_nat (HLL.out y (List.mem_of_getElem? hy))
      have e := HRR.out
      rw [hd, firstNo, atB_of hx] at e
      obtain ⟨b, off, rfl, hbl, hc⟩ := HN.out.below hb k _ hy
      have HC := Lib.hid (free1_any hx (HF.out.below hb) ((hb.cell (p := ⟨q, 0, none⟩) hqw).trans HQ.out))
      have HE := Lib.hid e
      have k0 : (0 : Int) ≤ (k : Int) := by omega
      have k1 : (k : Int) < (L.length : Int) := by omega
      clear e hd hy hx HRR hbl hb
      generalize L.length = n at *
      cases hs : (x.state == 4) with
      | true =>
        rw [hs] at HC HE
        simp only [Bool.not_true] at HC
        clear hs
        go_wp2_with (go_at_call 60; (with_reducible refine HC.out.mono ?_); rintro e w3 ⟨rfl, h3⟩; have HB3 := Lib.hid (HB.out.trans (h3.mono HB.out.size)); clear h3)
        go_roundw
        case rel => exact ⟨k + 1, by go_num, by omega, HB3.out, by simpa using HE.out⟩
        case measure => simp [intOf]; omega
      | false =>
        rw [hs] at HC HE
        simp only [Bool.not_false] at HC
        clear hs
        go_wp2_with (go_at_call 60; (with_reducible refine HC.out.mono ?_); rintro e w3 ⟨rfl, h3⟩; have HB3 := Lib.hid (HB.out.trans (h3.mono HB.out.size)); clear h3)
        go_ret
        have e := HE.out
        simp only [Bool.false_eq_true, ↓reduceIte] at e
        exact ⟨by rw [e] <;> rfl, HB3.out⟩
    · obtain rfl : k = L.length := by omega
      have e := HRR.out
      rw [List.drop_length, firstNo] at e
      have HE := Lib.hid e
      clear e HRR
      generalize L.length = n at *
      have tk : ¬ (n : Int) < (n : Int) := by omega
      go_wp2_with fail
      go_ret
      exact ⟨by rw [← HE.out] <;> rfl, HB.out⟩
end
end Go.Proofs.Ytekahmfchpgmfaa
