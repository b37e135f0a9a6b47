/- layer 35 (census): within, Sorted, Quantile. -/
import Derived.Test.YtnbiklkgkidlnaaCc
namespace Go.Proofs.Ytnbiklkgkidlnaa
open Go.RowKit Go.Shelf Go.Maps
set_option maxRecDepth 100000

set_option maxHeartbeats 400000 in
theorem within_any (n : Int) (w : World) : Calls Try.prog 16 #[.int .i64 n, .int .i64 0, .int .i64 100] w fun e w' => e = .returned (.int .i64 (capP n : Nat)) ∧ w = w' := by
  rw [capP_eq n]
  go_enter Try.func16, Try.ntmps16
  go_wp2_with fail
  go_ret
  exact ⟨rfl, rfl⟩
theorem values_any (A : Option Addr) (len cap : Nat) (w : World) :
    Calls Try.prog 15 #[.slice A len cap] w fun e w' => e = .returned (.func (.func 21) #[] #[.pointer (some ⟨w.heap.size, 0, none⟩)]) ∧ w' = w.alloc (.cells #[.slice A len cap] 26) :=
  callsIn_wide.1 (values_in Fence.wide 1 trivial rfl A len cap w)
set_option maxHeartbeats 1000000 in
theorem sorted_any (Bs : Nat) (A : Option Addr) (L : List Int) (len cap : Nat) (hlen : L.length = len) (hle : len ≤ 1000) (w : World)
    (hBs : Bs < w.heap.size) (hcs : w.cell? ⟨Bs, 0, none⟩ = some (.slice A len cap)) (hR : RowN w.heap.size w A L) :
    Calls Try.prog 14 #[.func (.func 21) #[] #[.pointer (some ⟨Bs, 0, none⟩)]] w fun e w' => ∃ v, e = .returned v ∧ OwnN w.heap.size w' v (sortL L) ∧ Below w.heap.size w w' := by
  have HAP : Hid (Calls Try.prog 22 #[.slice none 0 0, .func (.func 21) #[] #[.pointer (some ⟨Bs, 0, none⟩)]] w fun e W' => ∃ v, e = .returned v ∧ OwnN w.heap.size W' v L ∧ Below w.heap.size w W') :=
    callsIn_wide.1 (app_in Fence.wide 3 trivial trivial rfl (Nat.le_refl _) Bs A L len cap hlen (by omega) w hBs hcs hR)
  clear hR hcs
  have HCO : Hid (Calls Try.prog 19 #[.func (.func 21) #[] #[.pointer (some ⟨Bs, 0, none⟩)]] w fun e W' => ∃ v, e = .returned v ∧ OwnN w.heap.size W' v L ∧ Below w.heap.size w W') := by
    show Calls _ _ _ _ _
    go_enter Try.func19, Try.ntmps19
    go_wp2_with (go_at_call 22; (with_reducible refine HAP.out.mono ?_); rintro e w1 ⟨v, rfl, ho, hb⟩)
    go_ret
    exact ⟨_, rfl, ho, hb⟩
  clear HAP
  have HLE := Lib.hid hlen
  go_enter Try.func14, Try.ntmps14
  go_wp2_with (first
    | (go_at_call 19; (with_reducible refine HCO.out.mono ?_); rintro e w1 ⟨v, rfl, ho, hb⟩; have HSO := Lib.hid (sort_any ho (by omega)); have HO := Lib.hid ho; have HB := Lib.hid hb; clear ho hb)
    | (go_at_call 20; (with_reducible refine HSO.out.mono ?_); rintro e w2 ⟨rfl, ho2, hg2⟩; have HO2 := Lib.hid ho2; have HG2 := Lib.hid hg2; clear ho2 hg2))
  go_ret
  exact ⟨_, rfl, HO2.out, HB.out.grown HG2.out HB.out.size (fun k e => (HO.out.lt k e).1)⟩
def tupQ (l : List Int) (p : Int) : Value := if l.length = 0 then .tuple #[.int .i64 0, .bool false] else .tuple #[.int .i64 (qL l p), .bool true]
set_option maxHeartbeats 4000000 in
theorem quant_any (A : Option Addr) (l : List Int) (n cap : Nat) (hn : l.length = n) (hl : n ≤ 1000) (p : Int) (w : World) (h : RowN w.heap.size w A l) :
    Calls Try.prog 9 #[.slice A n cap, .int .i64 p] w fun e w' => e = .returned (tupQ l p) ∧ Below w.heap.size w w' := by
  have HR := Lib.hid h; have HN := Lib.hid hn
  clear h
  by_cases h0 : n = 0
  · subst h0
    have HT : Hid (tupQ l p = .tuple #[.int .i64 0, .bool false]) := by show _ = _; unfold tupQ; rw [if_pos HN.out]
    rw [HT.out]
    clear hn
    go_enter Try.func9, Try.ntmps9
    go_wp2_with fail
    go_ret2
    exact ⟨rfl, Below.refl _ _⟩
  · have HT : Hid (tupQ l p = .tuple #[.int .i64 (qL l p), .bool true]) := by show _ = _; unfold tupQ; rw [if_neg (by have := HN.out; omega)]
    rw [HT.out]
    have hQ := qL_at (l := l) p (by omega)
    have hQ' : (sortL l)[idxQ p n]? = some (qL l p) := by rw [← hQ]; subst hn; rw [List.getElem?_eq_getElem]
    have HQ := Lib.hid hQ'
    have hix := idxQ_lt p (n := n) (by omega)
    have hcp := capP_le p
    have hidx : ((capP p : Nat) : Int) * ((n : Int) - 1) / 100 = (idxQ p n : Nat) := by
      unfold idxQ
      rw [Int.natCast_ediv, Int.natCast_mul, Int.natCast_sub (by omega)]
      rfl
    have hm0 : 0 ≤ ((capP p : Nat) : Int) * ((n : Int) - 1) := Int.mul_nonneg (by omega) (by omega)
    have hm1 : ((capP p : Nat) : Int) * ((n : Int) - 1) ≤ 100 * 1000 := Int.mul_le_mul (by omega) (by omega) (by omega) (by omega)
    have HWI := Lib.hid (within_any p)
    clear hQ hQ' hn
    have hV : Below w.heap.size w (w.alloc (.cells #[.slice A n cap] 26)) := (Below.refl _ w).alloc (Nat.le_refl _) _
    have HSO : Hid (∀ X, X = w.alloc (.cells #[.slice A n cap] 26) → Calls Try.prog 14 #[.func (.func 21) #[] #[.pointer (some ⟨w.heap.size, 0, none⟩)]] X fun e w' => ∃ A' c, e = .returned (.slice A' n c) ∧ RowN w'.heap.size w' A' (sortL l) ∧ Below w.heap.size w w') := fun X hX => by
      subst hX
      refine (sorted_any w.heap.size A l n cap HN.out hl _ (by simp) ((Blk.new w 26 #[.slice A n cap]).cell 0) ((HR.out.below hV).mono hV.size)).mono ?_
      rintro e w' ⟨v, rfl, ho, hb⟩
      obtain ⟨A', c, rfl, -, hr⟩ := ownN_row ho
      exact ⟨A', c, by rw [sortL_len, HN.out], hr, hV.trans (hb.mono hV.size)⟩
    obtain ⟨c, hc⟩ : ∃ c, capP p = c := ⟨_, rfl⟩
    obtain ⟨j, hj⟩ : ∃ j, idxQ p n = j := ⟨_, rfl⟩
    rw [hc] at hidx hm0 hm1 hcp HWI
    rw [hj] at hidx hix HQ
    clear hc hj
    have hw1 : wrap64 ((n : Int) - 1) = (n : Int) - 1 := by unfold wrap64; omega
    have hw2 : wrap64 ((c : Int) * ((n : Int) - 1)) = (c : Int) * ((n : Int) - 1) := by generalize (c : Int) * ((n : Int) - 1) = M at *; unfold wrap64; omega
    have hq : ((c : Int) * ((n : Int) - 1)).tdiv 100 = (j : Int) := by rw [Int.tdiv_eq_ediv_of_nonneg hm0]; exact hidx
    have hw3 : wrap64 (j : Int) = (j : Int) := by unfold wrap64; omega
    have n0 : ¬ (n : Int) = 0 := by omega
    have j0 : ¬ (j : Int) < 0 := by omega
    have j1 : (j : Int) < (n : Int) := by omega
    go_enter Try.func9, Try.ntmps9
    go_wp2_with (first
      | (go_at_call 15; (with_reducible refine (values_any A n cap w).mono ?_); rintro e w1 ⟨rfl, rfl⟩)
      | (go_at_call 14; (with_reducible refine (HSO.out _ rfl).mono ?_); rintro e w1 ⟨A', c', rfl, hr, hb⟩; obtain ⟨b, o, rfl, hbn, hc'⟩ := hr j (by rw [sortL_len, HN.out]; omega); rw [show (sortL l)[j]'(by rw [sortL_len, HN.out]; omega) = qL l p from (List.getElem?_eq_some_iff.1 HQ.out).2] at hc'; have HB := Lib.hid hb; clear hb hr)
      | (go_at_call 16; (with_reducible refine (HWI.out _).mono ?_); rintro e w2 ⟨rfl, rfl⟩))
    go_ret2
    exact ⟨rfl, HB.out⟩
end Go.Proofs.Ytnbiklkgkidlnaa
