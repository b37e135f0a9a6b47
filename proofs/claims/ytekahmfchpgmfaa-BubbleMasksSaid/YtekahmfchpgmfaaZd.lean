/- A forest's putAt, Seal, Place (layer 13). -/
import Derived.Test.YtekahmfchpgmfaaZc
namespace Go.Proofs.Ytekahmfchpgmfaa
open Go.RowKit
set_option maxRecDepth 100000

section
variable {fb : Nat} {v : Value} {bs : List Bub} {w w' : World}
/-- A cell of a bubble is turned. -/
theorem ForC.turn {g cap : Nat} (h : ForC fb (.slice (some ⟨g, 0, none⟩) bs.length cap) bs w) {i : Nat} {x y : Bub} (hx : bs[i]? = some x) (j : Nat) (u : Value) (hj : j < 19) (hy : (bubL x).set j u = bubL y) (hu : y.up = x.up) (h1 : 1 ≤ y.state) (h4 : y.state ≤ 4) :
    ForC fb (.slice (some ⟨g, 0, none⟩) bs.length cap) (bs.set i y) (w.setCell ⟨g, i * 19 + j, none⟩ u) ∧ But (OwnF fb (.slice (some ⟨g, 0, none⟩) bs.length cap)) w (w.setCell ⟨g, i * 19 + j, none⟩ u) := by
  have hn := h.nev (g := g) rfl
  have hr := row_turn h.row hx j u hj hy
  refine ⟨⟨h.own.far (Ne.symm hn) u, ?_, inv_set h.inv hx hu h1 h4⟩, (But.refl _ _).set _ _ (.inl (.inr rfl))⟩
  rw [List.length_set] at hr ⊢
  exact hr
/-- Where a bubble's cells lie: all is there, and free. -/
theorem ForC.spot (h : ForC fb v bs w) {i : Nat} {x : Bub} (hx : bs[i]? = some x) : ∃ g cap, v = .slice (some ⟨g, 0, none⟩) bs.length cap ∧ g ≠ fb ∧ w.rangeAt g (i * 19) (bubL x) ∧ ∀ j, w.frozen? ⟨g, j, none⟩ = false := by
  obtain ⟨g, cap, rfl, hr, -⟩ := row_at h.row hx
  exact ⟨g, cap, rfl, h.nev rfl, hr, fun j => h.row.frozenAt _⟩
set_option maxHeartbeats 4000000 in
theorem fput_any {i : Nat} {x : Bub} (home : Int) (hx : bs[i]? = some x) (h : ForC fb v bs w) :
    Calls Try.prog 55 #[.pointer (some ⟨fb, 0, none⟩), .int .i64 i, .int .i64 home] w fun e w' => e = .returned (.tuple #[]) ∧ ForC fb v (bs.set i { x with state := 3, home := home }) w' ∧ But (OwnF fb v) w w' := by
  obtain ⟨g, cap, rfl, hn, hr, hfz⟩ := h.spot hx
  have c0 := h.cell
  have y17 := hr 17 _ (bubL_17 x)
  have y18 := hr 18 _ (bubL_18 x)
  have f17 := hfz (i * 19 + 17)
  have f18 := hfz (i * 19 + 18)
  have i0 : (0 : Int) ≤ (i : Int) := by omega
  have i1 : (i : Int) < (bs.length : Int) := by have := (List.getElem?_eq_some_iff.1 hx).1; omega
  have hK := h.below ((Below.refl _ _).drew)
  obtain ⟨t1, b1⟩ := hK.turn hx 17 (.int .i64 3) (by omega) (bubL_state x 3) rfl (by simp) (by simp)
  have hx2 : (bs.set i { x with state := 3 })[i]? = some { x with state := 3 } := by
    rw [List.getElem?_set_self (List.getElem?_eq_some_iff.1 hx).1]
  have t1' := t1
  rw [show bs.length = (bs.set i { x with state := 3 }).length by rw [List.length_set]] at t1'
  obtain ⟨t2, b2⟩ := t1'.turn hx2 18 (.int .i64 home) (by omega) (bubL_home _ home) rfl (by simp) (by simp)
  rw [List.length_set, List.set_set] at t2
  have HT := Lib.hid t2
  have HB : Hid (But (OwnF fb (.slice (some ⟨g, 0, none⟩) bs.length cap)) w ((w.drew.setCell ⟨g, i * 19 + 17, none⟩ (.int .i64 3)).setCell ⟨g, i * 19 + 18, none⟩ (.int .i64 home))) := (((But.refl _ w).drew).set _ _ (.inl (.inr rfl))).set _ _ (.inl (.inr rfl))
  clear t1 t1' t2 b1 b2 hK hx hx2 h hr hfz
  generalize x.state = s at *
  generalize x.home = o at *
  generalize bs.length = n at *
  go_enter Try.func55, Try.ntmps55
  go_region
  go_wp2_with fail
  go_end0
  exact ⟨rfl, HT.out, HB.out⟩
def sealE (bs : List Bub) (b : Int) : Int := checkE bs b [1]
def sealT (bs : List Bub) (b : Int) : List Bub := if sealE bs b = 0 then bs.set b.toNat { atB bs b with state := 2 } else bs
theorem checkE_0 {bs : List Bub} {b : Int} {zs : List Int} (h : checkE bs b zs = 0) : ∃ (k : Nat) (x : Bub), b = k ∧ bs[k]? = some x ∧ zs.contains x.state = true := by
  unfold checkE at h
  cases hb : inB bs b with
  | false => rw [hb] at h; simp at h
  | true =>
    obtain ⟨k, x, rfl, hx⟩ := inB_nat hb
    refine ⟨k, x, rfl, hx, ?_⟩
    rw [hb, atB_of hx] at h
    cases hz : zs.contains x.state with
    | true => rfl
    | false => rw [hz] at h; simp at h
set_option maxHeartbeats 4000000 in
theorem fseal_any (b : Int) (h : ForC fb v bs w) : Calls Try.prog 34 #[.pointer (some ⟨fb, 0, none⟩), .int .i64 b] w fun e w' => e = .returned (.int .i64 (sealE bs b)) ∧ ForC fb v (sealT bs b) w' ∧ But (OwnF fb v) w w' := by
  have hal : Below w.heap.size w (w.alloc (.cells #[.int .i64 1] 3)) := (Below.refl _ _).alloc (Nat.le_refl _) _
  have hF := h.below hal
  have HF := Lib.hid hF
  have HAL := Lib.hid hal
  have HC := Lib.hid (fcheck_any b hF w.heap.size 1 1 [1] rfl (st_in1 w 1) (by omega))
  unfold sealT sealE
  by_cases h0 : checkE bs b [1] = 0
  · obtain ⟨i, x, rfl, hx, -⟩ := checkE_0 h0
    rw [h0] at HC ⊢
    rw [if_pos rfl, atB_of hx, show (i : Int).toNat = i by omega]
    obtain ⟨g, cap, rfl, hn, hr, hfz⟩ := hF.spot hx
    have c0 := hF.cell
    have y17 := hr 17 _ (bubL_17 x)
    have f17 := hfz (i * 19 + 17)
    have i0 : (0 : Int) ≤ (i : Int) := by omega
    have i1 : (i : Int) < (bs.length : Int) := by have := (List.getElem?_eq_some_iff.1 hx).1; omega
    obtain ⟨t1, b1⟩ := hF.turn hx 17 (.int .i64 2) (by omega) (bubL_state x 2) rfl (by simp) (by simp)
    have HT := Lib.hid t1
    have HB : Hid (But (OwnF fb (.slice (some ⟨g, 0, none⟩) bs.length cap)) w ((w.alloc (.cells #[.int .i64 1] 3)).setCell ⟨g, i * 19 + 17, none⟩ (.int .i64 2))) := Lib.hid ((But.of_below hal).trans b1)
    clear t1 b1 hF h hr hfz hal HF HAL h0 hx
    generalize x.state = s at *
    generalize bs.length = n at *
    go_enter Try.func34, Try.ntmps34
    go_wp2_with (go_at_call 54; (with_reducible refine HC.out.mono ?_); rintro e wq ⟨rfl, rfl⟩)
    go_ret
    exact ⟨rfl, HT.out, HB.out⟩
  · rw [if_neg h0]
    have hne : (checkE bs b [1] != 0) = true := by simpa using h0
    clear h0 h hF hal
    generalize checkE bs b [1] = r at *
    go_enter Try.func34, Try.ntmps34
    go_wp2_with (go_at_call 54; (with_reducible refine HC.out.mono ?_); rintro e wq ⟨rfl, rfl⟩)
    go_ret
    exact ⟨rfl, HF.out, But.of_below HAL.out⟩
def placeOk (bs : List Bub) (b : Int) : Bool := (atB bs b).up == -1 || (atB bs (atB bs b).up).state == 4
def placeE (bs : List Bub) (b : Int) : Int := if checkE bs b [2, 3] = 0 then (if placeOk bs b then 0 else 5) else checkE bs b [2, 3]
def placeT (bs : List Bub) (b home : Int) : List Bub := if placeE bs b = 0 then bs.set b.toNat { atB bs b with state := 3, home := home } else bs
set_option maxHeartbeats 4000000 in
theorem fplace_any (b home : Int) (h : ForC fb v bs w) : Calls Try.prog 35 #[.pointer (some ⟨fb, 0, none⟩), .int .i64 b, .int .i64 home] w fun e w' => e = .returned (.int .i64 (placeE bs b)) ∧ ForC fb v (placeT bs b home) w' ∧ But (OwnF fb v) w w' := by
  have hal : Below w.heap.size w (w.alloc (.cells #[.int .i64 2, .int .i64 3] 3)) := (Below.refl _ _).alloc (Nat.le_refl _) _
  have hF := h.below hal
  have HF := Lib.hid hF
  have HAL := Lib.hid hal
  have HC := Lib.hid (fcheck_any b hF w.heap.size 2 2 [2, 3] rfl (st_in2 w 2 3) (by omega))
  unfold placeT placeE
  by_cases h0 : checkE bs b [2, 3] = 0
  · obtain ⟨i, x, rfl, hx, -⟩ := checkE_0 h0
    rw [h0] at HC ⊢
    rw [if_pos rfl, show (i : Int).toNat = i by omega]
    unfold placeOk
    rw [atB_of hx]
    obtain ⟨g, cap, rfl, hn, hr, -⟩ := hF.spot hx
    have c0 := hF.cell
    have y0 := hr 0 _ (bubL_0 x)
    rw [Nat.add_zero] at y0
    have i0 : (0 : Int) ≤ (i : Int) := by omega
    have i1 : (i : Int) < (bs.length : Int) := by have := (List.getElem?_eq_some_iff.1 hx).1; omega
    have hu := hF.inv.up i x hx
    by_cases hup : x.up = -1
    · have tu : (x.up == -1) = true := by simpa using hup
      have tn : (x.up != -1) = false := by simp [hup]
      rw [tu]
      simp only [Bool.true_or, ↓reduceIte]
      have HP := Lib.hid (fput_any home hx hF)
      clear h0 h hF hal hr hx hu tu hup
      generalize x.up = up at *
      generalize bs.length = n at *
      go_enter Try.func35, Try.ntmps35
      go_wp2_with (first
        | (go_at_call 54; (with_reducible refine HC.out.mono ?_); rintro e wq ⟨rfl, rfl⟩)
        | (go_at_call 55; (with_reducible refine HP.out.mono ?_); rintro e wq ⟨rfl, ht, hb⟩; have HT := Lib.hid ht; have HB := Lib.hid hb; clear ht hb))
      go_ret
      exact ⟨rfl, HT.out, (But.of_below HAL.out).trans HB.out⟩
    · have tu : (x.up == -1) = false := by simpa using hup
      have tn : (x.up != -1) = true := by simpa using hup
      rw [tu]
      obtain ⟨p, hp⟩ : ∃ p : Nat, x.up = p := ⟨x.up.toNat, by omega⟩
      obtain ⟨z, hz⟩ : ∃ z, bs[p]? = some z := ⟨_, List.getElem?_eq_getElem (by have := (List.getElem?_eq_some_iff.1 hx).1; omega)⟩
      rw [hp, atB_of hz]
      rw [hp] at y0 tn
      have hal2 : Below (w.alloc (.cells #[.int .i64 2, .int .i64 3] 3)).heap.size (w.alloc (.cells #[.int .i64 2, .int .i64 3] 3)) ((w.alloc (.cells #[.int .i64 2, .int .i64 3] 3)).alloc (.cells #[.int .i64 4] 3)) := (Below.refl _ _).alloc (Nat.le_refl _) _
      have hF2 := hF.below hal2
      have HF2 := Lib.hid hF2
      have HAL2 := Lib.hid (hal.trans (hal2.mono hal.size))
      have HI := Lib.hid (fis_any hz hF2 (w.alloc (.cells #[.int .i64 2, .int .i64 3] 3)).heap.size 1 1 [4] rfl (st_in1 _ 4) (by omega))
      have HP := Lib.hid (fput_any home hx hF2)
      have hz4 : ([4] : List Int).contains z.state = (z.state == 4) := by show _ = decide (z.state = 4); simp
      rw [hz4, show (w.alloc (.cells #[.int .i64 2, .int .i64 3] 3)).heap.size = w.heap.size + 1 by simp] at HI
      clear h0 h hF hal hr hx hu tu hup hal2 hF2 hz hz4 hp
      generalize bs.length = n at *
      cases h4 : (z.state == 4) with
      | true =>
        rw [h4] at HI
        simp only [Bool.false_or, ↓reduceIte]
        clear h4
        go_enter Try.func35, Try.ntmps35
        go_wp2_with (first
          | (go_at_call 54; (with_reducible refine HC.out.mono ?_); rintro e wq ⟨rfl, rfl⟩)
          | (go_at_call 53; (with_reducible refine HI.out.mono ?_); rintro e wq ⟨rfl, rfl⟩)
          | (go_at_call 55; (with_reducible refine HP.out.mono ?_); rintro e wq ⟨rfl, ht, hb⟩; have HT := Lib.hid ht; have HB := Lib.hid hb; clear ht hb))
        go_ret
        exact ⟨rfl, HT.out, (But.of_below HAL2.out).trans HB.out⟩
      | false =>
        rw [h4] at HI
        simp only [Bool.false_or, Bool.false_eq_true, ↓reduceIte]
        clear h4
        go_enter Try.func35, Try.ntmps35
        go_wp2_with (first
          | (go_at_call 54; (with_reducible refine HC.out.mono ?_); rintro e wq ⟨rfl, rfl⟩)
          | (go_at_call 53; (with_reducible refine HI.out.mono ?_); rintro e wq ⟨rfl, rfl⟩))
        go_ret
        exact ⟨rfl, HF2.out, But.of_below HAL2.out⟩
  · rw [if_neg h0, if_neg h0]
    have hne : (checkE bs b [2, 3] != 0) = true := by simpa using h0
    clear h0 h hF hal
    generalize checkE bs b [2, 3] = r at *
    go_enter Try.func35, Try.ntmps35
    go_wp2_with (go_at_call 54; (with_reducible refine HC.out.mono ?_); rintro e wq ⟨rfl, rfl⟩)
    go_ret
    exact ⟨rfl, HF.out, But.of_below HAL.out⟩
end
end Go.Proofs.Ytekahmfchpgmfaa
