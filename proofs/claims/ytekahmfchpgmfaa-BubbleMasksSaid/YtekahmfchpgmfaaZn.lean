/- A forest's Burst (layer 13). -/
import Derived.Test.YtekahmfchpgmfaaZl
import Derived.Test.YtekahmfchpgmfaaZf
namespace Go.Proofs.Ytekahmfchpgmfaa
open Go.RowKit
set_option maxRecDepth 100000

/-- Those of l are placed at home, one behind the other. -/
def putOwn (bs : List Bub) (home : Int) (l : List Int) : List Bub := l.foldl (fun t y => t.set y.toNat { atB t y with state := 3, home := home }) bs
theorem putOwn_app (bs : List Bub) (home : Int) (l : List Int) (y : Int) : putOwn bs home (l ++ [y]) = (putOwn bs home l).set y.toNat { atB (putOwn bs home l) y with state := 3, home := home } := by
  unfold putOwn; rw [List.foldl_append]; rfl
theorem putOwn_len (home : Int) : ∀ (l : List Int) (bs : List Bub), (putOwn bs home l).length = bs.length
  | [], _ => rfl
  | y :: r, bs => by
    have := putOwn_len home r (bs.set y.toNat { atB bs y with state := 3, home := home })
    rw [List.length_set] at this
    exact this
theorem putOwn_out (home : Int) : ∀ (l : List Int) (bs : List Bub) (i : Nat), (∀ y ∈ l, y.toNat ≠ i) → (putOwn bs home l)[i]? = bs[i]?
  | [], _, _, _ => rfl
  | y :: r, bs, i, h => by
    have := putOwn_out home r (bs.set y.toNat { atB bs y with state := 3, home := home }) i fun z hz => h z (by simp [hz])
    rw [List.getElem?_set_ne (h y (by simp))] at this
    exact this
def burstE (bs : List Bub) (b : Int) : Int := checkE bs b [3]
def burstO (bs : List Bub) (b : Int) : List Int := selI (ownAsk bs b) bs.length
def burstL (bs : List Bub) (b : Int) : List Int := if burstE bs b = 0 then b :: burstO bs b else []
def burstT (bs : List Bub) (b : Int) : List Bub := if burstE bs b = 0 then (putOwn bs (atB bs b).home (burstO bs b)).set b.toNat { atB bs b with state := 4 } else bs
theorem burstO_in {bs : List Bub} (hI : InvB bs) {b : Int} {y : Int} (h : y ∈ burstO bs b) : ∃ (n : Nat) (x : Bub), y = n ∧ bs[n]? = some x ∧ b < (n : Int) := by
  obtain ⟨n, rfl, hn, ha⟩ := selI_mem h
  obtain ⟨x, hx⟩ : ∃ x, bs[n]? = some x := ⟨_, List.getElem?_eq_getElem hn⟩
  refine ⟨n, x, rfl, hx, ?_⟩
  unfold ownAsk at ha
  rw [atB_of hx, Bool.and_eq_true] at ha
  have : x.up = b := by simpa using ha.1
  have := (hI.up n x hx).2
  omega
theorem mine_but {X : Nat → Prop} {B : Nat} {u : Value} {L : List Int} {w w' : World} (h : MineN B u L w) (hb : But X w w') (hX : ∀ g, B ≤ g → ¬ X g) : MineN B u L w' :=
  row_but h hb fun g hg => hX g (h.lt g hg).1
theorem but_B {B : Nat} {w w' : World} (h : Below B w w') : But (fun k => B ≤ k) w w' := ⟨h.os, h.tape, h.output, h.size, fun k _ hk => h.block k (by omega)⟩
section
variable {fb : Nat} {v : Value} {bs : List Bub} {w w' : World}
theorem ForC.belowB {B : Nat} {W W' : World} (h : ForC fb v bs W) (hB : ∀ k, OwnF fb v k → k < B) (hb : Below B W W') : ForC fb v bs W' :=
  h.but (but_B hb) fun k hk q => by have := hB k hk; omega
set_option maxHeartbeats 1000000 in
theorem fcheck_nil (b : Int) (w : World) (sl : Value) : Calls Try.prog 54 #[.pointer none, .int .i64 b, sl] w fun e w' => e = .returned (.int .i64 3) ∧ w = w' := by
  have HH := Lib.hid (fhas_nil b w)
  rw [show inB [] b = false by unfold inB; simp] at HH
  go_enter Try.func54, Try.ntmps54
  go_wp2_with (go_at_call 27; (with_reducible refine HH.out.mono ?_); rintro e wq ⟨rfl, rfl⟩)
  go_ret
  exact ⟨rfl, rfl⟩
set_option maxHeartbeats 2000000 in
theorem fburst_nil (b : Int) (w : World) : Calls Try.prog 36 #[.pointer none, .int .i64 b] w fun e w' => e = .returned (.tuple #[.slice none 0 0, .int .i64 3]) ∧ Below w.heap.size w w' := by
  have HC := Lib.hid (fcheck_nil b)
  go_enter Try.func36, Try.ntmps36
  go_wp2_with (go_at_call 54; (with_reducible refine (HC.out _ _).mono ?_); rintro e wq ⟨rfl, rfl⟩)
  go_ret2
  exact ⟨rfl, (((Below.refl _ _).alloc (Nat.le_refl _) _).alloc (by simp) _).alloc (by simp; omega) _⟩
abbrev BurstP (fb : Nat) (v : Value) (bs : List Bub) (b : Int) (w : World) : Ending → World → Prop := fun e w' => ∃ u, e = .returned (.tuple #[u, .int .i64 (burstE bs b)]) ∧ MineN w.heap.size u (burstL bs b) w' ∧ ForC fb v (burstT bs b) w' ∧ But (OwnF fb v) w w'
/-- The boxes that Burst makes of its arguments, and the states it asks for. -/
def boxes (fb : Nat) (b : Int) (w : World) : World := ((w.alloc (.cells #[.pointer (some ⟨fb, 0, none⟩)] 23)).alloc (.cells #[.int .i64 b] 3)).alloc (.cells #[.int .i64 3] 3)
theorem boxes_below (fb : Nat) (b : Int) (w : World) : Below w.heap.size w (boxes fb b w) := (((Below.refl _ _).alloc (Nat.le_refl _) _).alloc (by simp) _).alloc (by simp; omega) _
set_option maxHeartbeats 8000000 in
theorem fburst_any (b : Int) (h : ForC fb v bs w) : Calls Try.prog 36 #[.pointer (some ⟨fb, 0, none⟩), .int .i64 b] w (BurstP fb v bs b w) := by
  have hbx := boxes_below fb b w
  have hF := h.below hbx
  have HBX := Lib.hid hbx; have HF := Lib.hid hF
  have HOW : Hid (∀ k, OwnF fb v k → k < w.heap.size) := Lib.hid fun k hk => h.lt hk
  have hp : (boxes fb b w).cell? ⟨w.heap.size, 0, none⟩ = some (.pointer (some ⟨fb, 0, none⟩)) := (((Blk.new w 23 #[.pointer (some ⟨fb, 0, none⟩)]).alloc _).alloc _).cell 0
  have hq : (boxes fb b w).cell? ⟨w.heap.size + 1, 0, none⟩ = some (.int .i64 b) := by
    have := ((Blk.new (w.alloc (.cells #[.pointer (some ⟨fb, 0, none⟩)] 23)) 3 #[.int .i64 b]).alloc (.cells #[.int .i64 3] 3)).cell 0
    simp only [World.alloc, Array.size_push] at this
    exact this
  have hsz : (boxes fb b w).heap.size = w.heap.size + 3 := by simp [boxes]
  have hst : StIn (boxes fb b w) (w.heap.size + 2) [3] := by
    have := st_in1 ((w.alloc (.cells #[.pointer (some ⟨fb, 0, none⟩)] 23)).alloc (.cells #[.int .i64 b] 3)) 3
    simpa [boxes, Nat.add_assoc] using this
  have HC := Lib.hid (fcheck_any b hF (w.heap.size + 2) 1 1 [3] rfl hst (by omega))
  have HP := Lib.hid hp; have HQ := Lib.hid hq; have HSZ := Lib.hid hsz
  unfold BurstP burstL burstT
  rw [show burstE bs b = checkE bs b [3] from rfl]
  by_cases h0 : checkE bs b [3] = 0
  · obtain ⟨i, x, rfl, hx, -⟩ := checkE_0 h0
    rw [h0] at HC ⊢
    rw [if_pos rfl, if_pos rfl, show (i : Int).toNat = i by omega, atB_of hx]
    have HT := Lib.hid (those_burst (i : Int) hF hp hq (by omega) (by omega))
    have HX := Lib.hid hx; have HINV := Lib.hid h.inv
    have HOE : Hid (selI (ownAsk bs i) bs.length = burstO bs i) := rfl
    rw [HOE.out] at HT
    have HOI : Hid (∀ y ∈ burstO bs (i : Int), ∃ (n : Nat) (x : Bub), y = n ∧ bs[n]? = some x ∧ (i : Int) < (n : Int)) := Lib.hid fun y hy => burstO_in h.inv hy
    have HOL : Hid ((burstO bs (i : Int)).length ≤ 32) := Lib.hid (Nat.le_trans (selI_len _ _) h.inv.len)
    have hbl' : (i : Int) < (bs.length : Int) := by have := (List.getElem?_eq_some_iff.1 hx).1; omega
    clear hbx hF hp hq hsz hst h0 hx h HOE
    generalize burstO bs (i : Int) = O at *
    generalize hxh : x.home = ho at *
    have HXH := Lib.hid hxh
    clear hxh
    go_enter Try.func36, Try.ntmps36
    go_upto_region 4 with (go_at_call 54; (refine HC.out.mono ?_); rintro e wq ⟨rfl, rfl⟩)
    have hp := HP.out; have hq := HQ.out
    go_wp2_with fail
    refine HT.out.mono ?_
    rintro e w4 ⟨u, rfl, hm, h4⟩
    dsimp only
    clear hp hq
    obtain ⟨A, cap, rfl, hn⟩ := hm.nums
    have HM4 : Hid (MineN w.heap.size (.slice A O.length cap) O w4) := Lib.hid (hm.wider (by have := HBX.out.size; omega))
    have HN4 := Lib.hid hn
    have HB4 : Hid (But (OwnF fb v) w w4) := Lib.hid (But.of_below (HBX.out.trans (h4.mono HBX.out.size)))
    have HF4 := Lib.hid (HF.out.below h4)
    have HP4 : Hid (w4.cell? ⟨w.heap.size, 0, none⟩ = some (.pointer (some ⟨fb, 0, none⟩))) := Lib.hid ((h4.cell (p := ⟨w.heap.size, 0, none⟩) (by have := HSZ.out; show w.heap.size < _; omega)).trans HP.out)
    have HQ4 : Hid (w4.cell? ⟨w.heap.size + 1, 0, none⟩ = some (.int .i64 i)) := Lib.hid ((h4.cell (p := ⟨w.heap.size + 1, 0, none⟩) (by have := HSZ.out; show w.heap.size + 1 < _; omega)).trans HQ.out)
    have HS4 : Hid (w.heap.size + 1 < w4.heap.size) := Lib.hid (by have := h4.size; have := HSZ.out; omega)
    clear hm hn h4 HC HT HF HP HQ HBX HSZ
    go_wp2_with fail
    go_loopw [22] (fun iv wr => ∃ k : Nat, iv = .int .i64 k ∧ k ≤ O.length ∧ ForC fb v (putOwn bs ho (O.take k)) wr ∧ But (OwnF fb v) w4 wr) (fun iv _ => O.length - (intOf iv).toNat)
    case atStart => exact ⟨0, rfl, Nat.zero_le _, by simpa [putOwn] using HF4.out, But.refl _ _⟩
    case round =>
      obtain ⟨k, rfl, hk, hf, hb⟩ := hrel
      have HFK := Lib.hid hf; have HBK := Lib.hid hb
      have HNO : Hid (¬ OwnF fb v w.heap.size ∧ ¬ OwnF fb v (w.heap.size + 1)) := Lib.hid ⟨fun q => by have := HOW.out _ q; omega, fun q => by have := HOW.out _ q; omega⟩
      have hp : wr.cell? ⟨w.heap.size, 0, none⟩ = some (.pointer (some ⟨fb, 0, none⟩)) := by
        rw [World.cell?_of_block (hb.block w.heap.size (by have := HS4.out; omega) HNO.out.1)]; exact HP4.out
      have hq : wr.cell? ⟨w.heap.size + 1, 0, none⟩ = some (.int .i64 i) := by
        rw [World.cell?_of_block (hb.block (w.heap.size + 1) HS4.out HNO.out.2)]; exact HQ4.out
      have hti : (putOwn bs ho (O.take k))[i]? = some x := by
        rw [putOwn_out]
        · exact HX.out
        · intro y hy
          obtain ⟨n, -, rfl, -, hlt⟩ := HOI.out y (List.mem_of_mem_take hy)
          omega
      have HTI := Lib.hid hti
      clear HF4
      by_cases hlt : k < O.length
      · obtain ⟨y, hy⟩ : ∃ y, O[k]? = some y := ⟨_, List.getElem?_eq_getElem hlt⟩
        obtain ⟨n, xn, rfl, hxn, hin⟩ := HOI.out y (List.mem_of_getElem? hy)
        obtain ⟨ab, off, rfl, hbl, hc⟩ := HN4.out k _ hy
        have hab : ¬ OwnF fb v ab := fun q => by
          have h1 := HOW.out _ q
          have h2 := (HM4.out.lt ab rfl).1
          omega
        have hc' : wr.cell? ⟨ab, off + k, none⟩ = some (.int .i64 n) := by
          rw [World.cell?_of_block (hb.block ab hbl hab)]; exact hc
        obtain ⟨xk, hxk⟩ : ∃ z, (putOwn bs ho (O.take k))[n]? = some z := ⟨_, List.getElem?_eq_getElem (by rw [putOwn_len]; exact (List.getElem?_eq_some_iff.1 hxn).1)⟩
        have HPA := Lib.hid (fput_any ho hxk (hf.below (Below.refl _ _).drew))
        have hnx : (putOwn bs ho (O.take k)).set n { xk with state := 3, home := ho } = putOwn bs ho (O.take (k + 1)) := by
          rw [List.take_add_one, hy]
          show _ = putOwn bs ho (O.take k ++ [(n : Int)])
          rw [putOwn_app, atB_of hxk, show (n : Int).toNat = n by omega]
        rw [hnx] at HPA
        obtain ⟨g, cp, hv, hr, -⟩ := row_at hf.row hti
        have c0 := hf.cell
        rw [hv] at c0
        have y18 := hr 18 _ (bubL_18 x)
        rw [HXH.out] at y18
        have HSK : Hid (∀ W, ForC fb v (putOwn bs ho (O.take (k + 1))) W → But (OwnF fb v) wr.drew W → ((fun X : World => X.cell? ⟨w.heap.size, 0, none⟩ = some (.pointer (some ⟨fb, 0, none⟩)) ∧ X.cell? ⟨w.heap.size + 1, 0, none⟩ = some (.int .i64 i) ∧ X.cell? ⟨fb, 0, none⟩ = some (.slice (some ⟨g, 0, none⟩) (putOwn bs ho (O.take k)).length cp) ∧ X.cell? ⟨g, i * 19 + 18, none⟩ = some (.int .i64 ho)) W)) := Lib.hid fun W hfw hbw => by
          obtain ⟨g2, cp2, hv2, hr2, -⟩ := row_at hfw.row (show (putOwn bs ho (O.take (k + 1)))[i]? = some x from by
            rw [putOwn_out]
            · exact HX.out
            · intro y hy
              obtain ⟨n, -, rfl, -, hlt⟩ := HOI.out y (List.mem_of_mem_take hy)
              omega)
          have hv3 := hv2
          rw [hv] at hv3
          rw [putOwn_len, putOwn_len] at hv3
          obtain ⟨hg, hcp⟩ : g2 = g ∧ cp2 = cp := by simp at hv3; exact ⟨hv3.1.symm, hv3.2.symm⟩
          subst hg; subst hcp
          have z18 := hr2 18 _ (bubL_18 x)
          rw [HXH.out] at z18
          have zc := hfw.cell
          rw [hv] at zc
          refine ⟨?_, ?_, zc, z18⟩
          · rw [World.cell?_of_block (hbw.block w.heap.size (by have := HS4.out; have := HBK.out.size; show w.heap.size < wr.heap.size; omega) HNO.out.1)]; exact hp
          · rw [World.cell?_of_block (hbw.block (w.heap.size + 1) (by have := HS4.out; have := HBK.out.size; show w.heap.size + 1 < wr.heap.size; omega) HNO.out.2)]; exact hq
        have ib : (i : Int) < ((putOwn bs ho (O.take k)).length : Int) := by rw [putOwn_len]; exact hbl'
        have i0 : (0 : Int) ≤ (i : Int) := by omega
        have k0 : (0 : Int) ≤ (k : Int) := by omega
        have k1 : (k : Int) < (O.length : Int) := by omega
        clear hnx hxk hy hxn hbl hc hf hb hr hti hab
        have hol32 : O.length ≤ 32 := HOL.out
        generalize (putOwn bs ho (O.take k)).length = pl at *
        generalize O.length = ol at *
        go_upto_region 8 with fail
        have HS0 : Hid ((fun X : World => X.cell? ⟨w.heap.size, 0, none⟩ = some (.pointer (some ⟨fb, 0, none⟩)) ∧ X.cell? ⟨w.heap.size + 1, 0, none⟩ = some (.int .i64 i) ∧ X.cell? ⟨fb, 0, none⟩ = some (.slice (some ⟨g, 0, none⟩) pl cp) ∧ X.cell? ⟨g, i * 19 + 18, none⟩ = some (.int .i64 ho)) wr.drew) := Lib.hid ⟨hp, hq, c0, y18⟩
        clear c0 y18 hp hq hv hc'
        refine wp_region_held_drew (S := fun X => X.cell? ⟨w.heap.size, 0, none⟩ = some (.pointer (some ⟨fb, 0, none⟩)) ∧ X.cell? ⟨w.heap.size + 1, 0, none⟩ = some (.int .i64 i) ∧ X.cell? ⟨fb, 0, none⟩ = some (.slice (some ⟨g, 0, none⟩) pl cp) ∧ X.cell? ⟨g, i * 19 + 18, none⟩ = some (.int .i64 ho)) (by kernel_rfl) HS0.out (fun hHeld => ?_)
        show wpAnyH _ _ _ _ _ _ _ _ _
        try dsimp only at hHeld
        refine wpAnyH_take (i := 0) (v := ?_) rfl (by kernel_rfl) (by kernel_rfl) (by kernel_rfl) (fun _ _ _ h => h) (Or.inl ⟨by rfl, fun W hW => by (obtain ⟨z0, z1, z2, z3⟩ := hW; go_simp <;> with_reducible rfl)⟩) hHeld ?_
        go_simp
        refine wpAnyH_take (i := 1) (v := ?_) rfl (by kernel_rfl) (by kernel_rfl) (by kernel_rfl) (fun _ _ _ h => h) (Or.inl ⟨by rfl, fun W hW => by (obtain ⟨z0, z1, z2, z3⟩ := hW; go_simp <;> with_reducible rfl)⟩) hHeld ?_
        go_simp
        refine wpAnyH_take (i := 2) (v := ?_) rfl (by kernel_rfl) (by kernel_rfl) (by kernel_rfl) (fun _ _ _ h => h) (Or.inl ⟨by rfl, fun W hW => by (obtain ⟨z0, z1, z2, z3⟩ := hW; go_simp <;> with_reducible rfl)⟩) hHeld ?_
        go_simp
        refine wpAnyH_take (i := 3) (v := ?_) rfl (by kernel_rfl) (by kernel_rfl) (by kernel_rfl) (fun _ _ _ h => h) (Or.inl ⟨by rfl, fun W hW => by (obtain ⟨z0, z1, z2, z3⟩ := hW; go_simp <;> with_reducible rfl)⟩) hHeld ?_
        go_simp
        refine wpAnyH_take (i := 4) (v := ?_) rfl (by kernel_rfl) (by kernel_rfl) (by kernel_rfl) (fun _ _ _ h => h) (Or.inl ⟨by rfl, fun W hW => by (obtain ⟨z0, z1, z2, z3⟩ := hW; go_simp <;> with_reducible rfl)⟩) hHeld ?_
        go_simp
        refine wpAnyH_take (i := 5) (v := ?_) rfl (by kernel_rfl) (by kernel_rfl) (by kernel_rfl) (fun _ _ _ h => h) (Or.inl ⟨by rfl, fun W hW => by (obtain ⟨z0, z1, z2, z3⟩ := hW; go_simp <;> with_reducible rfl)⟩) hHeld ?_
        go_simp
        refine wpAnyH_take (i := 6) (v := ?_) rfl (by kernel_rfl) (by kernel_rfl) (by kernel_rfl) (fun _ _ _ h => h) (Or.inl ⟨by rfl, fun W hW => by (obtain ⟨z0, z1, z2, z3⟩ := hW; go_simp <;> with_reducible rfl)⟩) hHeld ?_
        go_simp
        refine wpAnyH_take (i := 7) (v := ?_) rfl (by kernel_rfl) (by kernel_rfl) (by kernel_rfl) (fun _ _ _ h => h) (Or.inl ⟨by rfl, fun W hW => by (obtain ⟨z0, z1, z2, z3⟩ := hW; go_simp <;> with_reducible rfl)⟩) hHeld ?_
        go_simp
        refine wpAnyH_take (i := 8) (v := ?_) rfl (by kernel_rfl) (by kernel_rfl) (by kernel_rfl) (fun _ _ _ h => h) (Or.inl ⟨by rfl, fun W hW => by (obtain ⟨z0, z1, z2, z3⟩ := hW; go_simp <;> with_reducible rfl)⟩) hHeld ?_
        go_simp
        refine wpAnyH_take (i := 9) (v := ?_) rfl (by kernel_rfl) (by kernel_rfl) (by kernel_rfl) (fun _ _ _ h => h) (Or.inl ⟨by rfl, fun W hW => by (obtain ⟨z0, z1, z2, z3⟩ := hW; go_simp <;> with_reducible rfl)⟩) hHeld ?_
        go_simp
        refine wpAnyH_ready (rs := [10]) (by kernel_rfl) (by simp) (AllReadyH.cons rfl (fun K hK => ?_) AllReadyH.nil)
        go_simp
        go_at_call 55
        refine HPA.out.mono ?_
        rintro e w6 ⟨rfl, ht, hb6⟩
        have HT6 := Lib.hid ht; have HB6 := Lib.hid (HBK.out.drew.trans hb6)
        dsimp only
        (try (go_wp2_with fail))
        refine hK.out _ _ (HSK.out _ ht hb6) (fun hHeld => ?_)
        clear hK K ht hb6
        refine wpAnyH_done (by kernel_rfl) ?_ _
        go_wp2_with fail
        go_roundw
        case rel => exact ⟨k + 1, by go_num, by omega, HT6.out, HB6.out⟩
        case measure => simp [intOf]; omega
      · obtain rfl : k = O.length := by omega
        rw [List.take_length] at hti hf HFK HTI
        obtain ⟨g, cp, hv, hng, hr, hfz⟩ := hf.spot hti
        subst hv
        have c0 := hf.cell
        have y17 := hr 17 _ (bubL_17 x)
        have f17 := hfz (i * 19 + 17)
        have ib : (i : Int) < ((putOwn bs ho O).length : Int) := by rw [putOwn_len]; exact hbl'
        have i0 : (0 : Int) ≤ (i : Int) := by omega
        obtain ⟨t1, b1⟩ := (hf.below (Below.refl _ _).drew).turn hti 17 (.int .i64 4) (by omega) (bubL_state x 4) rfl (by simp) (by simp)
        have HT5 : Hid (ForC fb (.slice (some ⟨g, 0, none⟩) (putOwn bs ho O).length cp) ((putOwn bs ho O).set i { x with state := 4 }) (wr.setCell ⟨g, i * 19 + 17, none⟩ (.int .i64 4)).drew) := Lib.hid t1
        have HB5 : Hid (But (OwnF fb (.slice (some ⟨g, 0, none⟩) (putOwn bs ho O).length cp)) w4 (wr.setCell ⟨g, i * 19 + 17, none⟩ (.int .i64 4)).drew) := Lib.hid (HBK.out.drew.trans b1)
        have tk : ¬ (O.length : Int) < (O.length : Int) := by omega
        clear t1 b1 hf hb hr hfz hti HTI HFK HBK hk
        generalize x.state = s at *
        generalize hpl : (putOwn bs ho O).length = pl at *
        have HPL := Lib.hid hpl
        clear hpl
        generalize hol : O.length = ol at *
        have HOLE := Lib.hid hol
        clear hol
        go_upto_region 10 with fail
        have HS0 : Hid ((fun X : World => X.cell? ⟨w.heap.size, 0, none⟩ = some (.pointer (some ⟨fb, 0, none⟩)) ∧ X.cell? ⟨w.heap.size + 1, 0, none⟩ = some (.int .i64 i) ∧ X.cell? ⟨fb, 0, none⟩ = some (.slice (some ⟨g, 0, none⟩) pl cp)) wr.drew) := Lib.hid ⟨hp, hq, c0⟩
        have HS1 : Hid ((fun X : World => X.cell? ⟨w.heap.size, 0, none⟩ = some (.pointer (some ⟨fb, 0, none⟩)) ∧ X.cell? ⟨w.heap.size + 1, 0, none⟩ = some (.int .i64 i) ∧ X.cell? ⟨fb, 0, none⟩ = some (.slice (some ⟨g, 0, none⟩) pl cp)) (wr.drew.setCell ⟨g, i * 19 + 17, none⟩ (.int .i64 4))) := Lib.hid ⟨by rw [World.cell?_setCell_other _ _ _ _ (by simp)]; exact hp, by rw [World.cell?_setCell_other _ _ _ _ (by simp)]; exact hq, by rw [World.cell?_setCell_other _ _ _ _ (by simp)]; exact c0⟩
        clear hp hq c0 hng
        refine wp_region_held_drew (S := fun X => X.cell? ⟨w.heap.size, 0, none⟩ = some (.pointer (some ⟨fb, 0, none⟩)) ∧ X.cell? ⟨w.heap.size + 1, 0, none⟩ = some (.int .i64 i) ∧ X.cell? ⟨fb, 0, none⟩ = some (.slice (some ⟨g, 0, none⟩) pl cp)) (by kernel_rfl) HS0.out (fun hHeld => ?_)
        show wpAnyH _ _ _ _ _ _ _ _ _
        try dsimp only at hHeld
        refine wpAnyH_take (i := 0) (v := ?_) rfl (by kernel_rfl) (by kernel_rfl) (by kernel_rfl) (fun _ _ _ h => h) (Or.inl ⟨by rfl, fun W hW => by (obtain ⟨z0, z1, z2⟩ := hW; go_simp <;> with_reducible rfl)⟩) hHeld ?_
        go_simp
        refine wpAnyH_take (i := 1) (v := ?_) rfl (by kernel_rfl) (by kernel_rfl) (by kernel_rfl) (fun _ _ _ h => h) (Or.inl ⟨by rfl, fun W hW => by (obtain ⟨z0, z1, z2⟩ := hW; go_simp <;> with_reducible rfl)⟩) hHeld ?_
        go_simp
        refine wpAnyH_take (i := 2) (v := ?_) rfl (by kernel_rfl) (by kernel_rfl) (by kernel_rfl) (fun _ _ _ h => h) (Or.inl ⟨by rfl, fun W hW => by (obtain ⟨z0, z1, z2⟩ := hW; go_simp <;> with_reducible rfl)⟩) hHeld ?_
        go_simp
        refine wpAnyH_take (i := 3) (v := ?_) rfl (by kernel_rfl) (by kernel_rfl) (by kernel_rfl) (fun _ _ _ h => h) (Or.inl ⟨by rfl, fun W hW => by (obtain ⟨z0, z1, z2⟩ := hW; go_simp <;> with_reducible rfl)⟩) hHeld ?_
        go_simp
        refine wpAnyH_take (i := 4) (v := ?_) rfl (by kernel_rfl) (by kernel_rfl) (by kernel_rfl) (fun _ _ _ h => h) (Or.inl ⟨by rfl, fun W hW => by (obtain ⟨z0, z1, z2⟩ := hW; go_simp <;> with_reducible rfl)⟩) hHeld ?_
        go_simp
        refine wpAnyH_take (i := 5) (v := ?_) rfl (by kernel_rfl) (by kernel_rfl) (by kernel_rfl) (fun _ _ _ h => h) (Or.inl ⟨by rfl, fun W hW => by (obtain ⟨z0, z1, z2⟩ := hW; go_simp <;> with_reducible rfl)⟩) hHeld ?_
        go_simp
        refine wpAnyH_take (i := 6) (v := ?_) rfl (by kernel_rfl) (by kernel_rfl) (by kernel_rfl) (fun _ _ _ h => h) (Or.inl ⟨by rfl, fun W hW => by (obtain ⟨z0, z1, z2⟩ := hW; go_simp <;> with_reducible rfl)⟩) hHeld ?_
        go_simp
        refine wpAnyH_ready (rs := [7]) (by kernel_rfl) (by simp) (AllReadyH.cons rfl (fun K hK => ?_) AllReadyH.nil)
        go_simp
        refine hK.out _ _ HS1.out (fun hHeld => ?_)
        clear hK K y17 f17
        refine wpAnyH_done (by kernel_rfl) ?_ _
        go_upto_region 11 with fail
        generalize (wr.setCell ⟨g, i * 19 + 17, none⟩ (.int .i64 4)).drew = w5 at *
        have hq5 : w5.cell? ⟨w.heap.size + 1, 0, none⟩ = some (.int .i64 i) := by
          rw [World.cell?_of_block (HB5.out.block (w.heap.size + 1) HS4.out HNO.out.2)]; exact HQ4.out
        have hal : Below w5.heap.size w5 (w5.alloc (.cells #[.int .i64 i] 3)) := (Below.refl _ _).alloc (Nat.le_refl _) _
        have hm5 : MineN w.heap.size (.slice A ol cap) O (w5.alloc (.cells #[.int .i64 i] 3)) := by
          have h1 := mine_but HM4.out HB5.out fun g hg q => by have := HOW.out g q; omega
          exact h1.on hal
        have hvu : (Value.slice A ol cap).ownBlock ≠ some w5.heap.size := fun e => by
          have h1 := mine_but HM4.out HB5.out fun g hg q => by have := HOW.out g q; omega
          have := (h1.lt _ e).2
          omega
        have hsz5 : w.heap.size ≤ (w5.alloc (.cells #[.int .i64 i] 3)).heap.size := by
          have h1 := HS4.out; have h2 := HB5.out.size; have h3 := hal.size
          omega
        have HIN := Lib.hid (ins_front hm5 (by have := HOL.out; have := HOLE.out; omega) hsz5 w5.heap.size (i : Int) (Blk.new w5 _ _) hvu)
        have HT6 := Lib.hid (HT5.out.below hal)
        have HB6 := Lib.hid (HB5.out.trans (But.of_below hal))
        clear hal hm5 hvu hsz5 HT5 HB5
        go_wp2_with fail
        (with_reducible refine HIN.out.mono ?_)
        rintro e w7 ⟨u7, rfl, m7, b7⟩
        dsimp only
        have HT7 := Lib.hid (HT6.out.belowB HOW.out b7)
        have HB7 : Hid (But (OwnF fb (.slice (some ⟨g, 0, none⟩) pl cp)) w w7) := Lib.hid ((HB4.out.trans HB6.out).step (but_B b7) fun j hj q => by omega)
        have HM7 := Lib.hid m7
        clear m7 b7 HIN
        go_wp2_with fail
        go_ret2
        exact ⟨u7, rfl, HM7.out, by rw [HPL.out]; exact HT7.out, by rw [HPL.out]; exact HB7.out⟩
  · rw [if_neg h0, if_neg h0]
    have hne : (checkE bs b [3] != 0) = true := by simpa using h0
    clear h0 h hF hbx hp hq hsz hst HP HQ HSZ
    generalize checkE bs b [3] = r at *
    go_enter Try.func36, Try.ntmps36
    go_wp2_with (go_at_call 54; (refine HC.out.mono ?_); rintro e wq ⟨rfl, rfl⟩)
    go_ret2
    exact ⟨_, rfl, mineN_nil _ _, HF.out, But.of_below HBX.out⟩
end
end Go.Proofs.Ytekahmfchpgmfaa
