/- Has the forest just the document's bubbles? (layer 13) -/
import Derived.Test.YtckdabokaelnoaaYm
import Derived.Test.YtckdabokaelnoaaYr
import Derived.Test.YtckdabokaelnoaaZx
import Derived.Test.YtckdabokaelnoaaZs
import Derived.Test.YtckdabokaelnoaaZw
import Derived.Test.YtckdabokaelnoaaZy
import Derived.Test.YtckdabokaelnoaaZi
namespace Go.Proofs.Ytckdabokaelnoaa
open Go.RowKit
set_option maxRecDepth 100000

theorem inside_inB {bs : List Bub} (hI : InvB bs) {i b : Int} (h : insideP bs i b = true) : inB bs b = true := by
  unfold insideP at h
  exact (way_in hI _ i (Nat.le_refl _) b (by simpa using h)).2.2
theorem inside_outI {bs : List Bub} {i b : Int} (h : inB bs i = false) : insideP bs i b = false := by
  unfold insideP; rw [way_no h]; rfl
theorem store_bubA (x : Bub) (W : World) : (storeCells ⟨W.heap.size, 0, none⟩ (bubL x).toArray.toList 0).run Try.prog (W.alloc (.cells #[.int .i64 0, .int .u64 0, .int .u64 0, .int .u64 0, .int .u64 0, .int .u64 0, .int .u64 0, .int .u64 0, .int .u64 0, .int .u64 0, .int .u64 0, .int .u64 0, .int .u64 0, .int .u64 0, .int .u64 0, .int .u64 0, .int .u64 0, .int .i64 0, .int .i64 0] 40)) = .ok () (W.alloc (.cells (bubL x).toArray 40)) :=
  run_storeCells_new W 40 _ _ (infoB.trans (congrArg some (by rw [List.size_toArray, bubL_len]))) (Eq.trans (show _ = 19 from rfl) (by rw [List.size_toArray, bubL_len])) (all_one (bubL_one x))
theorem bool_neq (b : Bool) : (b != b) = false := by simp
section
variable {w W : World} {fb : Nat} {v d : Value} {bs : List Bub}
set_option maxHeartbeats 20000000 in
theorem alike13_any (o : OpB) (h : Pair w fb v d bs bs W) : Calls Try.prog 16 #[.pointer (some ⟨fb, 0, none⟩), d, .agg (opbL o).toArray] W (GotB W.heap.size (.bool true) W) := by
  have hal : Below W.heap.size W (W.alloc (.cells (opbL o).toArray 31)) := (Below.refl _ _).alloc (Nat.le_refl _) _
  have HAL := Lib.hid hal
  have HP1 := Lib.hid (h.on hal)
  have y1 : (W.alloc (.cells (opbL o).toArray 31)).cell? ⟨W.heap.size, 1, none⟩ = some (.int .i64 o.b) := ((Blk.new W 31 (opbL o).toArray).cell 1).trans rfl
  obtain ⟨DA, dcap, hd⟩ := h.doc.form
  obtain ⟨n, hn⟩ : ∃ n, bs.length = n := ⟨_, rfl⟩
  have HLN := Lib.hid hn
  have hn32 : n ≤ 32 := by have := h.doc.inv.len; omega
  rw [hn] at hd
  subst hd
  have HLE := Lib.hid (flen_any HP1.out.own.tab)
  rw [hn] at HLE
  have tn : ((n : Int) != (n : Int)) = false := by simp
  have hobl : W.heap.size < (W.alloc (.cells (opbL o).toArray 31)).heap.size := by simp
  obtain ⟨ob, hob⟩ : ∃ q, W.heap.size = q := ⟨_, rfl⟩
  have HOB := Lib.hid hob
  obtain ⟨bo, hbo⟩ : ∃ q, o.b = q := ⟨_, rfl⟩
  rw [hbo] at y1
  generalize (opbL o) = O at *
  rw [hob] at y1 hobl
  have Y1 : Hid (∀ X, Below (W.alloc (.cells O.toArray 31)).heap.size (W.alloc (.cells O.toArray 31)) X → X.cell? ⟨ob, 1, none⟩ = some (.int .i64 bo)) := fun X hX => (hX.cell (p := ⟨ob, 1, none⟩) hobl).trans y1
  clear h hal hn y1 hobl hbo
  rw [hob]
  clear hob
  go_enter Try.func16, Try.ntmps16
  go_wp2_with (go_at_call 27; (with_reducible refine HLE.out.mono ?_); rintro e wq ⟨rfl, rfl⟩)
  rw [HOB.out]
  generalize W.alloc (.cells O.toArray 31) = w1 at *
  clear HLE
  go_loopw [7] (fun iv wr => ∃ k : Nat, iv = .int .i64 ((k : Int) - 1) ∧ k ≤ n + 2 ∧ Below w1.heap.size w1 wr) (fun iv _ => n + 2 - (intOf iv + 1).toNat)
  case atStart => exact ⟨0, by rfl, by omega, Below.refl _ _⟩
  case round =>
    obtain ⟨k, rfl, hk, hb⟩ := hrel
    have HB := Lib.hid hb; clear hb
    have ho2 : ∃ X, Calls Try.prog 19 #[.pointer (some ⟨fb, 0, none⟩), .int .i64 ((k : Int) - 1)] wr (GotB wr.heap.size (.tuple #[.agg (bubL X).toArray, .bool (inB bs ((k : Int) - 1))]) wr) ∧ (inB bs ((k : Int) - 1) = true → ∃ i : Nat, (k : Int) - 1 = i ∧ bs[i]? = some X) := by
      cases hin : inB bs ((k : Int) - 1) with
      | false => exact ⟨zB, fget_no _ (HP1.out.own.tab.below HB.out) hin, fun q => by cases q⟩
      | true =>
        obtain ⟨i, x, e, hx⟩ := inB_nat hin
        refine ⟨x, ?_, fun _ => ⟨i, e, hx⟩⟩
        rw [e]; exact fget_at hx (HP1.out.own.tab.below HB.out)
    obtain ⟨X, hG, hXi⟩ := ho2
    have HG := Lib.hid hG; have HXI := Lib.hid hXi
    clear hG hXi
    obtain ⟨j, hj⟩ : ∃ j : Int, (k : Int) - 1 = j := ⟨_, rfl⟩
    rw [hj] at HG HXI ⊢
    have HJ := Lib.hid hj
    by_cases hle : j ≤ (n : Int)
    · have tle : decide (j ≤ (n : Int)) = true := by simpa using hle
      obtain ⟨okb, hok⟩ : ∃ q, inB bs j = q := ⟨_, rfl⟩
      rw [hok] at HG HXI
      have HOK := Lib.hid hok
      clear hok hj
      go_wp2_with fail
      refine HG.out.mono ?_
      rintro e w2 ⟨rfl, h2⟩
      dsimp only
      have hst := store_bubA X w2
      have hal2 : Below w2.heap.size w2 (w2.alloc (.cells (bubL X).toArray 40)) := (Below.refl _ _).alloc (Nat.le_refl _) _
      have hB3 : Below w1.heap.size w1 (w2.alloc (.cells (bubL X).toArray 40)) := (HB.out.trans (h2.mono HB.out.size)).trans (hal2.mono (Nat.le_trans HB.out.size h2.size))
      have HB3 := Lib.hid hB3
      have hb8 := Blk.new w2 40 (bubL X).toArray
      have HBX := Lib.hid hb8
      clear h2 hal2 hB3 hb8 HG
      go_upto_region 7 with fail
      clear hst
      generalize w2.alloc (.cells (bubL X).toArray 40) = w3 at *
      have HCH : Hid (∀ Y, Below w3.heap.size w3 Y → Below w1.heap.size w1 Y) := fun Y hY => HB3.out.trans (hY.mono HB3.out.size)
      have YY : Hid (∀ Y, Below w3.heap.size w3 Y → Y.cell? ⟨ob, 1, none⟩ = some (.int .i64 bo)) := fun Y hY => Y1.out Y (HCH.out Y hY)
      have HB8 : Hid (∀ Y, Below w3.heap.size w3 Y → Y.rangeAt w2.heap.size 0 (bubL X)) := fun Y hY => blk_rangeB (HBX.out.below hY HBX.out.lt)
      have tabs : ∀ Y, Below w3.heap.size w3 Y → ForC fb v bs Y := fun Y hY => HP1.out.own.tab.below (HCH.out Y hY)
      have docs : ∀ Y, Below w3.heap.size w3 Y → DocL (.slice DA n dcap) bs Y := fun Y hY => HP1.out.doc.below (HCH.out Y hY)
      obtain ⟨fr, hfr⟩ : ∃ q, freeP bs j = q := ⟨_, rfl⟩
      have KFc : Hid (∀ Y, Below w3.heap.size w3 Y → Calls Try.prog 28 #[.pointer (some ⟨fb, 0, none⟩), .int .i64 j] Y fun e Z => e = .returned (.bool fr) ∧ Below Y.heap.size Y Z) := fun Y hY => by rw [← hfr]; exact ffree_any j (tabs Y hY)
      have KFd : Hid (∀ Y, Below w3.heap.size w3 Y → Calls Try.prog 56 #[.slice DA n dcap, .int .i64 j] Y fun e Z => e = .returned (.bool fr) ∧ Below Y.heap.size Y Z) := fun Y hY => by rw [← hfr]; exact rfree_any j (docs Y hY)
      have KIj : Hid (∀ Y, Below w3.heap.size w3 Y → Calls Try.prog 55 #[.slice DA n dcap, .int .i64 j] Y fun e Z => e = .returned (.bool okb) ∧ Below Y.heap.size Y Z) := fun Y hY => by
        rw [← HOK.out]; exact (ris_any j (docs Y hY)).mono fun e Z ⟨a, c⟩ => ⟨a, c ▸ Below.refl _ _⟩
      obtain ⟨bb, hbb⟩ : ∃ q, inB bs bo = q := ⟨_, rfl⟩
      have KIb : Hid (∀ Y, Below w3.heap.size w3 Y → Calls Try.prog 55 #[.slice DA n dcap, .int .i64 bo] Y fun e Z => e = .returned (.bool bb) ∧ Below Y.heap.size Y Z) := fun Y hY => by
        rw [← hbb]; exact (ris_any bo (docs Y hY)).mono fun e Z ⟨a, c⟩ => ⟨a, c ▸ Below.refl _ _⟩
      obtain ⟨ins, hins⟩ : ∃ q, insideP bs j bo = q := ⟨_, rfl⟩
      have KNc : Hid (∀ Y, Below w3.heap.size w3 Y → Calls Try.prog 24 #[.pointer (some ⟨fb, 0, none⟩), .int .i64 j, .int .i64 bo] Y fun e Z => e = .returned (.bool ins) ∧ Below Y.heap.size Y Z) := fun Y hY => by rw [← hins]; exact finside_any j bo (tabs Y hY)
      have KNd : Hid (∀ Y, Below w3.heap.size w3 Y → Calls Try.prog 57 #[.slice DA n dcap, .int .i64 j, .int .i64 bo] Y fun e Z => e = .returned (.bool ins) ∧ Below Y.heap.size Y Z) := fun Y hY => by rw [← hins]; exact rinside_any j bo (docs Y hY)
      have tfr := bool_neq fr
      have tin := bool_neq ins
      cases okb with
      | false =>
        have : ins = false := by rw [← hins]; exact inside_outI HOK.out
        subst this
        clear hfr hbb hins tabs docs tin KNd KIb HXI HB8 HBX HB3
        refine wp_region_cls (by kernel_rfl) (by kernel_rfl) ?_
        repeat
          first
          | go_big_quiet_skip
          | (go_big_quiet_want
             first
             | (refine quiet_load_int _ rfl ⟨ob, 1, none⟩ bo rfl (fun w' h => YY.out w' h) ?_; go_simp; go_big_quiet_on)
             | (go_big_quiet_op
                first
                | go_big_quiet_on
                | (refine ⟨_, fun _ _ => rfl, ?_⟩; go_big_quiet_on)
                | (apply Exists.intro
                   refine ⟨fun w' h => ?_, ?_⟩
                   · (first | (go_at_call 55; have hbl := h.bl; first | exact quiet_call h (Nat.le_refl _) (by with_reducible exact KIj.out w' hbl)) | (go_at_call 28; have hbl := h.bl; first | exact quiet_call h (Nat.le_refl _) (by with_reducible exact KFc.out w' hbl)) | (go_at_call 56; have hbl := h.bl; first | exact quiet_call h (Nat.le_refl _) (by with_reducible exact KFd.out w' hbl)) | (go_at_call 24; have hbl := h.bl; first | exact quiet_call h (Nat.le_refl _) (by with_reducible exact KNc.out w' hbl)))
                   go_big_quiet_on)))
        refine wpQuiet_nil ?_
        intro w4 h4
        have HB4 : Hid (Below w1.heap.size w1 w4) := HCH.out w4 h4.bl
        clear h4
        go_wp2_with fail
        go_roundw
        case rel =>
          have hjj := HJ.out
          have hw : wrap64 (j + 1) = j + 1 := by unfold wrap64; omega
          exact ⟨k + 1, by rw [hw]; congr 1; omega, by omega, HB4.out⟩
        case measure =>
          have hjj := HJ.out
          have hw : wrap64 (j + 1) = j + 1 := by unfold wrap64; omega
          simp [intOf, hw]; omega
      | true =>
        obtain ⟨i, hi, hx⟩ := HXI.out rfl
        obtain ⟨g, c9, hv, hr, -⟩ := row_at HP1.out.doc.row hx
        rw [HLN.out] at hv
        simp only [Value.slice.injEq] at hv
        obtain ⟨rfl, -, rfl⟩ := hv
        have hgl : g < w1.heap.size := (HP1.out.doc.row.lt g rfl).2
        have HDX : Hid (∀ Y, Below w3.heap.size w3 Y → Y.rangeAt g (i * 19) (bubL X)) := fun Y hY q u hq => ((HCH.out Y hY).cell (p := ⟨g, _, none⟩) hgl).trans (hr q u hq)
        have i0 : (0 : Int) ≤ (i : Int) := by omega
        have i1 : (i : Int) < (n : Int) := by have := (List.getElem?_eq_some_iff.1 hx).1; have := HLN.out; omega
        subst hi
        cases bb with
        | false =>
          have : ins = false := by
            cases hq : ins with
            | false => rfl
            | true =>
              have := inside_inB HP1.out.doc.inv (hins.trans hq)
              rw [hbb] at this; cases this
          subst this
          clear hfr hbb hins tabs docs tin KNd HXI HBX HB3 hr hgl hx
          refine wp_region_cls (by kernel_rfl) (by kernel_rfl) ?_
          repeat
            first
            | go_big_quiet_skip
            | (go_big_quiet_want
               first
               | (refine quiet_load_bub _ rfl w2.heap.size 0 X rfl (fun w' h => HB8.out w' h) ?_; go_simp; go_big_quiet_on)
               | (refine quiet_load_bub _ rfl g (i * 19) X rfl (fun w' h => HDX.out w' h) ?_; go_simp; go_big_quiet_on)
               | (refine quiet_neq_bub _ _ _ rfl X rfl rfl ?_; go_simp; go_big_quiet_on)
               | (refine quiet_load_int _ rfl ⟨ob, 1, none⟩ bo rfl (fun w' h => YY.out w' h) ?_; go_simp; go_big_quiet_on)
               | (go_big_quiet_op
                  first
                  | go_big_quiet_on
                  | (refine ⟨_, fun _ _ => rfl, ?_⟩; go_big_quiet_on)
                  | (apply Exists.intro
                     refine ⟨fun w' h => ?_, ?_⟩
                     · (first | (go_at_call 55; have hbl := h.bl; first | exact quiet_call h (Nat.le_refl _) (by with_reducible exact KIj.out w' hbl) | exact quiet_call h (Nat.le_refl _) (by with_reducible exact KIb.out w' hbl)) | (go_at_call 28; have hbl := h.bl; first | exact quiet_call h (Nat.le_refl _) (by with_reducible exact KFc.out w' hbl)) | (go_at_call 56; have hbl := h.bl; first | exact quiet_call h (Nat.le_refl _) (by with_reducible exact KFd.out w' hbl)) | (go_at_call 24; have hbl := h.bl; first | exact quiet_call h (Nat.le_refl _) (by with_reducible exact KNc.out w' hbl)))
                     go_big_quiet_on)))
          refine wpQuiet_nil ?_
          intro w4 h4
          have HB4 : Hid (Below w1.heap.size w1 w4) := HCH.out w4 h4.bl
          clear h4
          go_wp2_with fail
          go_roundw
          case rel =>
            have hjj := HJ.out
            exact ⟨k + 1, by congr 1; omega, by omega, HB4.out⟩
          case measure =>
            have hjj := HJ.out
            simp [intOf]; omega
        | true =>
          clear hfr hbb hins tabs docs HXI HBX HB3 hr hgl hx
          refine wp_region_cls (by kernel_rfl) (by kernel_rfl) ?_
          repeat
            first
            | go_big_quiet_skip
            | (go_big_quiet_want
               first
               | (refine quiet_load_bub _ rfl w2.heap.size 0 X rfl (fun w' h => HB8.out w' h) ?_; go_simp; go_big_quiet_on)
               | (refine quiet_load_bub _ rfl g (i * 19) X rfl (fun w' h => HDX.out w' h) ?_; go_simp; go_big_quiet_on)
               | (refine quiet_neq_bub _ _ _ rfl X rfl rfl ?_; go_simp; go_big_quiet_on)
               | (refine quiet_load_int _ rfl ⟨ob, 1, none⟩ bo rfl (fun w' h => YY.out w' h) ?_; go_simp; go_big_quiet_on)
               | (go_big_quiet_op
                  first
                  | go_big_quiet_on
                  | (refine ⟨_, fun _ _ => rfl, ?_⟩; go_big_quiet_on)
                  | (apply Exists.intro
                     refine ⟨fun w' h => ?_, ?_⟩
                     · (first | (go_at_call 55; have hbl := h.bl; first | exact quiet_call h (Nat.le_refl _) (by with_reducible exact KIj.out w' hbl) | exact quiet_call h (Nat.le_refl _) (by with_reducible exact KIb.out w' hbl)) | (go_at_call 28; have hbl := h.bl; first | exact quiet_call h (Nat.le_refl _) (by with_reducible exact KFc.out w' hbl)) | (go_at_call 56; have hbl := h.bl; first | exact quiet_call h (Nat.le_refl _) (by with_reducible exact KFd.out w' hbl)) | (go_at_call 24; have hbl := h.bl; first | exact quiet_call h (Nat.le_refl _) (by with_reducible exact KNc.out w' hbl)) | (go_at_call 57; have hbl := h.bl; first | exact quiet_call h (Nat.le_refl _) (by with_reducible exact KNd.out w' hbl)))
                     go_big_quiet_on)))
          refine wpQuiet_nil ?_
          intro w4 h4
          have HB4 : Hid (Below w1.heap.size w1 w4) := HCH.out w4 h4.bl
          clear h4
          go_wp2_with fail
          go_roundw
          case rel =>
            have hjj := HJ.out
            exact ⟨k + 1, by congr 1; omega, by omega, HB4.out⟩
          case measure =>
            have hjj := HJ.out
            simp [intOf]; omega
    · have tle : decide (j ≤ (n : Int)) = false := by simpa using hle
      have KM1 : Hid (∀ Y, Below wr.heap.size wr Y → Calls Try.prog 21 #[.pointer (some ⟨fb, 0, none⟩), .int .i64 bo] Y fun e Z => e = .returned (.agg (cellsOf (maskP bs bo))) ∧ Below Y.heap.size Y Z) := fun Y hY => fmask_any bo (HP1.out.own.tab.below (HB.out.trans (hY.mono HB.out.size)))
      have KM2 : Hid (∀ Y, Below wr.heap.size wr Y → Calls Try.prog 58 #[.slice DA n dcap, .int .i64 bo] Y fun e Z => e = .returned (.agg (cellsOf (maskP bs bo))) ∧ Below Y.heap.size Y Z) := fun Y hY => rmask_any bo (HP1.out.doc.below (HB.out.trans (hY.mono HB.out.size)))
      have YY : Hid (∀ Y, Below wr.heap.size wr Y → Y.cell? ⟨ob, 1, none⟩ = some (.int .i64 bo)) := fun Y hY => Y1.out Y (HB.out.trans (hY.mono HB.out.size))
      have heq : eqP (maskP bs bo) (maskP bs bo) = true := eqP_true.2 fun _ _ => rfl
      clear hj HG HXI hle
      generalize maskP bs bo = mm at *
      go_upto_region 9 with fail
      refine wp_region_cls (by kernel_rfl) (by kernel_rfl) ?_
      repeat
        first
        | go_big_quiet_skip
        | (go_big_quiet_want
           first
           | (refine quiet_load_int _ rfl ⟨ob, 1, none⟩ bo rfl (fun w' h => YY.out w' h) ?_; go_simp; go_big_quiet_on)
           | (refine quiet_eql_set _ _ _ rfl mm mm rfl rfl ?_; go_simp; go_big_quiet_on)
           | (go_big_quiet_op
              first
              | go_big_quiet_on
              | (refine ⟨_, fun _ _ => rfl, ?_⟩; go_big_quiet_on)
              | (apply Exists.intro
                 refine ⟨fun w' h => ?_, ?_⟩
                 · (first | (go_at_call 21; exact quiet_call h (Nat.le_refl _) (KM1.out w' h)) | (go_at_call 58; exact quiet_call h (Nat.le_refl _) (KM2.out w' h)))
                 go_big_quiet_on)))
      refine wpQuiet_nil ?_
      intro w4 h4
      have HB4 : Hid (Below w1.heap.size w1 w4) := HB.out.trans (h4.bl.mono HB.out.size)
      clear h4
      go_wp2_with fail
      go_ret
      exact ⟨rfl, by rw [← HOB.out]; exact HAL.out.trans (HB4.out.mono HAL.out.size)⟩
end
end Go.Proofs.Ytckdabokaelnoaa
