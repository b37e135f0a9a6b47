/- The document's Print of layer 9; ProgPrints' walk. -/
import Derived.Test.YtndekdelhngblaaDoorYd
import Derived.Test.YtndekdelhngblaaDoorYc
import Derived.Deep.LoopGhost
namespace Go.Proofs.YtndekdelhngblaaDoor
open Go.RowKit

set_option maxRecDepth 100000 in
set_option maxHeartbeats 4000000 in
theorem refPrint_any (prio : Int) (A : Option Addr) (l : List I4) (cap : Nat) (w : World) (hp : In64 prio) (hl : l.length ≤ 1000) (hI : InsIn w A l) :
    Calls Tryd.prog 13 #[.agg #[.int .i64 prio, .slice A l.length cap]] w (GotB w.heap.size (.string ⟨(textL prio l).toArray⟩) w) := by
  have hf : ∀ x ∈ l, Fits x := fun x hx => by
    obtain ⟨i, hi, rfl⟩ := List.mem_iff_getElem.1 hx
    exact (hI i _ (List.getElem?_eq_getElem hi)).1
  have hlen := textK_len hp hf
  have hi := Lib.itoa_length_le prio hp.1 hp.2
  have hbx := Blk.new w 24 #[.int .i64 prio, .slice A l.length cap]
  have x0 := hbx.cell 0
  simp only [List.getElem?_toArray, List.getElem?_cons_zero] at x0
  have hB1 : Below w.heap.size w (w.alloc (.cells #[.int .i64 prio, .slice A l.length cap] 24)) := (Below.refl w.heap.size w).alloc (Nat.le_refl _) _
  have HD := Lib.hid (refDec_any prio hp (w.alloc (.cells #[.int .i64 prio, .slice A l.length cap] 24)))
  have HB := Lib.hid hB1; have HX := Lib.hid hbx; have HI := Lib.hid hI; have HLEN := Lib.hid hlen
  have hs1 : ¬ 9223372036854775807 < 5 + (Lib.itoa prio).length := by omega
  have hs2 : ¬ 9223372036854775807 < 5 + (Lib.itoa prio).length + 1 := by omega
  have E := Lib.hid (show (⟨#[112, 114, 111, 103, 32]⟩ : ByteArray) ++ ⟨(Lib.itoa prio).toArray⟩ ++ ⟨#[10]⟩ = ⟨(textK prio l 0).toArray⟩ by
    show (⟨([112, 114, 111, 103, 32] : List UInt8).toArray⟩ : ByteArray) ++ ⟨(Lib.itoa prio).toArray⟩ ++ ⟨([10] : List UInt8).toArray⟩ = _
    rw [mk_app, mk_app]; simp [textK, headL, bodyL])
  clear hbx hI hlen hi hB1
  go_enter Tryd.func13, Tryd.ntmps13
  go_wp2_with (first
    | (go_at_call 24; (with_reducible refine HD.out.mono ?_); rintro e w4 ⟨rfl, h4⟩
       have hX4 := HX.out.below h4 HX.out.lt
       have x1 := hX4.cell 1
       simp only [List.getElem?_toArray, List.getElem?_cons_zero, List.getElem?_cons_succ] at x1
       have HB4 := Lib.hid (HB.out.trans (h4.mono HB.out.size))
       clear h4 hX4))
  rw [E.out]
  obtain ⟨n, hn⟩ : ∃ n, l.length = n := ⟨_, rfl⟩
  have HN := Lib.hid hn
  rw [hn] at hl x1 ⊢
  clear hn x0 hs1 hs2 E HD HX HB
  go_loopw [14, 3] (fun i v wr => ∃ k : Nat, k ≤ n ∧ i = .int .i64 k ∧ v = .string ⟨(textK prio l k).toArray⟩ ∧ Below w.heap.size w wr) (fun i _ _ => n - (intOf i).toNat)
  case atStart => exact ⟨0, Nat.zero_le _, rfl, rfl, HB4.out⟩
  case round =>
    obtain ⟨k, hk, rfl, rfl, hb⟩ := hrel
    by_cases hkn : k < n
    · obtain ⟨x, hx⟩ : ∃ x, l[k]? = some x := ⟨_, List.getElem?_eq_getElem (by rw [HN.out]; exact hkn)⟩
      obtain ⟨ft, bb, off, rfl, hbb, c0, c1, c2, c3⟩ := (HI.out.below hb) k x hx
      have CI := Lib.hid (refIns_any x ft (wr.alloc (.cells #[.int .i64 x.op, .int .i64 x.a, .int .i64 x.b, .int .i32 x.n] 38)))
      have hbx := Blk.new wr 38 #[.int .i64 x.op, .int .i64 x.a, .int .i64 x.b, .int .i32 x.n]
      have y0 := hbx.cell 0; have y1 := hbx.cell 1; have y2 := hbx.cell 2; have y3 := hbx.cell 3
      simp only [List.getElem?_toArray, List.getElem?_cons_zero, List.getElem?_cons_succ] at y0 y1 y2 y3
      have k0 : (0 : Int) ≤ (k : Int) := by omega
      have k1 : (k : Int) < (n : Int) := by omega
      have HB2 := Lib.hid (hb.alloc hb.size (.cells #[.int .i64 x.op, .int .i64 x.a, .int .i64 x.b, .int .i32 x.n] 38))
      have HX := Lib.hid hx
      have hll := (ln_len x ft).2.2.2.2.2
      have hkl := HLEN.out k
      have hs1 : ¬ 9223372036854775807 < 1 + (insL x).length := by omega
      have hs2 : ¬ 9223372036854775807 < 1 + (insL x).length + 1 := by omega
      have hs3 : ¬ 9223372036854775807 < (textK prio l k).length + (1 + (insL x).length + 1) := by omega
      have E2 := Lib.hid (show (⟨(textK prio l k).toArray⟩ : ByteArray) ++ (⟨#[9]⟩ ++ ⟨(insL x).toArray⟩ ++ ⟨#[10]⟩) = ⟨(textK prio l (k + 1)).toArray⟩ by
        show (⟨(textK prio l k).toArray⟩ : ByteArray) ++ (⟨([9] : List UInt8).toArray⟩ ++ ⟨(insL x).toArray⟩ ++ ⟨([10] : List UInt8).toArray⟩) = _
        rw [mk_app, mk_app, mk_app, textK_next hx]; simp [lineL])
      clear hbx ft hx hb hll hkl
      go_wp2_with (go_at_call 25; (with_reducible refine CI.out.mono ?_); rintro e w6 ⟨rfl, h6⟩; have H6 := Lib.hid h6; clear h6)
      go_roundw
      case rel => exact ⟨k + 1, by omega, by go_num, by rw [E2.out], HB2.out.trans (H6.out.mono HB2.out.size)⟩
      case measure => simp [intOf]; omega
    · obtain rfl : k = n := by omega
      have HB := Lib.hid hb
      have ht : textK prio l k = textL prio l := by unfold textK textL; rw [List.take_of_length_le (by rw [HN.out]; omega)]
      rw [ht]
      have t : ¬ (k : Int) < (k : Int) := by omega
      clear hb ht
      go_wp2_with fail
      go_ret
      exact ⟨rfl, HB.out⟩
end Go.Proofs.YtndekdelhngblaaDoor
