/- prog's Print. -/
import Derived.Test.YtndekdelhngblaaDoorWm
import Derived.Deep.LoopGhost
namespace Go.Proofs.YtndekdelhngblaaDoor
open Go.RowKit

/-- A program's text as far as its first k instructions. -/
def textK (prio : Int) (l : List I4) (k : Nat) : List UInt8 := headL prio ++ [10] ++ bodyL (l.take k)
theorem textK_next {prio : Int} {l : List I4} {k : Nat} {x : I4} (hx : l[k]? = some x) : textK prio l (k + 1) = textK prio l k ++ (lineL x ++ [10]) := by
  have hk : k < l.length := (List.getElem?_eq_some_iff.1 hx).1
  have e : l.take (k + 1) = l.take k ++ [x] := by
    rw [← List.take_append_getElem hk, (List.getElem?_eq_some_iff.1 hx).2]
  unfold textK bodyL
  rw [e, List.flatMap_append]
  simp
theorem textK_len {prio : Int} {l : List I4} (hp : In64 prio) (hf : ∀ x ∈ l, Fits x) (k : Nat) : (textK prio l k).length ≤ 30 + 101 * k := by
  have h1 := Lib.itoa_length_le prio hp.1 hp.2
  induction k with
  | zero => simp [textK, headL, bodyL]; omega
  | succ k ih =>
    by_cases hk : k < l.length
    · have hx : l[k]? = some l[k] := List.getElem?_eq_getElem hk
      have := line_len l[k] (hf _ (List.getElem_mem hk))
      rw [textK_next hx]; simp; omega
    · have : textK prio l (k + 1) = textK prio l k := by
        unfold textK; rw [List.take_of_length_le (by omega), List.take_of_length_le (by omega)]
      rw [this]; omega
set_option maxRecDepth 100000 in
set_option maxHeartbeats 4000000 in
theorem print_any (prio : Int) (A : Option Addr) (l : List I4) (cap : Nat) (w : World) (hp : In64 prio) (hl : l.length ≤ 1000) (hT : Tabs w) (hI : InsIn w A l) :
    Calls Tryd.prog 12 #[.agg #[.int .i64 prio, .slice A l.length cap]] w (GotB w.heap.size (.string ⟨(textL prio l).toArray⟩) w) := by
  have hf : ∀ x ∈ l, Fits x := fun x hx => by
    obtain ⟨i, hi, rfl⟩ := List.mem_iff_getElem.1 hx
    exact (hI i _ (List.getElem?_eq_getElem hi)).1
  have hlen := textK_len hp hf
  have hh : (headL prio).length ≤ 30 := by have := Lib.itoa_length_le prio hp.1 hp.2; simp [headL]; omega
  have hT1 := hT.alloc (.cells #[.int .i64 prio, .slice A l.length cap] 24)
  have HH := Lib.hid (printHead_any prio hp _ hT1)
  have hbx := Blk.new w 24 #[.int .i64 prio, .slice A l.length cap]
  have x0 := hbx.cell 0
  simp only [List.getElem?_toArray, List.getElem?_cons_zero] at x0
  have HB := Lib.hid ((Below.refl w.heap.size w).alloc (Nat.le_refl _) (.cells #[.int .i64 prio, .slice A l.length cap] 24))
  have HX := Lib.hid hbx; have HT := Lib.hid hT; have HI := Lib.hid hI; have HLEN := Lib.hid hlen
  have hs : ¬ 9223372036854775807 < (headL prio).length + 1 := by omega
  have E := Lib.hid (show (⟨(headL prio).toArray⟩ : ByteArray) ++ ⟨#[10]⟩ = ⟨(textK prio l 0).toArray⟩ by rw [show (⟨#[10]⟩ : ByteArray) = ⟨[10].toArray⟩ from rfl, mk_app]; simp [textK, bodyL])
  clear hbx hT hT1 hI hlen hh
  go_enter Tryd.func12, Tryd.ntmps12
  go_wp2_with (go_at_call 22; (with_reducible refine HH.out.mono ?_); rintro e w4 ⟨rfl, h4⟩; have H4 := Lib.hid h4; clear h4)
  rw [E.out]
  obtain ⟨v5, W5, hcv, hM5, hB5⟩ : ∃ v5 W5, (convert 9 43 (.string ⟨(textK prio l 0).toArray⟩)).run Tryd.prog w4 = .ok v5 W5 ∧ MkB w4.heap.size v5 (textK prio l 0) W5 ∧ Below w4.heap.size w4 W5 :=
    ⟨_, _, conv_new w4 _, mkB_world w4 _ (by have := HLEN.out 0; omega)⟩
  have b4 : Below w.heap.size w w4 := HB.out.trans (H4.out.mono (by simp))
  have hB : Below w.heap.size w W5 := b4.trans (hB5.mono b4.size)
  have hM : MkB w.heap.size v5 (textK prio l 0) W5 := by
    obtain ⟨g, cap, cur, lo, hi, e, hg, r⟩ := hM5
    exact ⟨g, cap, cur, lo, hi, e, Nat.le_trans b4.size hg, r⟩
  have hX4 := HX.out.below H4.out (by simp)
  have hX5 := hX4.below hB5 hX4.lt
  have x1 := hX5.cell 1
  simp only [List.getElem?_toArray, List.getElem?_cons_zero, List.getElem?_cons_succ] at x1
  have HB := Lib.hid hB; have HM := Lib.hid hM
  clear x0 hX4 hX5 hB hM hM5 hB5 b4 HX H4 HH E
  obtain ⟨n, hn⟩ : ∃ n, l.length = n := ⟨_, rfl⟩
  have HN := Lib.hid hn
  rw [hn] at hl x1 ⊢
  clear hn
  rw [hcv]
  go_simp
  go_wp2_with fail
  go_loopg [14, 3] n (fun g i v wr => ∃ k, k ≤ n ∧ g = n - k ∧ i = .int .i64 k ∧ MkB w.heap.size v (textK prio l k) wr ∧ Below w.heap.size w wr)
  case atStart => exact ⟨0, Nat.zero_le _, rfl, rfl, HM.out, HB.out⟩
  case round =>
    obtain ⟨k, hk, hg, rfl, hm, hb⟩ := hrel
    have HG := Lib.hid hg; clear hg
    by_cases hkn : k < n
    · obtain ⟨x, hx⟩ : ∃ x, l[k]? = some x := ⟨_, List.getElem?_eq_getElem (by rw [HN.out]; exact hkn)⟩
      obtain ⟨ft, bb, off, rfl, hbb, c0, c1, c2, c3⟩ := (HI.out.below hb) k x hx
      have hT2 := (HT.out.on hb).alloc (.cells #[.int .i64 x.op, .int .i64 x.a, .int .i64 x.b, .int .i32 x.n] 38)
      have CI := Lib.hid (printIns_any x ft _ hT2)
      have hbx := Blk.new wr 38 #[.int .i64 x.op, .int .i64 x.a, .int .i64 x.b, .int .i32 x.n]
      have y0 := hbx.cell 0; have y1 := hbx.cell 1; have y2 := hbx.cell 2; have y3 := hbx.cell 3
      simp only [List.getElem?_toArray, List.getElem?_cons_zero, List.getElem?_cons_succ] at y0 y1 y2 y3
      have k0 : (0 : Int) ≤ (k : Int) := by omega
      have k1 : (k : Int) < (n : Int) := by omega
      have HM := Lib.hid (hm.below ((Below.refl wr.heap.size wr).alloc (Nat.le_refl _) (.cells #[.int .i64 x.op, .int .i64 x.a, .int .i64 x.b, .int .i32 x.n] 38)))
      have HB2 := Lib.hid (hb.alloc hb.size (.cells #[.int .i64 x.op, .int .i64 x.a, .int .i64 x.b, .int .i32 x.n] 38))
      have HX := Lib.hid hx
      have hll := line_len x ft
      have hs : ¬ 9223372036854775807 < (lineL x).length + 1 := by omega
      have hkl := HLEN.out k
      clear hbx hT2 ft hx hm hb
      go_wp2_with (first
        | (go_at_call 23; (with_reducible refine CI.out.mono ?_); rintro e w6 ⟨rfl, h6⟩; have H6 := Lib.hid h6; clear h6)
        | (at_builtin; refine haltW ?_))
      refine Lib.hid ?_
      have hM6 := HM.out.below H6.out
      have hB6 : Below w.heap.size w w6 := HB2.out.trans (H6.out.mono HB2.out.size)
      refine app_off rfl (.tmp 18) (.tmp 21) rfl rfl hM6 (lineL x ++ [10]) ?hx ?hl hB6.size ?_
      case hx => show Value.string (⟨(lineL x).toArray⟩ ++ ⟨[10].toArray⟩) = _; rw [mk_app]
      case hl => simp; omega
      intro v7 w7 hM7 hg7
      rw [← textK_next HX.out] at hM7
      have HM7 := Lib.hid hM7
      have HB7 := Lib.hid (hB6.grown hg7 hB6.size (fun b hb => (hM6.lt b hb).1))
      clear hM6 hB6 hM7 hg7
      go_wp2_with fail
      go_roundg (n - (k + 1))
      case measure => have := HG.out; omega
      case rel => exact ⟨k + 1, by omega, rfl, by go_num, HM7.out, HB7.out⟩
    · obtain rfl : k = n := by omega
      have hcb := conv_back hm
      have HB := Lib.hid hb
      have ht : textK prio l k = textL prio l := by unfold textK textL; rw [List.take_of_length_le (by rw [HN.out]; omega)]
      rw [ht] at hcb
      clear hm hb ht
      go_wp2_with fail
      go_ret
      exact ⟨rfl, HB.out⟩
end Go.Proofs.YtndekdelhngblaaDoor
