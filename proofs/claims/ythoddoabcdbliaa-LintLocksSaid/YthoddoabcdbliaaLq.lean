/- lint's Next, in a fine program. -/
import Derived.Test.YthoddoabcdbliaaLm
namespace Go.Proofs.Ythoddoabcdbliaa
open Go.RowKit

set_option maxRecDepth 100000 in
set_option maxHeartbeats 4000000 in
theorem next_14 (a b n : Int) (prio : Int) (A : Option Addr) (l : List I4) (cap k : Nat) (w : World) (hI : InsIn w A l) (hx : l[k]? = some ⟨14, a, b, n⟩) (hf : Fine prio l) :
    Calls Try.prog 12 #[.agg #[.int .i64 prio, .slice A l.length cap], .int .i64 k] w (NextP (nextP ⟨14, a, b, n⟩ k) w) := by
  have kl : k < l.length := (List.getElem?_eq_some_iff.1 hx).1
  have hin := nextP_in hf hx (hI k _ hx).1.n
  have hb := Blk.new w 24 #[.int .i64 prio, .slice A l.length cap]
  have hB : Below w.heap.size w (w.alloc (.cells #[.int .i64 prio, .slice A l.length cap] 24)) := (Below.refl _ _).alloc (Nat.le_refl _) _
  have HP := isPlace_any prio A l.length cap k (w.alloc (.cells #[.int .i64 prio, .slice A l.length cap] 24)) hf.len.2
  rw [decide_eq_true (by omega)] at HP
  have HP := Lib.hid HP
  have HI := Lib.hid hI; have HX := Lib.hid hx; have HB := Lib.hid hb; have HBB := Lib.hid hB
  have kl64 : l.length ≤ 64 := hf.len.2
  have HDF : Hid (∀ (W : World) (B : Option Addr) (ys : List Int) (cap' : Nat), Blk W w.heap.size 24 #[.int .i64 prio, .slice A l.length cap] → NumsIn W B ys → (∀ y ∈ ys, 0 ≤ y ∧ y < (l.length : Int)) → ys.length ≤ 2 → Calls Try.prog 25 #[.slice B ys.length cap', .func (.func 26) #[] #[.pointer (some ⟨w.heap.size, 0, none⟩)]] W (GotB W.heap.size (.slice B ys.length cap') W)) := fun W B ys cap' h1 h2 h3 h4 => deleteFunc_none w.heap.size prio A l.length cap B ys cap' W kl64 h1 h2 h3 h4
  clear hI hx hf hb hB
  generalize l.length = N at *
  have x0 := HB.out.cell 0; have x1 := HB.out.cell 1
  simp only [List.getElem?_toArray, List.getElem?_cons_zero, List.getElem?_cons_succ] at x0 x1
  go_enter Try.func12, Try.ntmps12
  go_wp2_with fail
  refine HP.out.mono ?_
  rintro e w2 ⟨rfl, h2⟩
  have HB2 := Lib.hid (HB.out.below h2 HB.out.lt)
  have HBB2 := Lib.hid (HBB.out.trans (h2.mono HBB.out.size))
  clear h2 x0 x1 HB HBB HP
  have x0 := HB2.out.cell 0; have x1 := HB2.out.cell 1
  simp only [List.getElem?_toArray, List.getElem?_cons_zero, List.getElem?_cons_succ] at x0 x1
  obtain ⟨ft, bb, off, rfl, -, c0, c1, c2, c3⟩ := (HI.out.below HBB2.out) k _ HX.out
  obtain ⟨n0, n1⟩ := ft.n
  have k0 : (0 : Int) ≤ (k : Int) := by omega
  have k1 : (k : Int) < (N : Int) := by omega
  dsimp only at c0 c1 c2 c3 n0 n1
  clear ft
  go_wp2_with fail
  go_quiet (fail)
  have HB3 : Hid (Blk (w2.drewN nq) w.heap.size 24 #[.int .i64 prio, .slice (some ⟨bb, off, none⟩) N cap]) := HB2.out
  have HBB3 : Hid (Below w.heap.size w (w2.drewN nq)) := below_drewN HBB2.out _
  have c0' : (w2.drewN nq).cell? ⟨bb, off + k * 4, none⟩ = some (.int .i64 14) := c0
  have x1' : (w2.drewN nq).cell? ⟨w.heap.size, 1, none⟩ = some (.slice (some ⟨bb, off, none⟩) N cap) := x1
  clear x0 x1 c0 c1 c2 c3 HB2 HBB2
  have HSZ := Lib.hid HBB3.out.size
  generalize w2.drewN nq = W at *
  have HD : Hid (Calls Try.prog 25 #[.slice none 0 0, .func (.func 26) #[] #[.pointer (some ⟨w.heap.size, 0, none⟩)]] W (GotB W.heap.size (.slice none 0 0) W)) := HDF.out W none [] 0 HB3.out (fun i x hx => by simp at hx) (fun y hy => by simp at hy) (by simp)
  clear hin HDF HB3
  go_wp2_with (go_at_call 25; (with_reducible refine HD.out.mono ?_); rintro e w5 ⟨rfl, h5⟩; have H5 := Lib.hid h5; clear h5)
  go_ret
  exact ⟨none, 0, rfl, fun i x hx => by simp [nextP] at hx, HBB3.out.trans (H5.out.mono HBB3.out.size), fun a ha => by cases ha⟩
set_option maxRecDepth 100000 in
set_option maxHeartbeats 4000000 in
theorem next_4 (a b n : Int) (prio : Int) (A : Option Addr) (l : List I4) (cap k : Nat) (w : World) (hI : InsIn w A l) (hx : l[k]? = some ⟨4, a, b, n⟩) (hf : Fine prio l) :
    Calls Try.prog 12 #[.agg #[.int .i64 prio, .slice A l.length cap], .int .i64 k] w (NextP (nextP ⟨4, a, b, n⟩ k) w) := by
  have kl : k < l.length := (List.getElem?_eq_some_iff.1 hx).1
  have hin := nextP_in hf hx (hI k _ hx).1.n
  have hb := Blk.new w 24 #[.int .i64 prio, .slice A l.length cap]
  have hB : Below w.heap.size w (w.alloc (.cells #[.int .i64 prio, .slice A l.length cap] 24)) := (Below.refl _ _).alloc (Nat.le_refl _) _
  have HP := isPlace_any prio A l.length cap k (w.alloc (.cells #[.int .i64 prio, .slice A l.length cap] 24)) hf.len.2
  rw [decide_eq_true (by omega)] at HP
  have HP := Lib.hid HP
  have HI := Lib.hid hI; have HX := Lib.hid hx; have HB := Lib.hid hb; have HBB := Lib.hid hB
  have kl64 : l.length ≤ 64 := hf.len.2
  have HDF : Hid (∀ (W : World) (B : Option Addr) (ys : List Int) (cap' : Nat), Blk W w.heap.size 24 #[.int .i64 prio, .slice A l.length cap] → NumsIn W B ys → (∀ y ∈ ys, 0 ≤ y ∧ y < (l.length : Int)) → ys.length ≤ 2 → Calls Try.prog 25 #[.slice B ys.length cap', .func (.func 26) #[] #[.pointer (some ⟨w.heap.size, 0, none⟩)]] W (GotB W.heap.size (.slice B ys.length cap') W)) := fun W B ys cap' h1 h2 h3 h4 => deleteFunc_none w.heap.size prio A l.length cap B ys cap' W kl64 h1 h2 h3 h4
  clear hI hx hf hb hB
  generalize l.length = N at *
  have x0 := HB.out.cell 0; have x1 := HB.out.cell 1
  simp only [List.getElem?_toArray, List.getElem?_cons_zero, List.getElem?_cons_succ] at x0 x1
  go_enter Try.func12, Try.ntmps12
  go_wp2_with fail
  refine HP.out.mono ?_
  rintro e w2 ⟨rfl, h2⟩
  have HB2 := Lib.hid (HB.out.below h2 HB.out.lt)
  have HBB2 := Lib.hid (HBB.out.trans (h2.mono HBB.out.size))
  clear h2 x0 x1 HB HBB HP
  have x0 := HB2.out.cell 0; have x1 := HB2.out.cell 1
  simp only [List.getElem?_toArray, List.getElem?_cons_zero, List.getElem?_cons_succ] at x0 x1
  obtain ⟨ft, bb, off, rfl, -, c0, c1, c2, c3⟩ := (HI.out.below HBB2.out) k _ HX.out
  obtain ⟨n0, n1⟩ := ft.n
  have k0 : (0 : Int) ≤ (k : Int) := by omega
  have k1 : (k : Int) < (N : Int) := by omega
  dsimp only at c0 c1 c2 c3 n0 n1
  clear ft
  go_wp2_with fail
  go_quiet (fail)
  have HB3 : Hid (Blk (w2.drewN nq) w.heap.size 24 #[.int .i64 prio, .slice (some ⟨bb, off, none⟩) N cap]) := HB2.out
  have HBB3 : Hid (Below w.heap.size w (w2.drewN nq)) := below_drewN HBB2.out _
  have c0' : (w2.drewN nq).cell? ⟨bb, off + k * 4, none⟩ = some (.int .i64 4) := c0
  have x1' : (w2.drewN nq).cell? ⟨w.heap.size, 1, none⟩ = some (.slice (some ⟨bb, off, none⟩) N cap) := x1
  clear x0 x1 c0 c1 c2 c3 HB2 HBB2
  have HSZ := Lib.hid HBB3.out.size
  generalize w2.drewN nq = W at *
  have hn := Blk.new W 3 #[.int .i64 n]
  have bn : Below W.heap.size W (W.alloc (.cells #[.int .i64 n] 3)) := (Below.refl _ _).alloc (Nat.le_refl _) _
  have hr : NumsIn (W.alloc (.cells #[.int .i64 n] 3)) (some ⟨W.heap.size, 0, none⟩) [n] := fun i x hx => by
    match i, hx with
    | 0, hx => cases hx; exact ⟨_, 0, rfl, hn.lt, hn.cell 0⟩
    | i + 1, hx => simp at hx
  have HD := HDF.out _ _ [n] 1 (HB3.out.below bn HB3.out.lt) hr (by simpa [nextP] using hin) (by simp)
  have HD : Hid (Calls Try.prog 25 #[.slice (some ⟨W.heap.size, 0, none⟩) 1 1, .func (.func 26) #[] #[.pointer (some ⟨w.heap.size, 0, none⟩)]] (W.alloc (.cells #[.int .i64 n] 3)) (GotB (W.alloc (.cells #[.int .i64 n] 3)).heap.size (.slice (some ⟨W.heap.size, 0, none⟩) 1 1) (W.alloc (.cells #[.int .i64 n] 3)))) := HD
  have HR := Lib.hid hr; have HBN := Lib.hid (HBB3.out.trans (bn.mono HBB3.out.size))
  clear hn bn hr hin HDF HB3 HBB3
  go_wp2_with (go_at_call 25; (with_reducible refine HD.out.mono ?_); rintro e w5 ⟨rfl, h5⟩; have H5 := Lib.hid h5; clear h5)
  go_ret
  refine ⟨some ⟨W.heap.size, 0, none⟩, 1, ?_, ?_, HBN.out.trans (H5.out.mono HBN.out.size), fun a ha => by cases ha; exact HSZ.out⟩
  · simp [nextP]
  · have := HR.out.below H5.out; simpa [nextP] using this
set_option maxRecDepth 100000 in
set_option maxHeartbeats 4000000 in
theorem next_on (op a b n : Int) (prio : Int) (A : Option Addr) (l : List I4) (cap k : Nat) (w : World) (hI : InsIn w A l) (hx : l[k]? = some ⟨op, a, b, n⟩) (hf : Fine prio l) (h4 : op ≠ 4) (h5 : op ≠ 5) (h14 : op ≠ 14) :
    Calls Try.prog 12 #[.agg #[.int .i64 prio, .slice A l.length cap], .int .i64 k] w (NextP (nextP ⟨op, a, b, n⟩ k) w) := by
  have kl : k < l.length := (List.getElem?_eq_some_iff.1 hx).1
  have hin := nextP_in hf hx (hI k _ hx).1.n
  have hb := Blk.new w 24 #[.int .i64 prio, .slice A l.length cap]
  have hB : Below w.heap.size w (w.alloc (.cells #[.int .i64 prio, .slice A l.length cap] 24)) := (Below.refl _ _).alloc (Nat.le_refl _) _
  have HP := isPlace_any prio A l.length cap k (w.alloc (.cells #[.int .i64 prio, .slice A l.length cap] 24)) hf.len.2
  rw [decide_eq_true (by omega)] at HP
  have HP := Lib.hid HP
  have HI := Lib.hid hI; have HX := Lib.hid hx; have HB := Lib.hid hb; have HBB := Lib.hid hB
  have kl64 : l.length ≤ 64 := hf.len.2
  have HDF : Hid (∀ (W : World) (B : Option Addr) (ys : List Int) (cap' : Nat), Blk W w.heap.size 24 #[.int .i64 prio, .slice A l.length cap] → NumsIn W B ys → (∀ y ∈ ys, 0 ≤ y ∧ y < (l.length : Int)) → ys.length ≤ 2 → Calls Try.prog 25 #[.slice B ys.length cap', .func (.func 26) #[] #[.pointer (some ⟨w.heap.size, 0, none⟩)]] W (GotB W.heap.size (.slice B ys.length cap') W)) := fun W B ys cap' h1 h2 h3 h4 => deleteFunc_none w.heap.size prio A l.length cap B ys cap' W kl64 h1 h2 h3 h4
  clear hI hx hf hb hB
  generalize l.length = N at *
  have x0 := HB.out.cell 0; have x1 := HB.out.cell 1
  simp only [List.getElem?_toArray, List.getElem?_cons_zero, List.getElem?_cons_succ] at x0 x1
  go_enter Try.func12, Try.ntmps12
  go_wp2_with fail
  refine HP.out.mono ?_
  rintro e w2 ⟨rfl, h2⟩
  have HB2 := Lib.hid (HB.out.below h2 HB.out.lt)
  have HBB2 := Lib.hid (HBB.out.trans (h2.mono HBB.out.size))
  clear h2 x0 x1 HB HBB HP
  have x0 := HB2.out.cell 0; have x1 := HB2.out.cell 1
  simp only [List.getElem?_toArray, List.getElem?_cons_zero, List.getElem?_cons_succ] at x0 x1
  obtain ⟨ft, bb, off, rfl, -, c0, c1, c2, c3⟩ := (HI.out.below HBB2.out) k _ HX.out
  obtain ⟨n0, n1⟩ := ft.n
  have k0 : (0 : Int) ≤ (k : Int) := by omega
  have k1 : (k : Int) < (N : Int) := by omega
  dsimp only at c0 c1 c2 c3 n0 n1
  clear ft
  go_wp2_with fail
  go_quiet (fail)
  have HB3 : Hid (Blk (w2.drewN nq) w.heap.size 24 #[.int .i64 prio, .slice (some ⟨bb, off, none⟩) N cap]) := HB2.out
  have HBB3 : Hid (Below w.heap.size w (w2.drewN nq)) := below_drewN HBB2.out _
  have c0' : (w2.drewN nq).cell? ⟨bb, off + k * 4, none⟩ = some (.int .i64 op) := c0
  have x1' : (w2.drewN nq).cell? ⟨w.heap.size, 1, none⟩ = some (.slice (some ⟨bb, off, none⟩) N cap) := x1
  clear x0 x1 c0 c1 c2 c3 HB2 HBB2
  have HSZ := Lib.hid HBB3.out.size
  generalize w2.drewN nq = W at *
  have q4 : (op == 4) = false := by simpa using h4
  have q5 : (op == 5) = false := by simpa using h5
  have q14 : (op == 14) = false := by simpa using h14
  have hn := Blk.new W 3 #[.int .i64 ((k : Int) + 1)]
  have bn : Below W.heap.size W (W.alloc (.cells #[.int .i64 ((k : Int) + 1)] 3)) := (Below.refl _ _).alloc (Nat.le_refl _) _
  have hr : NumsIn (W.alloc (.cells #[.int .i64 ((k : Int) + 1)] 3)) (some ⟨W.heap.size, 0, none⟩) [((k : Int) + 1)] := fun i x hx => by
    match i, hx with
    | 0, hx => cases hx; exact ⟨_, 0, rfl, hn.lt, hn.cell 0⟩
    | i + 1, hx => simp at hx
  have HD := HDF.out _ _ [((k : Int) + 1)] 1 (HB3.out.below bn HB3.out.lt) hr (by simpa [nextP, h4, h5, h14] using hin) (by simp)
  have HD : Hid (Calls Try.prog 25 #[.slice (some ⟨W.heap.size, 0, none⟩) 1 1, .func (.func 26) #[] #[.pointer (some ⟨w.heap.size, 0, none⟩)]] (W.alloc (.cells #[.int .i64 ((k : Int) + 1)] 3)) (GotB (W.alloc (.cells #[.int .i64 ((k : Int) + 1)] 3)).heap.size (.slice (some ⟨W.heap.size, 0, none⟩) 1 1) (W.alloc (.cells #[.int .i64 ((k : Int) + 1)] 3)))) := HD
  have HR := Lib.hid hr; have HBN := Lib.hid (HBB3.out.trans (bn.mono HBB3.out.size))
  clear hn bn hr hin HDF HB3 HBB3
  go_wp2_with (go_at_call 25; (with_reducible refine HD.out.mono ?_); rintro e w5 ⟨rfl, h5⟩; have H5 := Lib.hid h5; clear h5)
  go_ret
  refine ⟨some ⟨W.heap.size, 0, none⟩, 1, ?_, ?_, HBN.out.trans (H5.out.mono HBN.out.size), fun a ha => by cases ha; exact HSZ.out⟩
  · simp [nextP, h4, h5, h14]
  · have := HR.out.below H5.out; simpa [nextP, h4, h5, h14] using this
set_option maxRecDepth 100000 in
set_option maxHeartbeats 4000000 in
theorem next_5_eq (a b : Int) (prio : Int) (A : Option Addr) (l : List I4) (cap k : Nat) (w : World) (hI : InsIn w A l) (hx : l[k]? = some ⟨5, a, b, (k : Int) + 1⟩) (hf : Fine prio l) :
    Calls Try.prog 12 #[.agg #[.int .i64 prio, .slice A l.length cap], .int .i64 k] w (NextP (nextP ⟨5, a, b, (k : Int) + 1⟩ k) w) := by
  have kl : k < l.length := (List.getElem?_eq_some_iff.1 hx).1
  have hin := nextP_in hf hx (hI k _ hx).1.n
  have hb := Blk.new w 24 #[.int .i64 prio, .slice A l.length cap]
  have hB : Below w.heap.size w (w.alloc (.cells #[.int .i64 prio, .slice A l.length cap] 24)) := (Below.refl _ _).alloc (Nat.le_refl _) _
  have HP := isPlace_any prio A l.length cap k (w.alloc (.cells #[.int .i64 prio, .slice A l.length cap] 24)) hf.len.2
  rw [decide_eq_true (by omega)] at HP
  have HP := Lib.hid HP
  have HI := Lib.hid hI; have HX := Lib.hid hx; have HB := Lib.hid hb; have HBB := Lib.hid hB
  have kl64 : l.length ≤ 64 := hf.len.2
  have HDF : Hid (∀ (W : World) (B : Option Addr) (ys : List Int) (cap' : Nat), Blk W w.heap.size 24 #[.int .i64 prio, .slice A l.length cap] → NumsIn W B ys → (∀ y ∈ ys, 0 ≤ y ∧ y < (l.length : Int)) → ys.length ≤ 2 → Calls Try.prog 25 #[.slice B ys.length cap', .func (.func 26) #[] #[.pointer (some ⟨w.heap.size, 0, none⟩)]] W (GotB W.heap.size (.slice B ys.length cap') W)) := fun W B ys cap' h1 h2 h3 h4 => deleteFunc_none w.heap.size prio A l.length cap B ys cap' W kl64 h1 h2 h3 h4
  clear hI hx hf hb hB
  generalize l.length = N at *
  have x0 := HB.out.cell 0; have x1 := HB.out.cell 1
  simp only [List.getElem?_toArray, List.getElem?_cons_zero, List.getElem?_cons_succ] at x0 x1
  go_enter Try.func12, Try.ntmps12
  go_wp2_with fail
  refine HP.out.mono ?_
  rintro e w2 ⟨rfl, h2⟩
  have HB2 := Lib.hid (HB.out.below h2 HB.out.lt)
  have HBB2 := Lib.hid (HBB.out.trans (h2.mono HBB.out.size))
  clear h2 x0 x1 HB HBB HP
  have x0 := HB2.out.cell 0; have x1 := HB2.out.cell 1
  simp only [List.getElem?_toArray, List.getElem?_cons_zero, List.getElem?_cons_succ] at x0 x1
  obtain ⟨ft, bb, off, rfl, -, c0, c1, c2, c3⟩ := (HI.out.below HBB2.out) k _ HX.out
  obtain ⟨n0, n1⟩ := ft.n
  have k0 : (0 : Int) ≤ (k : Int) := by omega
  have k1 : (k : Int) < (N : Int) := by omega
  dsimp only at c0 c1 c2 c3 n0 n1
  clear ft
  go_wp2_with fail
  go_quiet (fail)
  have HB3 : Hid (Blk (w2.drewN nq) w.heap.size 24 #[.int .i64 prio, .slice (some ⟨bb, off, none⟩) N cap]) := HB2.out
  have HBB3 : Hid (Below w.heap.size w (w2.drewN nq)) := below_drewN HBB2.out _
  have c0' : (w2.drewN nq).cell? ⟨bb, off + k * 4, none⟩ = some (.int .i64 5) := c0
  have x1' : (w2.drewN nq).cell? ⟨w.heap.size, 1, none⟩ = some (.slice (some ⟨bb, off, none⟩) N cap) := x1
  clear x0 x1 c0 c1 c2 c3 HB2 HBB2
  have HSZ := Lib.hid HBB3.out.size
  generalize w2.drewN nq = W at *
  have hn := Blk.new W 3 #[.int .i64 ((k : Int) + 1), .int .i64 ((k : Int) + 1)]
  have bn : Below W.heap.size W (W.alloc (.cells #[.int .i64 ((k : Int) + 1), .int .i64 ((k : Int) + 1)] 3)) := (Below.refl _ _).alloc (Nat.le_refl _) _
  have HC := Lib.hid (compact_eq W.heap.size ((k : Int) + 1) _ hn)
  have HBN := Lib.hid (HBB3.out.trans (bn.mono HBB3.out.size)); have HPN := Lib.hid (HB3.out.below bn HB3.out.lt)
  have hlt := HB3.out.lt
  clear hn bn HB3
  go_wp2_with fail
  refine HC.out.mono ?_
  rintro e w4 ⟨rfl, h4, g4⟩
  have hr : NumsIn w4 (some ⟨W.heap.size, 0, none⟩) [(k : Int) + 1] := fun i x hx => by
    match i, hx with
    | 0, hx => cases hx; exact ⟨_, 0, rfl, g4.lt, g4.cell 0⟩
    | i + 1, hx => simp at hx
  have HP4 := HPN.out.but h4 (by omega)
  have HB4 : Below w.heap.size w w4 := HBN.out.trans (h4.below HBN.out.size fun _ _ q => by rw [q]; exact HBB3.out.size)
  have HD : Hid (Calls Try.prog 25 #[.slice (some ⟨W.heap.size, 0, none⟩) 1 2, .func (.func 26) #[] #[.pointer (some ⟨w.heap.size, 0, none⟩)]] w4 (GotB w4.heap.size (.slice (some ⟨W.heap.size, 0, none⟩) 1 2) w4)) := HDF.out w4 _ [(k : Int) + 1] 2 HP4 hr (by simpa [nextP] using hin) (by simp)
  have HR := Lib.hid hr; have HB4 := Lib.hid HB4
  clear hr h4 g4 HP4 HPN HC hin HDF
  dsimp only
  go_wp2_with (go_at_call 25; (with_reducible refine HD.out.mono ?_); rintro e w5 ⟨rfl, h5⟩; have H5 := Lib.hid h5; clear h5)
  go_ret
  refine ⟨some ⟨W.heap.size, 0, none⟩, 2, ?_, ?_, HB4.out.trans (H5.out.mono HB4.out.size), fun a ha => by cases ha; exact HSZ.out⟩
  · simp [nextP]
  · have := HR.out.below H5.out; simpa [nextP] using this
set_option maxRecDepth 100000 in
set_option maxHeartbeats 4000000 in
theorem next_5_lo (a b n : Int) (prio : Int) (A : Option Addr) (l : List I4) (cap k : Nat) (w : World) (hI : InsIn w A l) (hx : l[k]? = some ⟨5, a, b, n⟩) (hf : Fine prio l) (hn5 : n < (k : Int) + 1) :
    Calls Try.prog 12 #[.agg #[.int .i64 prio, .slice A l.length cap], .int .i64 k] w (NextP (nextP ⟨5, a, b, n⟩ k) w) := by
  have kl : k < l.length := (List.getElem?_eq_some_iff.1 hx).1
  have hin := nextP_in hf hx (hI k _ hx).1.n
  have hb := Blk.new w 24 #[.int .i64 prio, .slice A l.length cap]
  have hB : Below w.heap.size w (w.alloc (.cells #[.int .i64 prio, .slice A l.length cap] 24)) := (Below.refl _ _).alloc (Nat.le_refl _) _
  have HP := isPlace_any prio A l.length cap k (w.alloc (.cells #[.int .i64 prio, .slice A l.length cap] 24)) hf.len.2
  rw [decide_eq_true (by omega)] at HP
  have HP := Lib.hid HP
  have HI := Lib.hid hI; have HX := Lib.hid hx; have HB := Lib.hid hb; have HBB := Lib.hid hB
  have kl64 : l.length ≤ 64 := hf.len.2
  have HDF : Hid (∀ (W : World) (B : Option Addr) (ys : List Int) (cap' : Nat), Blk W w.heap.size 24 #[.int .i64 prio, .slice A l.length cap] → NumsIn W B ys → (∀ y ∈ ys, 0 ≤ y ∧ y < (l.length : Int)) → ys.length ≤ 2 → Calls Try.prog 25 #[.slice B ys.length cap', .func (.func 26) #[] #[.pointer (some ⟨w.heap.size, 0, none⟩)]] W (GotB W.heap.size (.slice B ys.length cap') W)) := fun W B ys cap' h1 h2 h3 h4 => deleteFunc_none w.heap.size prio A l.length cap B ys cap' W kl64 h1 h2 h3 h4
  clear hI hx hf hb hB
  generalize l.length = N at *
  have x0 := HB.out.cell 0; have x1 := HB.out.cell 1
  simp only [List.getElem?_toArray, List.getElem?_cons_zero, List.getElem?_cons_succ] at x0 x1
  go_enter Try.func12, Try.ntmps12
  go_wp2_with fail
  refine HP.out.mono ?_
  rintro e w2 ⟨rfl, h2⟩
  have HB2 := Lib.hid (HB.out.below h2 HB.out.lt)
  have HBB2 := Lib.hid (HBB.out.trans (h2.mono HBB.out.size))
  clear h2 x0 x1 HB HBB HP
  have x0 := HB2.out.cell 0; have x1 := HB2.out.cell 1
  simp only [List.getElem?_toArray, List.getElem?_cons_zero, List.getElem?_cons_succ] at x0 x1
  obtain ⟨ft, bb, off, rfl, -, c0, c1, c2, c3⟩ := (HI.out.below HBB2.out) k _ HX.out
  obtain ⟨n0, n1⟩ := ft.n
  have k0 : (0 : Int) ≤ (k : Int) := by omega
  have k1 : (k : Int) < (N : Int) := by omega
  dsimp only at c0 c1 c2 c3 n0 n1
  clear ft
  go_wp2_with fail
  go_quiet (fail)
  have HB3 : Hid (Blk (w2.drewN nq) w.heap.size 24 #[.int .i64 prio, .slice (some ⟨bb, off, none⟩) N cap]) := HB2.out
  have HBB3 : Hid (Below w.heap.size w (w2.drewN nq)) := below_drewN HBB2.out _
  have c0' : (w2.drewN nq).cell? ⟨bb, off + k * 4, none⟩ = some (.int .i64 5) := c0
  have x1' : (w2.drewN nq).cell? ⟨w.heap.size, 1, none⟩ = some (.slice (some ⟨bb, off, none⟩) N cap) := x1
  clear x0 x1 c0 c1 c2 c3 HB2 HBB2
  have HSZ := Lib.hid HBB3.out.size
  generalize w2.drewN nq = W at *
  have hn := Blk.new W 3 #[.int .i64 n, .int .i64 ((k : Int) + 1)]
  have bn : Below W.heap.size W (W.alloc (.cells #[.int .i64 n, .int .i64 ((k : Int) + 1)] 3)) := (Below.refl _ _).alloc (Nat.le_refl _) _
  have hmin : min ((k : Int) + 1) n = n := by omega
  have hmax : max ((k : Int) + 1) n = ((k : Int) + 1) := by omega
  have hne : n ≠ (k : Int) + 1 := by omega
  have hnx : nextP ⟨5, a, b, n⟩ k = [n, ((k : Int) + 1)] := by simp [nextP, hne, hmin, hmax]
  rw [hnx] at hin
  have HNX := Lib.hid hnx
  have HC := Lib.hid (compact_ne W.heap.size n ((k : Int) + 1) _ hn (by omega))
  have HBN := Lib.hid (HBB3.out.trans (bn.mono HBB3.out.size)); have HPN := Lib.hid (HB3.out.below bn HB3.out.lt); have HN := Lib.hid hn
  clear hn bn HB3 hmin hmax hne hnx
  go_wp2_with fail
  refine HC.out.mono ?_
  rintro e w4 ⟨rfl, h4⟩
  have g4 := HN.out.below h4 HN.out.lt
  have hr : NumsIn w4 (some ⟨W.heap.size, 0, none⟩) [n, ((k : Int) + 1)] := fun i x hx => by
    match i, hx with
    | 0, hx => cases hx; exact ⟨_, 0, rfl, g4.lt, g4.cell 0⟩
    | 1, hx => cases hx; exact ⟨_, 0, rfl, g4.lt, g4.cell 1⟩
    | i + 2, hx => simp at hx
  have HP4 := HPN.out.below h4 HPN.out.lt
  have HB4 := HBN.out.trans (h4.mono HBN.out.size)
  have HD : Hid (Calls Try.prog 25 #[.slice (some ⟨W.heap.size, 0, none⟩) 2 2, .func (.func 26) #[] #[.pointer (some ⟨w.heap.size, 0, none⟩)]] w4 (GotB w4.heap.size (.slice (some ⟨W.heap.size, 0, none⟩) 2 2) w4)) := HDF.out w4 _ [n, ((k : Int) + 1)] 2 HP4 hr hin (by simp)
  have HR := Lib.hid hr; have HB4 := Lib.hid HB4
  clear hr h4 g4 HP4 HPN HC hin HDF
  dsimp only
  go_wp2_with (go_at_call 25; (with_reducible refine HD.out.mono ?_); rintro e w5 ⟨rfl, h5⟩; have H5 := Lib.hid h5; clear h5)
  go_ret
  refine ⟨some ⟨W.heap.size, 0, none⟩, 2, ?_, ?_, HB4.out.trans (H5.out.mono HB4.out.size), fun a ha => by cases ha; exact HSZ.out⟩
  · rw [HNX.out]; rfl
  · rw [HNX.out]; exact HR.out.below H5.out
set_option maxRecDepth 100000 in
set_option maxHeartbeats 4000000 in
theorem next_5_hi (a b n : Int) (prio : Int) (A : Option Addr) (l : List I4) (cap k : Nat) (w : World) (hI : InsIn w A l) (hx : l[k]? = some ⟨5, a, b, n⟩) (hf : Fine prio l) (hn5 : (k : Int) + 1 < n) :
    Calls Try.prog 12 #[.agg #[.int .i64 prio, .slice A l.length cap], .int .i64 k] w (NextP (nextP ⟨5, a, b, n⟩ k) w) := by
  have kl : k < l.length := (List.getElem?_eq_some_iff.1 hx).1
  have hin := nextP_in hf hx (hI k _ hx).1.n
  have hb := Blk.new w 24 #[.int .i64 prio, .slice A l.length cap]
  have hB : Below w.heap.size w (w.alloc (.cells #[.int .i64 prio, .slice A l.length cap] 24)) := (Below.refl _ _).alloc (Nat.le_refl _) _
  have HP := isPlace_any prio A l.length cap k (w.alloc (.cells #[.int .i64 prio, .slice A l.length cap] 24)) hf.len.2
  rw [decide_eq_true (by omega)] at HP
  have HP := Lib.hid HP
  have HI := Lib.hid hI; have HX := Lib.hid hx; have HB := Lib.hid hb; have HBB := Lib.hid hB
  have kl64 : l.length ≤ 64 := hf.len.2
  have HDF : Hid (∀ (W : World) (B : Option Addr) (ys : List Int) (cap' : Nat), Blk W w.heap.size 24 #[.int .i64 prio, .slice A l.length cap] → NumsIn W B ys → (∀ y ∈ ys, 0 ≤ y ∧ y < (l.length : Int)) → ys.length ≤ 2 → Calls Try.prog 25 #[.slice B ys.length cap', .func (.func 26) #[] #[.pointer (some ⟨w.heap.size, 0, none⟩)]] W (GotB W.heap.size (.slice B ys.length cap') W)) := fun W B ys cap' h1 h2 h3 h4 => deleteFunc_none w.heap.size prio A l.length cap B ys cap' W kl64 h1 h2 h3 h4
  clear hI hx hf hb hB
  generalize l.length = N at *
  have x0 := HB.out.cell 0; have x1 := HB.out.cell 1
  simp only [List.getElem?_toArray, List.getElem?_cons_zero, List.getElem?_cons_succ] at x0 x1
  go_enter Try.func12, Try.ntmps12
  go_wp2_with fail
  refine HP.out.mono ?_
  rintro e w2 ⟨rfl, h2⟩
  have HB2 := Lib.hid (HB.out.below h2 HB.out.lt)
  have HBB2 := Lib.hid (HBB.out.trans (h2.mono HBB.out.size))
  clear h2 x0 x1 HB HBB HP
  have x0 := HB2.out.cell 0; have x1 := HB2.out.cell 1
  simp only [List.getElem?_toArray, List.getElem?_cons_zero, List.getElem?_cons_succ] at x0 x1
  obtain ⟨ft, bb, off, rfl, -, c0, c1, c2, c3⟩ := (HI.out.below HBB2.out) k _ HX.out
  obtain ⟨n0, n1⟩ := ft.n
  have k0 : (0 : Int) ≤ (k : Int) := by omega
  have k1 : (k : Int) < (N : Int) := by omega
  dsimp only at c0 c1 c2 c3 n0 n1
  clear ft
  go_wp2_with fail
  go_quiet (fail)
  have HB3 : Hid (Blk (w2.drewN nq) w.heap.size 24 #[.int .i64 prio, .slice (some ⟨bb, off, none⟩) N cap]) := HB2.out
  have HBB3 : Hid (Below w.heap.size w (w2.drewN nq)) := below_drewN HBB2.out _
  have c0' : (w2.drewN nq).cell? ⟨bb, off + k * 4, none⟩ = some (.int .i64 5) := c0
  have x1' : (w2.drewN nq).cell? ⟨w.heap.size, 1, none⟩ = some (.slice (some ⟨bb, off, none⟩) N cap) := x1
  clear x0 x1 c0 c1 c2 c3 HB2 HBB2
  have HSZ := Lib.hid HBB3.out.size
  generalize w2.drewN nq = W at *
  have hn := Blk.new W 3 #[.int .i64 ((k : Int) + 1), .int .i64 n]
  have bn : Below W.heap.size W (W.alloc (.cells #[.int .i64 ((k : Int) + 1), .int .i64 n] 3)) := (Below.refl _ _).alloc (Nat.le_refl _) _
  have hmin : min ((k : Int) + 1) n = ((k : Int) + 1) := by omega
  have hmax : max ((k : Int) + 1) n = n := by omega
  have hne : n ≠ (k : Int) + 1 := by omega
  have hnx : nextP ⟨5, a, b, n⟩ k = [((k : Int) + 1), n] := by simp [nextP, hne, hmin, hmax]
  rw [hnx] at hin
  have HNX := Lib.hid hnx
  have HC := Lib.hid (compact_ne W.heap.size ((k : Int) + 1) n _ hn (by omega))
  have HBN := Lib.hid (HBB3.out.trans (bn.mono HBB3.out.size)); have HPN := Lib.hid (HB3.out.below bn HB3.out.lt); have HN := Lib.hid hn
  clear hn bn HB3 hmin hmax hne hnx
  go_wp2_with fail
  refine HC.out.mono ?_
  rintro e w4 ⟨rfl, h4⟩
  have g4 := HN.out.below h4 HN.out.lt
  have hr : NumsIn w4 (some ⟨W.heap.size, 0, none⟩) [((k : Int) + 1), n] := fun i x hx => by
    match i, hx with
    | 0, hx => cases hx; exact ⟨_, 0, rfl, g4.lt, g4.cell 0⟩
    | 1, hx => cases hx; exact ⟨_, 0, rfl, g4.lt, g4.cell 1⟩
    | i + 2, hx => simp at hx
  have HP4 := HPN.out.below h4 HPN.out.lt
  have HB4 := HBN.out.trans (h4.mono HBN.out.size)
  have HD : Hid (Calls Try.prog 25 #[.slice (some ⟨W.heap.size, 0, none⟩) 2 2, .func (.func 26) #[] #[.pointer (some ⟨w.heap.size, 0, none⟩)]] w4 (GotB w4.heap.size (.slice (some ⟨W.heap.size, 0, none⟩) 2 2) w4)) := HDF.out w4 _ [((k : Int) + 1), n] 2 HP4 hr hin (by simp)
  have HR := Lib.hid hr; have HB4 := Lib.hid HB4
  clear hr h4 g4 HP4 HPN HC hin HDF
  dsimp only
  go_wp2_with (go_at_call 25; (with_reducible refine HD.out.mono ?_); rintro e w5 ⟨rfl, h5⟩; have H5 := Lib.hid h5; clear h5)
  go_ret
  refine ⟨some ⟨W.heap.size, 0, none⟩, 2, ?_, ?_, HB4.out.trans (H5.out.mono HB4.out.size), fun a ha => by cases ha; exact HSZ.out⟩
  · rw [HNX.out]; rfl
  · rw [HNX.out]; exact HR.out.below H5.out
theorem next_any (x : I4) (prio : Int) (A : Option Addr) (l : List I4) (cap k : Nat) (w : World) (hI : InsIn w A l) (hx : l[k]? = some x) (hf : Fine prio l) :
    Calls Try.prog 12 #[.agg #[.int .i64 prio, .slice A l.length cap], .int .i64 k] w (NextP (nextP x k) w) := by
  obtain ⟨op, a, b, n⟩ := x
  by_cases h14 : op = 14
  · subst h14; exact next_14 a b n prio A l cap k w hI hx hf
  · by_cases h4 : op = 4
    · subst h4; exact next_4 a b n prio A l cap k w hI hx hf
    · by_cases h5 : op = 5
      · subst h5
        by_cases e : n = (k : Int) + 1
        · subst e; exact next_5_eq a b prio A l cap k w hI hx hf
        · by_cases e' : n < (k : Int) + 1
          · exact next_5_lo a b n prio A l cap k w hI hx hf e'
          · exact next_5_hi a b n prio A l cap k w hI hx hf (by omega)
      · exact next_on op a b n prio A l cap k w hI hx hf h4 h5 h14
end Go.Proofs.Ythoddoabcdbliaa
