/- One lock, as the laws see it; layer 14's lives. -/
import Derived.Test.YtdomgipbadimmaaCs
import Derived.Test.YtdomgipbadimmaaCy
import Derived.Test.YtdomgipbadimmaaC2
namespace Go.Proofs.Ytdomgipbadimmaa
open Go.RowKit
set_option maxRecDepth 100000

/-- One lock of a law's own, in blocks of B. -/
def OneP (B : Nat → Prop) (pb lb : Nat) (c : Coh) (m : Nat) (w : World) : Prop := (∃ lab, CohL B pb lb lab [c] w) ∧ CohB c m
section
variable {B : Nat → Prop} {pb lb m : Nat} {c c' : Coh} {w : World}
theorem OneP.nob {w' : World} (h : OneP B pb lb c m w) (hb : But Nob w w') : OneP B pb lb c m w' := ⟨h.1.elim fun lab q => ⟨lab, q.nob hb⟩, h.2⟩
theorem OneP.b9 (h : OneP B pb lb c m w) (hm : m ≤ 900) : CohB c 900 := by
  obtain ⟨-, hb⟩ := h
  exact ⟨by have := hb.pas; omega, by have := hb.rnd; omega, fun r hr => by have := hb.row r hr; omega⟩
theorem OneP.ok (h : OneP B pb lb c m w) : CohOk c := let ⟨⟨_, q⟩, _⟩ := h; q.ok 0 c rfl
theorem takeP (t s : Int) {b : Bool} {E : Int} (he : takeE c t s = (b, E)) (hT : takeT c t s = c') (h : OneP B pb lb c m w) (hm : m ≤ 900) (hB : ∀ k, w.heap.size ≤ k → B k) :
    Calls Try.prog 17 #[.pointer (some ⟨pb, 0, none⟩), .int .i64 0, .int .i64 t, .int .i64 s] w fun e w' => e = .returned (.tuple #[.bool b, .int .i64 E]) ∧ OneP B pb lb c' (m + 1) w' ∧ But B w w' := by
  have hb9 := h.b9 hm
  obtain ⟨⟨lab, hl⟩, hb⟩ := h
  refine (takeL_any (i := 0) t s hl rfl hb9 hB).mono fun e w' ⟨⟨q1, lab', q2⟩, q3⟩ => ?_
  rw [he] at q1
  have q2' : CohL B pb lb lab' [takeT c t s] w' := q2
  rw [hT] at q2'
  refine ⟨q1, ⟨⟨lab', q2'⟩, ?_⟩, q3⟩
  have := take_b hb t s
  rwa [hT] at this
theorem giveP1 (t : Int) {o g : Bool} {ow : Int} (ho : isOfC c t = o) (hg : goesC c = g) (hw : (if o = true ∧ g = true then (giveC c).own else 0) = ow) (hc : (if o = true then giveC c else c) = c') (h : OneP B pb lb c m w) (hm : m ≤ 900) (hB : ∀ k, w.heap.size ≤ k → B k) :
    Calls Try.prog 21 #[.pointer (some ⟨pb, 0, none⟩), .int .i64 0, .int .i64 t] w fun e w' => e = .returned (.tuple #[.int .i64 ow, .bool (o && g), .int .i64 (if o = true then 0 else 8)]) ∧ OneP B pb lb c' (m + 1) w' ∧ But B w w' := by
  have hb9 := h.b9 hm
  obtain ⟨⟨lab, hl⟩, hb⟩ := h
  refine (giveL_any (i := 0) t hl rfl hb9 hB).mono fun e w' ⟨⟨q1, lab', q2⟩, q3⟩ => ?_
  rw [ho, hg, hw] at q1
  rw [ho, hc] at q2
  have q2' : CohL B pb lb lab' [c'] w' := q2
  refine ⟨q1, ⟨⟨lab', q2'⟩, ?_⟩, q3⟩
  rw [← hc]
  split
  · exact give_b hb
  · exact ⟨by have := hb.pas; omega, by have := hb.rnd; omega, fun r hr => by have := hb.row r hr; omega⟩
theorem socketP (h : OneP B pb lb c m w) : Calls Try.prog 19 #[.pointer (some ⟨pb, 0, none⟩), .int .i64 0] w fun e w' => e = .returned (.int .i64 c.soc) ∧ w = w' := by
  obtain ⟨⟨lab, hl⟩, -⟩ := h
  exact socketL_any (i := 0) hl rfl
end
/-- One lock of a law's own. -/
def One (B pb lb : Nat) (c : Coh) (m : Nat) (w : World) : Prop := OneP (fun k => B ≤ k) pb lb c m w
section
variable {B pb lb m : Nat} {c c' : Coh} {w : World}
theorem One.below {w' : World} (h : One B pb lb c m w) (hb : Below w.heap.size w w') : One B pb lb c m w' := OneP.nob h (But.of_below hb)
theorem new1 (w : World) : Calls Try.prog 13 #[.int .i64 1] w fun e w' => ∃ pb lb, e = .returned (.pointer (some ⟨pb, 0, none⟩)) ∧ One w.heap.size pb lb zCoh 0 w' ∧ Below w.heap.size w w' :=
  (newL_any 1 1 (by decide) w).mono fun _ _ ⟨pb, lb, lab, e, h, hb⟩ => ⟨pb, lb, e, ⟨⟨lab, h⟩, zCoh_b⟩, hb⟩
/-- A block that is made behind it is not its. -/
theorem One.apart {w' : World} (h : One B pb lb c m w) (hb : But Nob w w') {x : Nat} (hx : w.heap.size ≤ x) : OneP (fun k => B ≤ k ∧ k ≠ x) pb lb c m w' := by
  obtain ⟨⟨lab, q⟩, h2⟩ := h
  have q' := q.nob hb
  exact ⟨⟨lab, q'.box, q'.blk, q'.own, q'.pwn, q'.pne, q'.fre, fun k hk => ⟨q'.old k hk, fun e => hk (q.fre k (by omega))⟩, q'.ok⟩, h2⟩
theorem take1 (t s : Int) {b : Bool} {E : Int} (he : takeE c t s = (b, E)) (hT : takeT c t s = c') (h : One B pb lb c m w) (hm : m ≤ 900) (hB : B ≤ w.heap.size) :
    Calls Try.prog 17 #[.pointer (some ⟨pb, 0, none⟩), .int .i64 0, .int .i64 t, .int .i64 s] w fun e w' => e = .returned (.tuple #[.bool b, .int .i64 E]) ∧ One B pb lb c' (m + 1) w' ∧ Below B w w' :=
  (takeP t s he hT h hm (fun _ hk => Nat.le_trans hB hk)).mono fun _ _ ⟨a, b, d⟩ => ⟨a, b, d.below hB fun _ _ q => q⟩
theorem give1 (t : Int) {o g : Bool} {ow : Int} (ho : isOfC c t = o) (hg : goesC c = g) (hw : (if o = true ∧ g = true then (giveC c).own else 0) = ow) (hc : (if o = true then giveC c else c) = c') (h : One B pb lb c m w) (hm : m ≤ 900) (hB : B ≤ w.heap.size) :
    Calls Try.prog 21 #[.pointer (some ⟨pb, 0, none⟩), .int .i64 0, .int .i64 t] w fun e w' => e = .returned (.tuple #[.int .i64 ow, .bool (o && g), .int .i64 (if o = true then 0 else 8)]) ∧ One B pb lb c' (m + 1) w' ∧ Below B w w' :=
  (giveP1 t ho hg hw hc h hm (fun _ hk => Nat.le_trans hB hk)).mono fun _ _ ⟨a, b, d⟩ => ⟨a, b, d.below hB fun _ _ q => q⟩
theorem socket1 (h : One B pb lb c m w) : Calls Try.prog 19 #[.pointer (some ⟨pb, 0, none⟩), .int .i64 0] w fun e w' => e = .returned (.int .i64 c.soc) ∧ w = w' := socketP h
end
/-- The example's states. -/
def lk1 : Coh := takeT zCoh 1 0
def lk2 : Coh := takeT lk1 2 1
def lk3 : Coh := takeT lk2 3 0
def lk4 : Coh := giveC lk3
def lk5 : Coh := giveC lk4
theorem lk1_e : takeE zCoh 1 0 = (true, 0) := by decide +kernel
theorem lk2_e : takeE lk1 2 1 = (false, 0) := by decide +kernel
theorem lk3_e : takeE lk2 3 0 = (false, 0) := by decide +kernel
theorem lk4_o : isOfC lk3 1 = true := by decide +kernel
theorem lk4_g : goesC lk3 = true := by decide +kernel
theorem lk4_w : lk4.own = 3 := by decide +kernel
theorem lk5_o : isOfC lk4 3 = true := by decide +kernel
theorem lk5_g : goesC lk4 = true := by decide +kernel
theorem lk5_w : lk5.own = 2 := by decide +kernel
theorem lk5_s : lk5.soc = 1 := by decide +kernel
set_option maxHeartbeats 4000000 in
theorem lives14_any (w : World) : Calls Try.prog 16 #[] w fun e w' => e = .returned (.bool true) ∧ Below w.heap.size w w' := by
  have P := Lib.hid (new1 w)
  go_enter Try.func16, Try.ntmps16
  go_wp2_with fail
  refine P.out.mono ?_
  rintro e w1 ⟨pb, lb, rfl, h1, b1⟩
  dsimp only
  have HT1 := Lib.hid (take1 1 0 lk1_e (rfl : _ = lk1) h1 (by omega) b1.size)
  have HB1 := Lib.hid b1
  clear h1 b1 P
  go_wp2_with fail
  refine HT1.out.mono ?_
  rintro e w2 ⟨rfl, h2, b2⟩
  dsimp only
  have HB2 := Lib.hid (HB1.out.trans b2)
  have HT2 := Lib.hid (take1 2 1 lk2_e (rfl : _ = lk2) h2 (by omega) HB2.out.size)
  clear h2 b2 HT1 HB1
  go_wp2_with fail
  refine HT2.out.mono ?_
  rintro e w3 ⟨rfl, h3, b3⟩
  dsimp only
  have HB3 := Lib.hid (HB2.out.trans b3)
  have HT3 := Lib.hid (take1 3 0 lk3_e (rfl : _ = lk3) h3 (by omega) HB3.out.size)
  clear h3 b3 HT2 HB2
  go_wp2_with fail
  refine HT3.out.mono ?_
  rintro e w4 ⟨rfl, h4, b4⟩
  dsimp only
  have HB4 := Lib.hid (HB3.out.trans b4)
  have HT4 := Lib.hid (give1 (c' := lk4) (ow := 3) 1 lk4_o lk4_g (by rw [if_pos ⟨rfl, rfl⟩]; exact lk4_w) (if_pos rfl) h4 (by omega) HB4.out.size)
  clear h4 b4 HT3 HB3
  go_wp2_with fail
  refine HT4.out.mono ?_
  rintro e w5 ⟨rfl, h5, b5⟩
  dsimp only
  have HB5 := Lib.hid (HB4.out.trans b5)
  have HT5 := Lib.hid (give1 (c' := lk5) (ow := 2) 3 lk5_o lk5_g (by rw [if_pos ⟨rfl, rfl⟩]; exact lk5_w) (if_pos rfl) h5 (by omega) HB5.out.size)
  clear h5 b5 HT4 HB4
  go_wp2_with fail
  refine HT5.out.mono ?_
  rintro e w6 ⟨rfl, h6, b6⟩
  dsimp only
  have HB6 := Lib.hid (HB5.out.trans b6)
  have HS := socket1 h6
  rw [lk5_s] at HS
  have HSS := Lib.hid HS
  clear h6 b6 HT5 HB5 HS
  go_wp2_with (go_at_call 19; (with_reducible refine HSS.out.mono ?_); rintro e w7 ⟨rfl, rfl⟩)
  go_ret
  exact ⟨rfl, HB6.out⟩
end Go.Proofs.Ytdomgipbadimmaa
