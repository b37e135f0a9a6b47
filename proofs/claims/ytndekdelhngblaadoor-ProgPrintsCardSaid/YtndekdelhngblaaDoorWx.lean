/- prog's Parse at the laws' example. -/
import Derived.Test.YtndekdelhngblaaDoorWv
import Derived.Deep.DeepCutAuto
namespace Go.Proofs.YtndekdelhngblaaDoor
open Go.RowKit

def exL : List I4 := [⟨13, 0, 0, 0⟩, ⟨14, 0, 0, 0⟩]
theorem exFits : ∀ x ∈ exL, Fits x := by
  intro x hx
  simp only [exL, List.mem_cons, List.not_mem_nil, or_false] at hx
  rcases hx with rfl | rfl <;> exact ⟨by unfold In64; dsimp only; omega, by unfold In64; dsimp only; omega, by unfold In64; dsimp only; omega, by dsimp only; omega⟩
def lineB (k : Nat) : ByteArray := if k = 0 then ⟨#[9, 111, 117, 116, 32, 114, 48]⟩ else ⟨#[9, 101, 120, 105, 116, 32, 114, 48]⟩
theorem parse_lines (k : Nat) (hk : k < 2) (w : World) (hT : Tabs w) : Calls Tryd.prog 31 #[.string (lineB k)] w fun e w' => ∃ x, exL[k]? = some x ∧ e = .returned (.tuple #[.agg #[.int .i64 x.op, .int .i64 x.a, .int .i64 x.b, .int .i32 x.n], .bool true]) ∧ Below w.heap.size w w' := by
  match k, hk with
  | 0, _ => exact (parseIns_13 w hT).mono fun e w' ⟨q, h⟩ => ⟨⟨13, 0, 0, 0⟩, rfl, q, h⟩
  | 1, _ => exact (parseIns_14 w hT).mono fun e w' ⟨q, h⟩ => ⟨⟨14, 0, 0, 0⟩, rfl, q, h⟩
theorem split_ex (w : World) (hT : Tabs w) : Calls Tryd.prog 28 #[.string ⟨#[112, 114, 111, 103, 32, 49, 10, 9, 111, 117, 116, 32, 114, 48, 10, 9, 101, 120, 105, 116, 32, 114, 48]⟩, .string ⟨#[10]⟩] w fun e w' => e = .returned (.slice (some ⟨w.heap.size, 0, none⟩) 3 3) ∧ w.alloc (.cells #[.string ⟨#[112, 114, 111, 103, 32, 49]⟩, .string ⟨#[9, 111, 117, 116, 32, 114, 48]⟩, .string ⟨#[9, 101, 120, 105, 116, 32, 114, 48]⟩] 9) = w' := by
  obtain ⟨m, hm⟩ := hT.most
  refine (Tryd.strings_Split ⟨#[112, 114, 111, 103, 32, 49, 10, 9, 111, 117, 116, 32, 114, 48, 10, 9, 101, 120, 105, 116, 32, 114, 48]⟩ ⟨#[10]⟩ m w (by decide) hm (by decide)).mono ?_
  rintro e w' ⟨rfl, rfl⟩
  have h1 : Lib.countB ⟨#[112, 114, 111, 103, 32, 49, 10, 9, 111, 117, 116, 32, 114, 48, 10, 9, 101, 120, 105, 116, 32, 114, 48]⟩ ⟨#[10]⟩ = 2 := by decide +kernel
  have h2 : (Lib.splitB ⟨#[10]⟩ 0 2 ⟨#[112, 114, 111, 103, 32, 49, 10, 9, 111, 117, 116, 32, 114, 48, 10, 9, 101, 120, 105, 116, 32, 114, 48]⟩).map Value.string = [.string ⟨#[112, 114, 111, 103, 32, 49]⟩, .string ⟨#[9, 111, 117, 116, 32, 114, 48]⟩, .string ⟨#[9, 101, 120, 105, 116, 32, 114, 48]⟩] := by
    have h : Lib.splitB ⟨#[10]⟩ 0 2 ⟨#[112, 114, 111, 103, 32, 49, 10, 9, 111, 117, 116, 32, 114, 48, 10, 9, 101, 120, 105, 116, 32, 114, 48]⟩ = [⟨#[112, 114, 111, 103, 32, 49]⟩, ⟨#[9, 111, 117, 116, 32, 114, 48]⟩, ⟨#[9, 101, 120, 105, 116, 32, 114, 48]⟩] := by decide +kernel
    rw [h]; rfl
  rw [h1, h2]
  exact ⟨rfl, rfl⟩
/-- What lies in memory between two lines of Parse. -/
structure PX (w : World) (c p : Nat) (v : Value) (k : Nat) (W : World) : Prop where
  res : Blk W w.heap.size 24 #[.int .i64 0, .slice none 0 0]
  lin : Blk W c 9 #[.string ⟨#[112, 114, 111, 103, 32, 49]⟩, .string ⟨#[9, 111, 117, 116, 32, 114, 48]⟩, .string ⟨#[9, 101, 120, 105, 116, 32, 114, 48]⟩]
  pg : Blk W p 24 #[.int .i64 1, v]
  own : OwnI (p + 1) v (exL.take k) W
  old : Below w.heap.size w W
  lt : w.heap.size < c ∧ c < p
theorem OwnI.below {B : Nat} {v : Value} {xs : List I4} {W W' : World} (h : OwnI B v xs W) (hb : Below W.heap.size W W') : OwnI B v xs W' := by
  refine ⟨h.1, ?_⟩
  rcases h.2 with q | ⟨g, cap, cur, e, hg, hh, r⟩
  · exact .inl q
  · exact .inr ⟨g, cap, cur, e, hg, (hb.block g (Array.getElem?_eq_some_iff.1 hh).1).trans hh, r⟩
section
variable {w W W' : World} {c p k : Nat} {v : Value}
theorem PX.below (h : PX w c p v k W) (hb : Below W.heap.size W W') : PX w c p v k W' :=
  ⟨h.res.below hb h.res.lt, h.lin.below hb h.lin.lt, h.pg.below hb h.pg.lt, h.own.below hb, h.old.trans (hb.mono h.old.size), h.lt⟩
theorem PX.line (h : PX w c p v k W) (hk : k < 2) : W.cell? ⟨c, 1 + k, none⟩ = some (.string (lineB k)) := by
  match k, hk with
  | 0, _ => exact h.lin.cell 1
  | 1, _ => exact h.lin.cell 2
theorem PX.next {x : I4} {v' : Value} (h : PX w c p v k W) (hx : exL[k]? = some x) (ho : OwnI (p + 1) v' (exL.take k ++ [x]) W') (hg : W.grownBy W' v.ownBlock) : PX w c p v' (k + 1) (W'.setCell ⟨p, 1, none⟩ v') := by
  have hb : Below (p + 1) W W' := (Below.refl _ _).grown hg h.pg.lt (fun b hb => (h.own.lt b hb).1)
  have hlt := h.lt
  have hk : k < exL.length := (List.getElem?_eq_some_iff.1 hx).1
  have e : exL.take (k + 1) = exL.take k ++ [x] := by rw [← List.take_append_getElem hk, (List.getElem?_eq_some_iff.1 hx).2]
  refine ⟨(h.res.below hb (by omega)).far (by show w.heap.size ≠ p; omega) _, (h.lin.below hb (by omega)).far (by show c ≠ p; omega) _, (h.pg.below hb (by omega)).set_ 1 v', ?_, ?_, hlt⟩
  · rw [e]
    refine ⟨ho.1, ?_⟩
    rcases ho.2 with q | ⟨g, cap, cur, q, hg, hh, r⟩
    · exact .inl q
    · exact .inr ⟨g, cap, cur, q, hg, (Below.heap_setCell W' ⟨p, 1, none⟩ v' g (by show g ≠ p; omega)).trans hh, r⟩
  · exact ((But.of_below (h.old.trans (hb.mono (by omega)))).set (X := Nob) ⟨p, 1, none⟩ v' (.inr (by show w.heap.size ≤ p; omega))).below (Nat.le_refl _) fun _ _ q => q.elim
theorem PX.cells (h : PX w c p v k W) : W.cell? ⟨p, 0, none⟩ = some (.int .i64 1) ∧ W.cell? ⟨p, 1, none⟩ = some v ∧ W.cell? ⟨w.heap.size, 0, none⟩ = some (.int .i64 0) ∧ W.cell? ⟨w.heap.size, 1, none⟩ = some (.slice none 0 0) ∧ W.frozen? ⟨w.heap.size, 0, none⟩ = false ∧ W.frozen? ⟨w.heap.size, 1, none⟩ = false ∧ W.frozen? ⟨p, 1, none⟩ = false :=
  ⟨h.pg.cell 0, h.pg.cell 1, h.res.cell 0, h.res.cell 1, h.res.free 0, h.res.free 1, h.pg.free 1⟩
end
set_option maxRecDepth 100000 in
set_option maxHeartbeats 8000000 in
theorem parse_ex (w : World) (hT : Tabs w) : Calls Tryd.prog 16 #[.string ⟨#[112, 114, 111, 103, 32, 49, 10, 9, 111, 117, 116, 32, 114, 48, 10, 9, 101, 120, 105, 116, 32, 114, 48, 10]⟩] w fun e w' => ∃ A cap, e = .returned (.tuple #[.agg #[.int .i64 1, .slice A 2 cap], .int .i64 0, .int .i64 0]) ∧ InsIn w' A exL ∧ Below w.heap.size w w' := by
  have hbx := Blk.new w 24 #[.int .i64 0, .slice none 0 0]
  have hB1 : Below w.heap.size w (w.alloc (.cells #[.int .i64 0, .slice none 0 0] 24)) := (Below.refl _ _).alloc (Nat.le_refl _) _
  have HS : Hid (∀ W, Calls Tryd.prog 27 #[.string ⟨#[112, 114, 111, 103, 32, 49, 10, 9, 111, 117, 116, 32, 114, 48, 10, 9, 101, 120, 105, 116, 32, 114, 48, 10]⟩, .string ⟨#[10]⟩] W fun e w' => e = .returned (.bool true) ∧ W = w') := fun W => by
    refine (Tryd.strings_HasSuffix ⟨#[112, 114, 111, 103, 32, 49, 10, 9, 111, 117, 116, 32, 114, 48, 10, 9, 101, 120, 105, 116, 32, 114, 48, 10]⟩ ⟨#[10]⟩ W (by decide)).mono ?_
    rintro e w' ⟨rfl, rfl⟩
    exact ⟨by rw [show Lib.hasSuffix (⟨#[112, 114, 111, 103, 32, 49, 10, 9, 111, 117, 116, 32, 114, 48, 10, 9, 101, 120, 105, 116, 32, 114, 48, 10]⟩ : ByteArray).data.toList (⟨#[10]⟩ : ByteArray).data.toList = true from by decide], rfl⟩
  have HTS : Hid (∀ W, Calls Tryd.prog 29 #[.string ⟨#[112, 114, 111, 103, 32, 49, 10, 9, 111, 117, 116, 32, 114, 48, 10, 9, 101, 120, 105, 116, 32, 114, 48, 10]⟩, .string ⟨#[10]⟩] W fun e w' => e = .returned (.string ⟨#[112, 114, 111, 103, 32, 49, 10, 9, 111, 117, 116, 32, 114, 48, 10, 9, 101, 120, 105, 116, 32, 114, 48]⟩) ∧ W = w') := fun W => by
    refine (Tryd.strings_TrimSuffix ⟨#[112, 114, 111, 103, 32, 49, 10, 9, 111, 117, 116, 32, 114, 48, 10, 9, 101, 120, 105, 116, 32, 114, 48, 10]⟩ ⟨#[10]⟩ W (by decide)).mono ?_
    rintro e w' ⟨rfl, rfl⟩
    exact ⟨by rw [show Lib.trimSuffix (⟨#[112, 114, 111, 103, 32, 49, 10, 9, 111, 117, 116, 32, 114, 48, 10, 9, 101, 120, 105, 116, 32, 114, 48, 10]⟩ : ByteArray).data.toList (⟨#[10]⟩ : ByteArray).data.toList = [112, 114, 111, 103, 32, 49, 10, 9, 111, 117, 116, 32, 114, 48, 10, 9, 101, 120, 105, 116, 32, 114, 48] from by decide], rfl⟩
  have HSP := Lib.hid (split_ex (w.alloc (.cells #[.int .i64 0, .slice none 0 0] 24)) (hT.on hB1))
  have HX := Lib.hid hbx; have HT := Lib.hid hT; have HB1 := Lib.hid hB1
  clear hbx hT hB1
  go_enter Tryd.func16, Tryd.ntmps16
  go_wp2_with (first
    | (go_at_call 27; (with_reducible refine (HS.out _).mono ?_); rintro e wq ⟨rfl, rfl⟩)
    | (go_at_call 29; (with_reducible refine (HTS.out _).mono ?_); rintro e wq ⟨rfl, rfl⟩)
    | (go_at_call 28; (with_reducible refine HSP.out.mono ?_); rintro e w1 ⟨rfl, hw1⟩
       have l1 : Blk w1 (w.heap.size + 1) 9 #[.string ⟨#[112, 114, 111, 103, 32, 49]⟩, .string ⟨#[9, 111, 117, 116, 32, 114, 48]⟩, .string ⟨#[9, 101, 120, 105, 116, 32, 114, 48]⟩] := by rw [← hw1]; have := Blk.new (w.alloc (.cells #[.int .i64 0, .slice none 0 0] 24)) 9 #[.string ⟨#[112, 114, 111, 103, 32, 49]⟩, .string ⟨#[9, 111, 117, 116, 32, 114, 48]⟩, .string ⟨#[9, 101, 120, 105, 116, 32, 114, 48]⟩]; rwa [World.size_alloc] at this
       have hX1 : Blk w1 w.heap.size 24 #[.int .i64 0, .slice none 0 0] := by rw [← hw1]; exact HX.out.alloc _
       have b1 : Below w.heap.size w w1 := by rw [← hw1]; exact HB1.out.alloc HB1.out.size _
       have c0 := l1.cell 0
       simp only [List.getElem?_toArray, List.getElem?_cons_zero] at c0
       have HL1 := Lib.hid l1; have HX1 := Lib.hid hX1; have B1 := Lib.hid b1
       clear hw1 l1 hX1 b1))
  refine (parseHead_1 w1 (HT.out.on B1.out)).mono ?_
  rintro e w2 ⟨rfl, h2⟩
  have b2 : Below w.heap.size w w2 := B1.out.trans (h2.mono B1.out.size)
  have hX2 := HX1.out.below h2 HX1.out.lt
  have hL2 := HL1.out.below h2 HL1.out.lt
  have hP2 : PX w (w.heap.size + 1) w2.heap.size (.slice none 0 0) 0 (w2.alloc (.cells #[.int .i64 1, .slice none 0 0] 24)) :=
    ⟨hX2.alloc _, hL2.alloc _, Blk.new _ _ _, ownI_nil _ _, b2.alloc b2.size _, by omega, hL2.lt⟩
  have HP2 := Lib.hid hP2
  clear c0 HS HTS HSP HX HB1 HX1 HL1 B1 h2 b2 hX2 hL2 hP2
  go_wp2_with fail
  generalize w2.alloc (.cells #[.int .i64 1, .slice none 0 0] 24) = W2 at *
  generalize hp : w2.heap.size = p at *
  clear hp
  go_loopw [37] (fun i wr => ∃ (k : Nat) (v : Value), k ≤ 2 ∧ i = .int .i64 k ∧ PX w (w.heap.size + 1) p v k wr) (fun i _ => 2 - (intOf i).toNat)
  case atStart => exact ⟨0, _, by omega, rfl, HP2.out⟩
  case round =>
    obtain ⟨k, v, hk, rfl, hP⟩ := hrel
    by_cases hlt : k < 2
    · have c0 := hP.line hlt
      have k0 : (0 : Int) ≤ (k : Int) := by omega
      have k1 : (k : Int) < 2 := by omega
      have HI := Lib.hid (parse_lines k hlt wr (HT.out.on hP.old))
      have HP := Lib.hid hP
      clear hP
      go_wp2_with fail
      refine HI.out.mono ?_
      rintro e w4 ⟨x, hx, rfl, h4⟩
      have hP4 := HP.out.below h4
      have hB5 : Below w4.heap.size w4 (w4.alloc (.cells #[.int .i64 x.op, .int .i64 x.a, .int .i64 x.b, .int .i32 x.n] 38)) := (Below.refl _ _).alloc (Nat.le_refl _) _
      have hP5 := hP4.below hB5
      have hB6 : Below (w4.alloc (.cells #[.int .i64 x.op, .int .i64 x.a, .int .i64 x.b, .int .i32 x.n] 38)).heap.size (w4.alloc (.cells #[.int .i64 x.op, .int .i64 x.a, .int .i64 x.b, .int .i32 x.n] 38)) ((w4.alloc (.cells #[.int .i64 x.op, .int .i64 x.a, .int .i64 x.b, .int .i32 x.n] 38)).alloc (.cells #[.int .i64 x.op, .int .i64 x.a, .int .i64 x.b, .int .i32 x.n] 38)) := (Below.refl _ _).alloc (Nat.le_refl _) _
      have hP6 := hP5.below hB6
      obtain ⟨p0, p1, r0, r1, q0, q1, q2⟩ := hP5.cells
      have hbx := Blk.new w4 38 #[.int .i64 x.op, .int .i64 x.a, .int .i64 x.b, .int .i32 x.n]
      have y0 := hbx.cell 0; have y1 := hbx.cell 1; have y2 := hbx.cell 2; have y3 := hbx.cell 3
      simp only [List.getElem?_toArray, List.getElem?_cons_zero, List.getElem?_cons_succ] at y0 y1 y2 y3
      have hbs := Blk.new (w4.alloc (.cells #[.int .i64 x.op, .int .i64 x.a, .int .i64 x.b, .int .i32 x.n] 38)) 38 #[.int .i64 x.op, .int .i64 x.a, .int .i64 x.b, .int .i32 x.n]
      rw [World.size_alloc] at hbs
      have HX := Lib.hid hx; have HP6 := Lib.hid hP6; have HBS := Lib.hid hbs
      clear hP4 hP5 hP6 hB5 hB6 hbx hbs c0 h4 HP hx
      go_wp2_with (at_builtin; refine haltW ?_)
      refine Lib.hid ?_
      refine app_ins rfl (.tmp 53) (.tmp 55) rfl (p + 1) v (exL.take k) rfl HP6.out.own _ x rfl HBS.out (by rw [List.length_take]; omega) HP6.out.pg.lt ?_
      intro v' w7 own7 g7
      obtain ⟨A7, n7, cap7, rfl⟩ : ∃ A n cap, v' = .slice A n cap := by
        rcases own7.2 with ⟨rfl, _⟩ | ⟨g, cap, cur, rfl, _⟩
        · exact ⟨none, 0, 0, rfl⟩
        · exact ⟨_, _, cap, rfl⟩
      have b7 : Below (p + 1) _ w7 := (Below.refl _ _).grown g7 HP6.out.pg.lt (fun b hb => (HP6.out.own.lt b hb).1)
      have hpg := HP6.out.pg.below b7 (by omega)
      have f1 := hpg.free 1; have z1 := hpg.cell 1
      simp only [List.getElem?_toArray, List.getElem?_cons_zero, List.getElem?_cons_succ] at z1
      have HN := Lib.hid (HP6.out.next HX.out own7 g7)
      clear own7 g7 b7 hpg p0 p1 r0 r1 q0 q1 q2 y0 y1 y2 y3
      go_wp2_with fail
      go_roundw
      case rel => exact ⟨k + 1, _, by omega, by go_num, HN.out⟩
      case measure => simp [intOf]; omega
    · obtain rfl : k = 2 := by omega
      have t : ¬ ((2 : Nat) : Int) < 2 := by omega
      obtain ⟨A, cap, hv, -, -, hI⟩ := ownI_in hP.own exFits
      rw [show (exL.take 2).length = 2 from by decide] at hv
      subst hv
      obtain ⟨p0, p1, r0, r1, q0, q1, q2⟩ := hP.cells
      have HC := check_any 1 A exL cap wr (HT.out.on hP.old) hI
      unfold CheckP at HC
      rw [show progE 1 exL = (0, 0) from by decide] at HC
      have HC := Lib.hid HC; have HP := Lib.hid hP
      clear hP hI
      go_wp2_with fail
      refine HC.out.mono ?_
      rintro e w8 ⟨rfl, h8⟩
      have hP8 := HP.out.below h8
      obtain ⟨u0, u1, s0, s1, g0, g1, g2⟩ := hP8.cells
      have HP8 := Lib.hid hP8
      clear p0 p1 r0 r1 q0 q1 q2 hP8 h8 HC
      go_wp2_with fail
      have hr9 := (HP8.out.res.set_ 0 (.int .i64 1)).set_ 1 (.slice A 2 cap)
      have hB9 : Below w.heap.size w ((w8.setCell ⟨w.heap.size, 0, none⟩ (.int .i64 1)).setCell ⟨w.heap.size, 1, none⟩ (.slice A 2 cap)) :=
        (((But.of_below HP8.out.old).set (X := Nob) _ _ (.inr (Nat.le_refl _))).set _ _ (.inr (Nat.le_refl _))).below (Nat.le_refl _) fun _ _ q => q.elim
      have hI9 : InsIn ((w8.setCell ⟨w.heap.size, 0, none⟩ (.int .i64 1)).setCell ⟨w.heap.size, 1, none⟩ (.slice A 2 cap)) A exL := by
        have hlt := HP8.out.lt
        have ho : OwnI (p + 1) (.slice A 2 cap) exL ((w8.setCell ⟨w.heap.size, 0, none⟩ (.int .i64 1)).setCell ⟨w.heap.size, 1, none⟩ (.slice A 2 cap)) := by
          refine ⟨HP8.out.own.1, ?_⟩
          rcases HP8.out.own.2 with ⟨_, q⟩ | ⟨g, cap', cur, q, hg, hh, r⟩
          · exact absurd q (by decide)
          · exact .inr ⟨g, cap', cur, q, hg, (Below.heap_setCell _ ⟨w.heap.size, 1, none⟩ _ g (by show g ≠ w.heap.size; omega)).trans ((Below.heap_setCell w8 ⟨w.heap.size, 0, none⟩ _ g (by show g ≠ w.heap.size; omega)).trans hh), r⟩
        obtain ⟨A', cap', q, -, -, hI'⟩ := ownI_in ho exFits
        cases q; exact hI'
      generalize (w8.setCell ⟨w.heap.size, 0, none⟩ (.int .i64 1)).setCell ⟨w.heap.size, 1, none⟩ (.slice A 2 cap) = W9 at *
      have z0 := hr9.cell 0; have z1 := hr9.cell 1
      simp only [List.getElem?_toArray, List.getElem?_cons_zero, List.getElem?_cons_succ, List.setIfInBounds_toArray, List.set_cons_succ, List.set_cons_zero] at z0 z1
      exact bodyPost_ret (v := .tuple #[.agg #[.int .i64 1, .slice A 2 cap], .int .i64 0, .int .i64 0]) (by simp [results, Tryd.results16, go_sem, z0, z1]) rfl ⟨A, cap, rfl, hI9, hB9⟩
end Go.Proofs.YtndekdelhngblaaDoor
