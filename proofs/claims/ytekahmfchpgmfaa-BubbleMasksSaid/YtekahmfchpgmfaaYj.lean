/- The forest and the document's bubbles, side by side; a thing done to both (layer 13). -/
import Derived.Test.YtekahmfchpgmfaaYi
import Derived.Test.YtekahmfchpgmfaaYc
import Derived.Test.YtekahmfchpgmfaaZo
import Derived.Test.YtekahmfchpgmfaaZu
namespace Go.Proofs.Ytekahmfchpgmfaa
open Go.RowKit
set_option maxRecDepth 100000

/-- A forest that has bs, and the document's bubbles, cs: all behind w, apart from one another. -/
structure Pair (w : World) (fb : Nat) (v d : Value) (bs cs : List Bub) (W : World) : Prop where
  own : Own w fb v bs W
  doc : DocL d cs W
  lo : ∀ g, d.ownBlock = some g → w.heap.size ≤ g
  sep : ∀ g, d.ownBlock = some g → ¬ OwnF fb v g
section
variable {w W W' : World} {fb : Nat} {v v' d d' : Value} {bs cs bs' cs' : List Bub}
theorem Pair.on (h : Pair w fb v d bs cs W) (hb : Below W.heap.size W W') : Pair w fb v d bs cs W' := ⟨h.own.on hb, h.doc.below hb, h.lo, h.sep⟩
theorem DocL.lt (h : DocL d cs W) {g : Nat} (hg : d.ownBlock = some g) : g < W.heap.size := (h.row.lt g hg).2
/-- The document has done its part. -/
theorem Pair.docs (h : Pair w fb v d bs cs W) (hd : DocL d' cs' W') (hb : Below W.heap.size W W') (hf : d' = d ∨ ∀ g, d'.ownBlock = some g → W.heap.size ≤ g) : Pair w fb v d' bs cs' W' := by
  refine ⟨h.own.on hb, hd, fun g hg => ?_, fun g hg q => ?_⟩
  · rcases hf with rfl | hf
    · exact h.lo g hg
    · exact Nat.le_trans h.own.below.size (hf g hg)
  · rcases hf with rfl | hf
    · exact h.sep g hg q
    · have := hf g hg; have := h.own.tab.lt q; omega
/-- The code has done its part, in place. -/
theorem Pair.codes (h : Pair w fb v d bs cs W) (ht : ForC fb v bs' W') (hb : But (OwnF fb v) W W') : Pair w fb v d bs' cs W' :=
  ⟨h.own.turn ht hb, ⟨row_but h.doc.row hb h.sep, h.doc.inv⟩, h.lo, h.sep⟩
theorem Pair.grow (h : Pair w fb v d bs cs W) (ht : ForC fb v' bs' W') (hb : But (OwnF fb v) W W') (hv : ∀ g, v'.ownBlock = some g → v.ownBlock = some g ∨ W.heap.size ≤ g) : Pair w fb v' d bs' cs W' := by
  refine ⟨h.own.grow ht hb hv, ⟨row_but h.doc.row hb h.sep, h.doc.inv⟩, h.lo, fun g hg q => ?_⟩
  rcases q with q | q
  · exact h.sep g hg (.inl q)
  · rcases hv g q with z | z
    · exact h.sep g hg (.inr z)
    · have := h.doc.lt hg; omega
/-- What is there behind a thing that is done. -/
def doB (bs : List Bub) (o : OpB) : List Bub := if o.kind % 6 < 2 then makeT bs o.b o.mask else turnT bs (o.kind % 6) o.b o.home
abbrev DoB (w : World) (fb : Nat) (v : Value) (bs : List Bub) (o : OpB) (W : World) : Ending → World → Prop := fun e W' => ∃ v' d', e = .returned (.tuple #[d', .bool true]) ∧ Pair w fb v' d' (doB bs o) (doB bs o) W' ∧ But (OwnF fb v) W W'
theorem infoSet16 (m : Nat → Bool) : (Try.prog.info? 28).map (·.size) = some (cellsOf m).toList.length := by rw [infoSet]; simp [cellsOf]
theorem opb_0 (o : OpB) : (opbL o)[0]? = some (.int .u64 o.kind) := rfl
theorem opb_1 (o : OpB) : (opbL o)[1]? = some (.int .i64 o.b) := rfl
theorem opb_2 (o : OpB) : (opbL o)[2]? = some (.int .i64 o.home) := rfl
theorem opb_m {o : OpB} {x : Nat} (h : Blk W x 68 (opbL o).toArray) : W.rangeAt x 3 (cellsOf o.mask).toList := fun j u hu => by
  rw [h.cell]
  simp only [List.getElem?_toArray, opbL]
  rw [show 3 + j = j + 1 + 1 + 1 by omega, List.getElem?_cons_succ, List.getElem?_cons_succ, List.getElem?_cons_succ]
  exact hu
theorem turnL_4 (bs : List Bub) (b : Int) : turnL bs 4 b = burstL bs b := by
  unfold turnL burstL turnE; simp only [show ¬ (4 : Nat) = 2 by omega, show ¬ (4 : Nat) = 3 by omega, if_false, if_true]
  by_cases h : burstE bs b = 0
  · rw [if_pos h]
  · rw [if_neg h, if_neg h]
theorem turnL_5 (bs : List Bub) (b : Int) : turnL bs 5 b = regenL bs b := by
  unfold turnL regenL turnE; simp only [show ¬ (5 : Nat) = 2 by omega, show ¬ (5 : Nat) = 3 by omega, show ¬ (5 : Nat) = 4 by omega, if_false, if_true]
  by_cases h : regenE bs b = 0
  · rw [if_pos h, if_pos h]
  · rw [if_neg h, if_neg h]
set_option maxHeartbeats 16000000 in
theorem do_make (o : OpB) (h : Pair w fb v d bs bs W) (hk : o.kind % 6 < 2) :
    Calls Try.prog 25 #[.pointer (some ⟨fb, 0, none⟩), d, .agg (opbL o).toArray] W (DoB w fb v bs o W) := by
  have hD : doB bs o = makeT bs o.b o.mask := by unfold doB; rw [if_pos hk]
  unfold DoB
  rw [hD]
  have hal : Below W.heap.size W (W.alloc (.cells (opbL o).toArray 68)) := (Below.refl _ _).alloc (Nat.le_refl _) _
  have HP1 := Lib.hid (h.on hal)
  have HF1 : Hid (But (OwnF fb v) W (W.alloc (.cells (opbL o).toArray 68))) := But.of_below hal
  have hbx := Blk.new W 68 (opbL o).toArray
  have HBX := Lib.hid hbx
  have y0 : (W.alloc (.cells (opbL o).toArray 68)).cell? ⟨W.heap.size, 0, none⟩ = some (.int .u64 o.kind) := (hbx.cell 0).trans rfl
  have y1 : (W.alloc (.cells (opbL o).toArray 68)).cell? ⟨W.heap.size, 1, none⟩ = some (.int .i64 o.b) := (hbx.cell 1).trans rfl
  have HYR := Lib.hid (opb_m hbx)
  have HIX := Lib.hid (infoSet16 o.mask)
  have HC : Hid (Calls Try.prog 49 #[d, .int .i64 o.b, .agg (cellsOf o.mask).toList.toArray] (W.alloc (.cells (opbL o).toArray 68)) (RMakeP d bs o.b o.mask (W.alloc (.cells (opbL o).toArray 68)))) := rmake_any o.b o.mask HP1.out.doc
  have hm : (o.kind : Int) % 6 = 0 ∨ (o.kind : Int) % 6 = 1 := by omega
  have hxw : W.heap.size < (W.alloc (.cells (opbL o).toArray 68)).heap.size := by simp
  have HXW := Lib.hid hxw
  obtain ⟨kd, b, home, m⟩ := o
  dsimp only at hm y0 y1 HYR HIX HC hD hk ⊢
  obtain ⟨O, hO⟩ : ∃ O, opbL ⟨kd, b, home, m⟩ = O := ⟨_, rfl⟩
  have HO := Lib.hid hO
  rw [hO] at HP1 HBX HXW HF1 ⊢
  simp only [hO] at HC y0 y1 HYR
  clear hO h hbx hal hk hD hxw
  rcases hm with hm | hm
  all_goals
    go_enter Try.func25, Try.ntmps25
    go_wp2_with (with_reducible (show wpList _ _ _ _ _ _); refine wpList_load_mid rfl 28 (.tmp 31) rfl W.heap.size 3 rfl (cellsOf m).toList _ HYR.out underSet rfl HIX.out ?_)
    refine HC.out.mono ?_
    rintro e w2 ⟨d2, rfl, h2, b2, f2⟩
    dsimp only
    have HP2 := Lib.hid (HP1.out.docs h2 b2 f2)
    have HF2 : Hid (But (OwnF fb v) W w2) := HF1.out.trans (But.of_below b2)
    have hb2 := Blk.below HBX.out b2 HXW.out
    rw [← HO.out] at hb2
    have z1 : w2.cell? ⟨W.heap.size, 1, none⟩ = some (.int .i64 b) := (hb2.cell 1).trans rfl
    have HYR2 := Lib.hid (opb_m hb2)
    have HC2 : Hid (Calls Try.prog 33 #[.pointer (some ⟨fb, 0, none⟩), .int .i64 b, .agg (cellsOf m).toList.toArray] w2 (MakeP fb v bs b m w2)) := fmake_any b m HP2.out.own.tab
    clear h2 b2 f2 HC HYR y0 y1 HP1 hb2
    go_wp2_with (with_reducible (show wpList _ _ _ _ _ _); refine wpList_load_mid rfl 28 (.tmp 41) rfl W.heap.size 3 rfl (cellsOf m).toList _ HYR2.out underSet rfl HIX.out ?_)
    refine HC2.out.mono ?_
    rintro e w3 ⟨v3, rfl, h3, b3, f3⟩
    dsimp only
    have HP3 := Lib.hid (HP2.out.grow h3 b3 f3)
    have HF3 : Hid (But (OwnF fb v) W w3) := HF2.out.trans b3
    clear h3 b3 f3 HC2 HYR2 z1 HP2
    generalize makeE bs b m = ee at *
    obtain ⟨e1, e2⟩ := ee
    dsimp only
    have q1 : (e1 == e1) = true := by simp
    have q2 : (e2 == e2) = true := by simp
    go_wp2_with fail
    go_ret2
    exact ⟨v3, d2, rfl, HP3.out, HF3.out⟩
end
end Go.Proofs.Ytekahmfchpgmfaa
