/- The document's examples: pinfoldlaw01.lives. -/
import Derived.Test.YtpdghnlnbhenhaaDoorPp
import Derived.Test.YtpdghnlnbhenhaaDoorPt
import Derived.Deep.RegionHeld3
namespace Go.Proofs.YtpdghnlnbhenhaaDoor
open Go.RowKit

def z0 (i : Nat) : Int := if i = 4 then 8 else i
def S0 : Nat → Bool := ofP z0 5
def T0 : ByteArray := { data := #[48, 45, 51, 44, 56] }
def T1 : ByteArray := { data := #[51, 45, 49] }
def T2 : ByteArray := { data := #[49, 44] }
def T3 : ByteArray := { data := #[49, 44, 48, 45, 49] }
theorem parse_T0 : parseV (parseAll (byteAt T0) T0.size) = .tuple #[.agg (cellsOf S0), .int .i64 0, .int .i64 0] := by
  have h1 : eqP (parseAll (byteAt T0) T0.size).1 S0 = true := by decide +kernel
  have h2 : (parseAll (byteAt T0) T0.size).2 = (0, 0) := by decide +kernel
  unfold parseV
  rw [cellsOf_congr (eqP_true.1 h1), h2]; rfl
theorem parse_T1 : parseV (parseAll (byteAt T1) T1.size) = .tuple #[.agg (cellsOf fun _ => false), .int .i64 26, .int .i64 2] := by
  have h1 : eqP (parseAll (byteAt T1) T1.size).1 (fun _ => false) = true := by decide +kernel
  have h2 : (parseAll (byteAt T1) T1.size).2 = (26, 2) := by decide +kernel
  unfold parseV
  rw [cellsOf_congr (eqP_true.1 h1), h2]; rfl
theorem parse_T2 : parseV (parseAll (byteAt T2) T2.size) = .tuple #[.agg (cellsOf fun _ => false), .int .i64 22, .int .i64 2] := by
  have h1 : eqP (parseAll (byteAt T2) T2.size).1 (fun _ => false) = true := by decide +kernel
  have h2 : (parseAll (byteAt T2) T2.size).2 = (22, 2) := by decide +kernel
  unfold parseV
  rw [cellsOf_congr (eqP_true.1 h1), h2]; rfl
theorem parse_T3 : parseV (parseAll (byteAt T3) T3.size) = .tuple #[.agg (cellsOf fun _ => false), .int .i64 9, .int .i64 2] := by
  have h1 : eqP (parseAll (byteAt T3) T3.size).1 (fun _ => false) = true := by decide +kernel
  have h2 : (parseAll (byteAt T3) T3.size).2 = (9, 2) := by decide +kernel
  unfold parseV
  rw [cellsOf_congr (eqP_true.1 h1), h2]; rfl
theorem dec_small (n : Nat) (h : n < 10) : Lib.itoa (n : Int) = [UInt8.ofNat (48 + n)] := by
  unfold Lib.itoa
  rw [if_neg (by omega), Int.toNat_natCast, Lib.decDigits, dif_pos h]
theorem print_S0 : printAll S0 = [48, 45, 51, 44, 56] := by
  have f1 : firstO S0 = some 0 := by decide +kernel
  have e1 : endOf S0 0 = 3 := by decide +kernel
  have f2 : firstO (fromP S0 ((3 : Nat) + 1)) = some 8 := by decide +kernel
  have e2 : endOf S0 8 = 8 := by decide +kernel
  have f3 : firstO (fromP S0 ((8 : Nat) + 1)) = none := by decide +kernel
  unfold printAll
  rw [f1, printFrom, e1, f2, printFrom, e2, f3, printFrom]
  unfold rowT
  rw [dec_small 0 (by omega), dec_small 3 (by omega), dec_small 8 (by omega)]
  decide
theorem lp0 (w : World) : Calls Tryd.prog 29 #[.string { data := #[48, 45, 51, 44, 56] }] w fun e w' => e = .returned (.tuple #[.agg (cellsOf S0), .int .i64 0, .int .i64 0]) ∧ Below w.heap.size w w' := by
  have := parse_any T0 w (by decide); rw [parse_T0] at this; exact this
theorem lp1 (w : World) : Calls Tryd.prog 29 #[.string { data := #[51, 45, 49] }] w fun e w' => e = .returned (.tuple #[.agg (cellsOf fun _ => false), .int .i64 26, .int .i64 2]) ∧ Below w.heap.size w w' := by
  have := parse_any T1 w (by decide); rw [parse_T1] at this; exact this
theorem lp2 (w : World) : Calls Tryd.prog 29 #[.string { data := #[49, 44] }] w fun e w' => e = .returned (.tuple #[.agg (cellsOf fun _ => false), .int .i64 22, .int .i64 2]) ∧ Below w.heap.size w w' := by
  have := parse_any T2 w (by decide); rw [parse_T2] at this; exact this
theorem lp3 (w : World) : Calls Tryd.prog 29 #[.string { data := #[49, 44, 48, 45, 49] }] w fun e w' => e = .returned (.tuple #[.agg (cellsOf fun _ => false), .int .i64 9, .int .i64 2]) ∧ Below w.heap.size w w' := by
  have := parse_any T3 w (by decide); rw [parse_T3] at this; exact this
/-- A result laid in a variable: what was there stays. -/
theorem lay_set (w : World) (p q : Nat → Bool) : Below w.heap.size w ((w.alloc (.cells (cellsOf p) 25)).setRow w.heap.size (cellsOf q)) ∧
    ((w.alloc (.cells (cellsOf p) 25)).setRow w.heap.size (cellsOf q)).heap[w.heap.size]? = some (.cells (cellsOf q) 25 (0, 0)) ∧ w.heap.size < ((w.alloc (.cells (cellsOf p) 25)).setRow w.heap.size (cellsOf q)).heap.size :=
  ⟨below_setRow ((Below.refl _ _).alloc (Nat.le_refl _) _) (Nat.le_refl _) _, setRow_heap _ _ _ _ _ _ (heap_alloc_new _ _), by simp⟩
theorem yieldsIf_load_set {ops : Array Oper} {S : World → Prop} {o : Oper} {a : Act} (hw : Region.wanted o (yielded ops a.tmps) = true) (x : Operand) (ho : o.op = .load 25 x) (g : Nat) (p : Nat → Bool)
    (hx : a.eval x = .pointer (some ⟨g, 0, none⟩)) (hS : ∀ w, S w → w.heap[g]? = some (.cells (cellsOf p) 25 (0, 0))) : YieldsIf Tryd.prog ops S o (.agg (cellsOf p)) a :=
  .inl ⟨hw, fun w h => by
    unfold execOp
    simp only [ho, hx, Instr.loadAt, Instr.sureAddr, Sem.run_bind, Sem.run_pure, Result.andThen_ok, run_loadVar_row w g 25 25 _ (0, 0) _ (hS w h) underSet rfl (by rw [infoSet, cellsOf_size])]⟩
theorem yieldsIf_eql_set {ops : Array Oper} {S : World → Prop} {o : Oper} {a : Act} (hw : Region.wanted o (yielded ops a.tmps) = true) (x y : Operand) (ty : TypeId) (ho : o.op = .binOp .eql 25 x y ty) (p : Nat → Bool) (hx : a.eval x = .agg (cellsOf p)) (hy : a.eval y = .agg (cellsOf p)) :
    YieldsIf Tryd.prog ops S o (.bool true) a :=
  .inl ⟨hw, fun w _ => by
    unfold execOp
    simp only [ho, hx, hy, Sem.run_bind, run_eqGuard_agg w .eql 25 x y _ _ noGuardSet, run_eql_struct, run_equal_set, Result.andThen_ok, eqP_true.2 (fun _ _ => rfl)]
    rfl⟩
structure LvS (w : World) (b : Nat) (W : World) : Prop where
  lt : b < W.heap.size
  blk : W.heap[b]? = some (.cells (cellsOf S0) 25 (0, 0))
  tabs : Tabs W
  below : Below w.heap.size w W
theorem LvS.step {w X W : World} {b : Nat} (h : LvS w b X) (hb : Below X.heap.size X W) : LvS w b W :=
  ⟨Nat.lt_of_lt_of_le h.lt hb.size, (hb.block b h.lt).trans h.blk, h.tabs.on hb, h.below.trans (hb.mono h.below.size)⟩
theorem lv_ints (W : World) : IntsAt ((W.alloc (.cells #[.int .i64 0, .int .i64 1, .int .i64 2, .int .i64 3, .int .i64 8] 3)).drew) (.slice (some ⟨W.heap.size, 0, none⟩) 5 5) z0 5 :=
  ⟨some ⟨W.heap.size, 0, none⟩, 5, rfl, .inr ⟨W.heap.size, 0, rfl, by simp, fun i hi => by
    have hb : ((W.alloc (.cells #[.int .i64 0, .int .i64 1, .int .i64 2, .int .i64 3, .int .i64 8] 3)).drew).heap[W.heap.size]? = some (.cells #[.int .i64 0, .int .i64 1, .int .i64 2, .int .i64 3, .int .i64 8] 3 (0, 0)) := heap_alloc_new _ _
    rw [cell_of_row _ _ _ _ _ _ hb]
    match i, hi with
    | 0, _ => rfl
    | 1, _ => rfl
    | 2, _ => rfl
    | 3, _ => rfl
    | 4, _ => rfl⟩⟩
set_option maxRecDepth 100000 in
set_option maxHeartbeats 4000000 in
theorem lives_any (w : World) (hT : Tabs w) :
    Calls Tryd.prog 16 #[] w fun e w' => e = .returned (.bool true) ∧ Below w.heap.size w w' := by
  have hz := cellsOf_zero.symm
  have TT := Lib.hid hT; clear hT
  go_enter Tryd.func16, Tryd.ntmps16
  go_wp2_with fail
  refine (lp0 _).mono ?_
  rintro e w1 ⟨rfl, b1⟩
  obtain ⟨l1, l2, l3⟩ := lay_set w1 (fun _ => false) S0
  have L1 := Lib.hid l1; have L2 := Lib.hid l2; have L3 := Lib.hid l3; clear l1 l2 l3
  have B1 := Lib.hid b1; clear b1
  go_wp2_with (refine st_set rfl _ _ rfl _ _ rfl rfl _ (heap_alloc_new _ _) (cellsOf_size _) ?_)
  generalize hX1 : (w1.alloc (.cells (cellsOf fun _ => false) 25)).setRow w1.heap.size (cellsOf S0) = X1 at L1 L2 L3 ⊢
  clear hX1
  refine (lp1 _).mono ?_
  rintro e w2 ⟨rfl, b2⟩
  obtain ⟨l1, l2, l3⟩ := lay_set w2 (fun _ => false) (fun _ => false)
  have M2 := Lib.hid (Below.trans b2 (l1.mono b2.size)); clear l1 l2 l3 b2
  go_wp2_with (refine st_set rfl _ _ rfl _ _ rfl rfl _ (heap_alloc_new _ _) (cellsOf_size _) ?_)
  generalize hX2 : (w2.alloc (.cells (cellsOf fun _ => false) 25)).setRow w2.heap.size (cellsOf fun _ => false) = X2 at M2 ⊢
  clear hX2
  refine (lp2 _).mono ?_
  rintro e w3 ⟨rfl, b3⟩
  obtain ⟨l1, l2, l3⟩ := lay_set w3 (fun _ => false) (fun _ => false)
  have M3 := Lib.hid (Below.trans b3 (l1.mono b3.size)); clear l1 l2 l3 b3
  go_wp2_with (refine st_set rfl _ _ rfl _ _ rfl rfl _ (heap_alloc_new _ _) (cellsOf_size _) ?_)
  generalize hX3 : (w3.alloc (.cells (cellsOf fun _ => false) 25)).setRow w3.heap.size (cellsOf fun _ => false) = X3 at M3 ⊢
  clear hX3
  refine (lp3 _).mono ?_
  rintro e w4 ⟨rfl, b4⟩
  obtain ⟨l1, l2, l3⟩ := lay_set w4 (fun _ => false) (fun _ => false)
  have M4 := Lib.hid (Below.trans b4 (l1.mono b4.size)); clear l1 l2 l3 b4
  go_wp2_with (refine st_set rfl _ _ rfl _ _ rfl rfl _ (heap_alloc_new _ _) (cellsOf_size _) ?_)
  generalize hX4 : (w4.alloc (.cells (cellsOf fun _ => false) 25)).setRow w4.heap.size (cellsOf fun _ => false) = X4 at M4 ⊢
  clear hX4
  have hb4 : Below X1.heap.size X1 X4 := (M2.out.trans (M3.out.mono M2.out.size)).trans (M4.out.mono (Nat.le_trans M2.out.size M3.out.size))
  have hblk := (hb4.block _ L3.out).trans L2.out
  have hbw : Below w.heap.size w X4 := (B1.out.trans (L1.out.mono B1.out.size)).trans (hb4.mono (Nat.le_trans B1.out.size L1.out.size))
  have hTx : Tabs X4 := TT.out.on hbw
  have hlt : w1.heap.size < X4.heap.size := Nat.lt_of_lt_of_le L3.out hb4.size
  clear M2 M3 M4 hb4 L1 L2 L3
  generalize w1.heap.size = b at *
  have hS0 : LvS w b X4 := ⟨hlt, hblk, hTx, hbw⟩
  have hpr : Hid (∀ W, Tabs W → Calls Tryd.prog 31 #[.agg (cellsOf S0)] W fun e w' => e = .returned (.string { data := #[48, 45, 51, 44, 56] }) ∧ Below W.heap.size W w') := fun W hW => by
    have := print_any S0 W hW; rw [print_S0] at this; exact this
  have hmk : Hid (∀ W : World, Calls Tryd.prog 11 #[.slice (some ⟨W.heap.size, 0, none⟩) 5 5] ((W.alloc (.cells #[.int .i64 0, .int .i64 1, .int .i64 2, .int .i64 3, .int .i64 8] 3)).drew) fun e w' => e = .returned (.agg (cellsOf S0)) ∧ Below (W.heap.size + 1) ((W.alloc (.cells #[.int .i64 0, .int .i64 1, .int .i64 2, .int .i64 3, .int .i64 8] 3)).drew) w') := fun W => by
    have := make_any z0 5 _ _ (by omega) (lv_ints W); simpa [S0] using this
  have HS := Lib.hid (hS0.step (Below.refl _ _).drew)
  have H0 := Lib.hid hS0
  clear hbw hTx hlt hblk hS0
  refine wp_region_held_drew (S := LvS w b) (by kernel_rfl) HS.out (fun _ => ?_)
  show wpAnyH _ _ _ _ _ _ _ _ _
  refine wpAnyH_take (i := 0) (v := ?_) rfl (by kernel_rfl) (by kernel_rfl) (by kernel_rfl) (fun _ _ _ h => h) (Or.inl ⟨by rfl, fun W hW => by go_simp <;> with_reducible rfl⟩) HS.out ?_
  go_simp
  refine wpAnyH_take (i := 1) (v := ?_) rfl (by kernel_rfl) (by kernel_rfl) (by kernel_rfl) (fun _ _ _ h => h) (Or.inl ⟨by rfl, fun W hW => by go_simp <;> with_reducible rfl⟩) HS.out ?_
  go_simp
  refine wpAnyH_take (i := 2) (v := ?_) rfl (by kernel_rfl) (by kernel_rfl) (by kernel_rfl) (fun _ _ _ h => h) (Or.inl ⟨by rfl, fun W hW => by go_simp <;> with_reducible rfl⟩) HS.out ?_
  go_simp
  refine wpAnyH_take (i := 3) (v := _) rfl (by kernel_rfl) (by kernel_rfl) (by kernel_rfl) (fun _ _ _ h => h) (yieldsIf_load_set (by rfl) _ rfl b S0 rfl (fun W h => h.blk)) HS.out ?_
  go_simp
  refine wpAnyH_ready (rs := [4]) (by kernel_rfl) (by simp) (AllReadyH.cons rfl (fun K hK => ?_) AllReadyH.nil)
  go_simp
  clear HS
  have HS := Lib.hid (H0.out.step (((Below.refl _ _).alloc (Nat.le_refl _) (.cells #[.int .i64 0, .int .i64 1, .int .i64 2, .int .i64 3, .int .i64 8] 3)).drew))
  refine hK.out _ _ HS.out (fun _ => ?_)
  clear hK K
  refine wpAnyH_ready (rs := [5]) (by kernel_rfl) (by simp) (AllReadyH.cons rfl (fun K hK => ?_) AllReadyH.nil)
  go_simp
  refine (hmk.out _).mono ?_
  rintro e w5 ⟨rfl, h5⟩
  have HS' := Lib.hid (HS.out.step (h5.mono (by simp)))
  clear HS; have HS := HS'; clear HS'
  refine hK.out _ _ HS.out (fun _ => ?_)
  clear hK K
  refine wpAnyH_take (i := 6) (v := _) rfl (by kernel_rfl) (by kernel_rfl) (by kernel_rfl) (fun _ _ _ h => h) (yieldsIf_eql_set (by rfl) _ _ _ rfl S0 rfl rfl) HS.out ?_
  go_simp
  refine wpAnyH_take (i := 7) (v := ?_) rfl (by kernel_rfl) (by kernel_rfl) (by kernel_rfl) (fun _ _ _ h => h) (Or.inl ⟨by rfl, fun W hW => by go_simp <;> with_reducible rfl⟩) HS.out ?_
  go_simp
  refine wpAnyH_take (i := 8) (v := ?_) rfl (by kernel_rfl) (by kernel_rfl) (by kernel_rfl) (fun _ _ _ h => h) (Or.inl ⟨by rfl, fun W hW => by go_simp <;> with_reducible rfl⟩) HS.out ?_
  go_simp
  refine wpAnyH_take (i := 9) (v := _) rfl (by kernel_rfl) (by kernel_rfl) (by kernel_rfl) (fun _ _ _ h => h) (yieldsIf_load_set (by rfl) _ rfl b S0 rfl (fun W h => h.blk)) HS.out ?_
  go_simp
  refine wpAnyH_ready (rs := [10]) (by kernel_rfl) (by simp) (AllReadyH.cons rfl (fun K hK => ?_) AllReadyH.nil)
  go_simp
  refine (hpr.out _ HS.out.tabs).mono ?_
  rintro e w6 ⟨rfl, h6⟩
  have HS' := Lib.hid (HS.out.step h6)
  clear HS; have HS := HS'; clear HS'
  refine hK.out _ _ HS.out (fun _ => ?_)
  clear hK K
  refine wpAnyH_take (i := 11) (v := ?_) rfl (by kernel_rfl) (by kernel_rfl) (by kernel_rfl) (fun _ _ _ h => h) (Or.inl ⟨by rfl, fun W hW => by go_simp <;> with_reducible rfl⟩) HS.out ?_
  go_simp
  refine wpAnyH_take (i := 12) (v := ?_) rfl (by kernel_rfl) (by kernel_rfl) (by kernel_rfl) (fun _ _ _ h => h) (Or.inl ⟨by rfl, fun W hW => by go_simp <;> with_reducible rfl⟩) HS.out ?_
  go_simp
  refine wpAnyH_take (i := 13) (v := ?_) rfl (by kernel_rfl) (by kernel_rfl) (by kernel_rfl) (fun _ _ _ h => h) (Or.inl ⟨by rfl, fun W hW => by go_simp <;> with_reducible rfl⟩) HS.out ?_
  go_simp
  refine wpAnyH_take (i := 14) (v := ?_) rfl (by kernel_rfl) (by kernel_rfl) (by kernel_rfl) (fun _ _ _ h => h) (Or.inl ⟨by rfl, fun W hW => by go_simp <;> with_reducible rfl⟩) HS.out ?_
  go_simp
  refine wpAnyH_take (i := 15) (v := ?_) rfl (by kernel_rfl) (by kernel_rfl) (by kernel_rfl) (fun _ _ _ h => h) (Or.inl ⟨by rfl, fun W hW => by go_simp <;> with_reducible rfl⟩) HS.out ?_
  go_simp
  refine wpAnyH_take (i := 16) (v := ?_) rfl (by kernel_rfl) (by kernel_rfl) (by kernel_rfl) (fun _ _ _ h => h) (Or.inl ⟨by rfl, fun W hW => by go_simp <;> with_reducible rfl⟩) HS.out ?_
  go_simp
  refine wpAnyH_take (i := 17) (v := ?_) rfl (by kernel_rfl) (by kernel_rfl) (by kernel_rfl) (fun _ _ _ h => h) (Or.inl ⟨by rfl, fun W hW => by go_simp <;> with_reducible rfl⟩) HS.out ?_
  go_simp
  refine wpAnyH_take (i := 18) (v := ?_) rfl (by kernel_rfl) (by kernel_rfl) (by kernel_rfl) (fun _ _ _ h => h) (Or.inl ⟨by rfl, fun W hW => by go_simp <;> with_reducible rfl⟩) HS.out ?_
  go_simp
  refine wpAnyH_take (i := 19) (v := ?_) rfl (by kernel_rfl) (by kernel_rfl) (by kernel_rfl) (fun _ _ _ h => h) (Or.inl ⟨by rfl, fun W hW => by go_simp <;> with_reducible rfl⟩) HS.out ?_
  go_simp
  refine wpAnyH_take (i := 20) (v := ?_) rfl (by kernel_rfl) (by kernel_rfl) (by kernel_rfl) (fun _ _ _ h => h) (Or.inl ⟨by rfl, fun W hW => by go_simp <;> with_reducible rfl⟩) HS.out ?_
  go_simp
  refine wpAnyH_take (i := 21) (v := ?_) rfl (by kernel_rfl) (by kernel_rfl) (by kernel_rfl) (fun _ _ _ h => h) (Or.inl ⟨by rfl, fun W hW => by go_simp <;> with_reducible rfl⟩) HS.out ?_
  go_simp
  refine wpAnyH_take (i := 22) (v := ?_) rfl (by kernel_rfl) (by kernel_rfl) (by kernel_rfl) (fun _ _ _ h => h) (Or.inl ⟨by rfl, fun W hW => by go_simp <;> with_reducible rfl⟩) HS.out ?_
  go_simp
  refine wpAnyH_take (i := 23) (v := ?_) rfl (by kernel_rfl) (by kernel_rfl) (by kernel_rfl) (fun _ _ _ h => h) (Or.inl ⟨by rfl, fun W hW => by go_simp <;> with_reducible rfl⟩) HS.out ?_
  go_simp
  refine wpAnyH_take (i := 24) (v := ?_) rfl (by kernel_rfl) (by kernel_rfl) (by kernel_rfl) (fun _ _ _ h => h) (Or.inl ⟨by rfl, fun W hW => by go_simp <;> with_reducible rfl⟩) HS.out ?_
  go_simp
  refine wpAnyH_take (i := 25) (v := ?_) rfl (by kernel_rfl) (by kernel_rfl) (by kernel_rfl) (fun _ _ _ h => h) (Or.inl ⟨by rfl, fun W hW => by go_simp <;> with_reducible rfl⟩) HS.out ?_
  go_simp
  refine wpAnyH_take (i := 26) (v := ?_) rfl (by kernel_rfl) (by kernel_rfl) (by kernel_rfl) (fun _ _ _ h => h) (Or.inl ⟨by rfl, fun W hW => by go_simp <;> with_reducible rfl⟩) HS.out ?_
  go_simp
  refine wpAnyH_take (i := 27) (v := ?_) rfl (by kernel_rfl) (by kernel_rfl) (by kernel_rfl) (fun _ _ _ h => h) (Or.inl ⟨by rfl, fun W hW => by go_simp <;> with_reducible rfl⟩) HS.out ?_
  go_simp
  refine wpAnyH_take (i := 28) (v := ?_) rfl (by kernel_rfl) (by kernel_rfl) (by kernel_rfl) (fun _ _ _ h => h) (Or.inl ⟨by rfl, fun W hW => by go_simp <;> with_reducible rfl⟩) HS.out ?_
  go_simp
  refine wpAnyH_take (i := 29) (v := ?_) rfl (by kernel_rfl) (by kernel_rfl) (by kernel_rfl) (fun _ _ _ h => h) (Or.inl ⟨by rfl, fun W hW => by go_simp <;> with_reducible rfl⟩) HS.out ?_
  go_simp
  refine wpAnyH_take (i := 30) (v := ?_) rfl (by kernel_rfl) (by kernel_rfl) (by kernel_rfl) (fun _ _ _ h => h) (Or.inl ⟨by rfl, fun W hW => by go_simp <;> with_reducible rfl⟩) HS.out ?_
  go_simp
  refine wpAnyH_take (i := 31) (v := ?_) rfl (by kernel_rfl) (by kernel_rfl) (by kernel_rfl) (fun _ _ _ h => h) (Or.inl ⟨by rfl, fun W hW => by go_simp <;> with_reducible rfl⟩) HS.out ?_
  go_simp
  refine wpAnyH_take (i := 32) (v := ?_) rfl (by kernel_rfl) (by kernel_rfl) (by kernel_rfl) (fun _ _ _ h => h) (Or.inl ⟨by rfl, fun W hW => by go_simp <;> with_reducible rfl⟩) HS.out ?_
  go_simp
  refine wpAnyH_take (i := 33) (v := ?_) rfl (by kernel_rfl) (by kernel_rfl) (by kernel_rfl) (fun _ _ _ h => h) (Or.inl ⟨by rfl, fun W hW => by go_simp <;> with_reducible rfl⟩) HS.out ?_
  go_simp
  refine wpAnyH_take (i := 34) (v := ?_) rfl (by kernel_rfl) (by kernel_rfl) (by kernel_rfl) (fun _ _ _ h => h) (Or.inl ⟨by rfl, fun W hW => by go_simp <;> with_reducible rfl⟩) HS.out ?_
  go_simp
  refine wpAnyH_take (i := 35) (v := ?_) rfl (by kernel_rfl) (by kernel_rfl) (by kernel_rfl) (fun _ _ _ h => h) (Or.inl ⟨by rfl, fun W hW => by go_simp <;> with_reducible rfl⟩) HS.out ?_
  go_simp
  refine wpAnyH_take (i := 36) (v := ?_) rfl (by kernel_rfl) (by kernel_rfl) (by kernel_rfl) (fun _ _ _ h => h) (Or.inl ⟨by rfl, fun W hW => by go_simp <;> with_reducible rfl⟩) HS.out ?_
  go_simp
  refine wpAnyH_take (i := 37) (v := ?_) rfl (by kernel_rfl) (by kernel_rfl) (by kernel_rfl) (fun _ _ _ h => h) (Or.inl ⟨by rfl, fun W hW => by go_simp <;> with_reducible rfl⟩) HS.out ?_
  go_simp
  refine wpAnyH_done (by kernel_rfl) ?_ _
  go_wp2
  go_ret
  exact ⟨rfl, HS.out.below⟩
end Go.Proofs.YtpdghnlnbhenhaaDoor
