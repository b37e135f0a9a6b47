/- Layer 13's lives. -/
import Derived.Test.YtekahmfchpgmfaaZn
import Derived.Test.YtekahmfchpgmfaaZj
namespace Go.Proofs.Ytekahmfchpgmfaa
open Go.RowKit
set_option maxRecDepth 100000

def z01 (i : Nat) : Int := if i = 0 then 0 else 1
def z12 (i : Nat) : Int := if i = 0 then 1 else 2
def M1 : Nat → Bool := ofP z01 2
def M2 : Nat → Bool := ofP z12 2
def M3 : Nat → Bool := ofP (fun _ => 1) 1
def lb1 : List Bub := makeT [] (-1) M1
def lb2 : List Bub := makeT lb1 0 M2
def lb3 : List Bub := sealT lb2 1
def lb4 : List Bub := sealT lb3 0
def lb5 : List Bub := placeT lb4 0 3
def lb6 : List Bub := burstT lb5 0
theorem lb1_e : makeE [] (-1) M1 = (0, 0) := by decide +kernel
theorem lb2_e : makeE lb1 0 M2 = (1, 0) := by decide +kernel
theorem lb2_m : eqP (maskP lb2 1) M3 = true := by decide +kernel
theorem lb3_e : sealE lb2 1 = 0 := by decide +kernel
theorem lb4_e : sealE lb3 0 = 0 := by decide +kernel
theorem lb5_e : placeE lb4 0 = 0 := by decide +kernel
theorem lb6_e : burstE lb5 0 = 0 := by decide +kernel
theorem lb6_l : burstL lb5 0 = [0, 1] := by decide +kernel
theorem lb6_0 : freeP lb6 0 = true := by decide +kernel
theorem lb6_1 : freeP lb6 1 = false := by decide +kernel
theorem ints1 (a : Int) (W : World) : IntsAt (W.alloc (.cells #[.int .i64 a] 3)) (.slice (some ⟨W.heap.size, 0, none⟩) 1 1) (fun _ => a) 1 :=
  ⟨some ⟨W.heap.size, 0, none⟩, 1, rfl, .inr ⟨W.heap.size, 0, rfl, by simp, fun i hi => by
    rw [(Blk.new W 3 #[.int .i64 a]).cell]
    match i, hi with
    | 0, _ => rfl⟩⟩
theorem ints2 (a b : Int) (z : Nat → Int) (h0 : z 0 = a) (h1 : z 1 = b) (W : World) : IntsAt (W.alloc (.cells #[.int .i64 a, .int .i64 b] 3)) (.slice (some ⟨W.heap.size, 0, none⟩) 2 2) z 2 :=
  ⟨some ⟨W.heap.size, 0, none⟩, 2, rfl, .inr ⟨W.heap.size, 0, rfl, by simp, fun i hi => by
    rw [(Blk.new W 3 #[.int .i64 a, .int .i64 b]).cell]
    match i, hi with
    | 0, _ => rw [h0]; rfl
    | 1, _ => rw [h1]; rfl⟩⟩
theorem nums2 (a b : Int) (W : World) : NumsIn (W.alloc (.cells #[.int .i64 a, .int .i64 b] 3)) (some ⟨W.heap.size, 0, none⟩) [a, b] := fun i x hx => ⟨W.heap.size, 0, rfl, by simp, by
  rw [(Blk.new W 3 #[.int .i64 a, .int .i64 b]).cell]
  match i, hx with
  | 0, hx => simpa using hx
  | 1, hx => simpa using hx
  | i + 2, hx => simp at hx⟩
/-- A forest of the law's own, behind w. -/
structure Own (w : World) (fb : Nat) (v : Value) (bs : List Bub) (W : World) : Prop where
  tab : ForC fb v bs W
  own : ∀ k, OwnF fb v k → w.heap.size ≤ k
  below : Below w.heap.size w W
section
variable {w W W' : World} {fb : Nat} {v v' : Value} {bs bs' : List Bub}
theorem Own.on (h : Own w fb v bs W) (hb : Below W.heap.size W W') : Own w fb v bs W' := ⟨h.tab.below hb, h.own, h.below.trans (hb.mono h.below.size)⟩
theorem Own.turn (h : Own w fb v bs W) (ht : ForC fb v bs' W') (hb : But (OwnF fb v) W W') : Own w fb v bs' W' := ⟨ht, h.own, h.below.trans (hb.below h.below.size fun k _ q => h.own k q)⟩
theorem Own.grow (h : Own w fb v bs W) (ht : ForC fb v' bs' W') (hb : But (OwnF fb v) W W') (hv : ∀ g, v'.ownBlock = some g → v.ownBlock = some g ∨ W.heap.size ≤ g) : Own w fb v' bs' W' :=
  ⟨ht, fun k hk => by
    rcases hk with q | q
    · exact h.own k (.inl q)
    · rcases hv k q with z | z
      · exact h.own k (.inr z)
      · exact Nat.le_trans h.below.size z, h.below.trans (hb.below h.below.size fun k _ q => h.own k q)⟩
theorem own_new (w : World) (W : World) (hb : Below w.heap.size w W) : Calls Try.prog 24 #[] W fun e W' => e = .returned (.pointer (some ⟨W.heap.size, 0, none⟩)) ∧ Own w W.heap.size (.slice none 0 0) [] W' :=
  (fnew_any W).mono fun _ _ ⟨he, ht, hb'⟩ => ⟨he, ⟨ht, fun k hk => by
    rcases hk with q | q
    · rw [q]; exact hb.size
    · simp [Value.ownBlock] at q, hb.trans (hb'.mono hb.size)⟩⟩
theorem own_make (up : Int) (m : Nat → Bool) (h : Own w fb v bs W) : Calls Try.prog 33 #[.pointer (some ⟨fb, 0, none⟩), .int .i64 up, .agg (cellsOf m)] W fun e W' => e = .returned (.tuple #[.int .i64 (makeE bs up m).1, .int .i64 (makeE bs up m).2]) ∧ ∃ v', Own w fb v' (makeT bs up m) W' :=
  (fmake_any up m h.tab).mono fun _ _ ⟨v', he, ht, hb, hv⟩ => ⟨he, v', h.grow ht hb hv⟩
theorem own_seal (b : Int) (h : Own w fb v bs W) : Calls Try.prog 34 #[.pointer (some ⟨fb, 0, none⟩), .int .i64 b] W fun e W' => e = .returned (.int .i64 (sealE bs b)) ∧ Own w fb v (sealT bs b) W' :=
  (fseal_any b h.tab).mono fun _ _ ⟨he, ht, hb⟩ => ⟨he, h.turn ht hb⟩
theorem own_place (b home : Int) (h : Own w fb v bs W) : Calls Try.prog 35 #[.pointer (some ⟨fb, 0, none⟩), .int .i64 b, .int .i64 home] W fun e W' => e = .returned (.int .i64 (placeE bs b)) ∧ Own w fb v (placeT bs b home) W' :=
  (fplace_any b home h.tab).mono fun _ _ ⟨he, ht, hb⟩ => ⟨he, h.turn ht hb⟩
theorem own_burst (b : Int) (h : Own w fb v bs W) : Calls Try.prog 36 #[.pointer (some ⟨fb, 0, none⟩), .int .i64 b] W fun e W' => ∃ u, e = .returned (.tuple #[u, .int .i64 (burstE bs b)]) ∧ MineN W.heap.size u (burstL bs b) W' ∧ Own w fb v (burstT bs b) W' :=
  (fburst_any b h.tab).mono fun _ _ ⟨u, he, hm, ht, hb⟩ => ⟨u, he, hm, h.turn ht hb⟩
end
theorem neqS_halt {ops : Array Oper} {rest : List Oper} {op : Oper} {a : Act} {w : World} {Q : Exit → Act → World → Prop} {g : Nat × Bool} {u : TypeId} (_ : op.guard = some g) (x y : Operand) (_ : op.op = .binOp .neq 28 x y u) (h : Hid (wpList Try.prog ops Q (op :: rest) a w)) : wpList Try.prog ops Q (op :: rest) a w := h.out
theorem eqlS_halt {ops : Array Oper} {rest : List Oper} {op : Oper} {a : Act} {w : World} {Q : Exit → Act → World → Prop} {g : Nat × Bool} {u : TypeId} (_ : op.guard = some g) (x y : Operand) (_ : op.op = .binOp .eql 28 x y u) (h : Hid (wpList Try.prog ops Q (op :: rest) a w)) : wpList Try.prog ops Q (op :: rest) a w := h.out
theorem mk2 (a b : Int) (z : Nat → Int) (m : Nat → Bool) (hm : m = ofP z 2) (h0 : z 0 = a) (h1 : z 1 = b) (W : World) : Calls Try.prog 29 #[.slice (some ⟨W.heap.size, 0, none⟩) 2 2] (W.alloc (.cells #[.int .i64 a, .int .i64 b] 3)) fun e W' => e = .returned (.agg (cellsOf m)) ∧ Below W.heap.size W W' := by
  have h := make_any z 2 _ _ (by omega) (ints2 a b z h0 h1 W)
  rw [← hm] at h
  exact h.mono fun _ _ ⟨he, hb⟩ => ⟨he, ((Below.refl _ _).alloc (Nat.le_refl _) _).trans (hb.mono (by simp))⟩
theorem mk1 (a : Int) (m : Nat → Bool) (hm : m = ofP (fun _ => a) 1) (W : World) : Calls Try.prog 29 #[.slice (some ⟨W.heap.size, 0, none⟩) 1 1] (W.alloc (.cells #[.int .i64 a] 3)) fun e W' => e = .returned (.agg (cellsOf m)) ∧ Below W.heap.size W W' := by
  have h := make_any (fun _ => a) 1 _ _ (by omega) (ints1 a W)
  rw [← hm] at h
  exact h.mono fun _ _ ⟨he, hb⟩ => ⟨he, ((Below.refl _ _).alloc (Nat.le_refl _) _).trans (hb.mono (by simp))⟩
set_option maxHeartbeats 16000000 in
theorem lives13_any (w : World) : Calls Try.prog 12 #[] w (GotB w.heap.size (.bool true) w) := by
  have HN := Lib.hid (own_new w w (Below.refl _ _))
  have HK01 := Lib.hid (mk2 0 1 z01 M1 rfl rfl rfl); have HK12 := Lib.hid (mk2 1 2 z12 M2 rfl rfl rfl); have HK1 := Lib.hid (mk1 1 M3 rfl)
  go_enter Try.func12, Try.ntmps12
  go_wp2_with fail
  refine HN.out.mono ?_
  rintro e w1 ⟨rfl, h1⟩
  dsimp only
  generalize hfb : w.heap.size = fb at h1 ⊢
  have HO1 := Lib.hid h1
  clear h1 HN
  go_wp2_with fail
  refine (HK01.out w1).mono ?_
  rintro e w2 ⟨rfl, h2⟩
  dsimp only
  have HM : Hid (Calls Try.prog 33 #[.pointer (some ⟨fb, 0, none⟩), .int .i64 (-1), .agg (cellsOf M1)] w2 fun e W' => e = .returned (.tuple #[.int .i64 0, .int .i64 0]) ∧ ∃ v', Own w fb v' lb1 W') := by
    have := own_make (-1) M1 (HO1.out.on h2)
    rw [lb1_e] at this
    exact this
  clear h2 HO1
  go_wp2_with fail
  refine HM.out.mono ?_
  rintro e w3 ⟨rfl, v3, h3⟩
  dsimp only
  have HO3 := Lib.hid h3
  clear h3 HM
  go_wp2_with fail
  refine (HK12.out w3).mono ?_
  rintro e w4 ⟨rfl, h4⟩
  dsimp only
  have HM : Hid (Calls Try.prog 33 #[.pointer (some ⟨fb, 0, none⟩), .int .i64 0, .agg (cellsOf M2)] w4 fun e W' => e = .returned (.tuple #[.int .i64 1, .int .i64 0]) ∧ ∃ v', Own w fb v' lb2 W') := by
    have := own_make 0 M2 (HO3.out.on h4)
    rw [lb2_e] at this
    exact this
  clear h4 HO3
  go_wp2_with fail
  refine HM.out.mono ?_
  rintro e w5 ⟨rfl, v5, h5⟩
  dsimp only
  have HO5 := Lib.hid h5
  have HMA := Lib.hid (fmask_any 1 h5.tab)
  have hmm := lb2_m
  generalize maskP lb2 1 = MM at HMA hmm
  clear h5 HM
  go_wp2_with fail
  refine HMA.out.mono ?_
  rintro e w6 ⟨rfl, h6⟩
  dsimp only
  have HO6 := Lib.hid (HO5.out.on h6)
  clear h6 HO5 HMA
  go_wp2_with fail
  refine (HK1.out w6).mono ?_
  rintro e w7 ⟨rfl, h7⟩
  dsimp only
  have HS : Hid (Calls Try.prog 34 #[.pointer (some ⟨fb, 0, none⟩), .int .i64 1] w7 fun e W' => e = .returned (.int .i64 0) ∧ Own w fb v5 lb3 W') := by
    have := own_seal 1 (HO6.out.on h7)
    rw [lb3_e] at this
    exact this
  clear h7 HO6
  go_wp2_with (with_reducible (show wpList _ _ _ _ _ _); refine neqS_halt rfl (.tmp 31) (.tmp 33) rfl ?_)
  refine Lib.hid ?_
  refine neq_set (by rfl) (.tmp 31) (.tmp 33) _ rfl MM M3 rfl rfl ?_
  go_wp2_with fail
  refine HS.out.mono ?_
  rintro e w8 ⟨rfl, h8⟩
  dsimp only
  have HS : Hid (Calls Try.prog 34 #[.pointer (some ⟨fb, 0, none⟩), .int .i64 0] w8 fun e W' => e = .returned (.int .i64 0) ∧ Own w fb v5 lb4 W') := by
    have := own_seal 0 h8
    rw [lb4_e] at this
    exact this
  clear h8
  go_wp2_with fail
  refine HS.out.mono ?_
  rintro e w9 ⟨rfl, h9⟩
  dsimp only
  have HS : Hid (Calls Try.prog 35 #[.pointer (some ⟨fb, 0, none⟩), .int .i64 0, .int .i64 3] w9 fun e W' => e = .returned (.int .i64 0) ∧ Own w fb v5 lb5 W') := by
    have := own_place 0 3 h9
    rw [lb5_e] at this
    exact this
  clear h9
  go_wp2_with fail
  refine HS.out.mono ?_
  rintro e w10 ⟨rfl, h10⟩
  dsimp only
  have HBU : Hid (Calls Try.prog 36 #[.pointer (some ⟨fb, 0, none⟩), .int .i64 0] w10 fun e W' => ∃ u, e = .returned (.tuple #[u, .int .i64 0]) ∧ MineN w10.heap.size u [0, 1] W' ∧ Own w fb v5 lb6 W') := by
    have := own_burst 0 h10
    rw [lb6_e, lb6_l] at this
    exact this
  clear h10 HS
  go_wp2_with fail
  refine HBU.out.mono ?_
  rintro e w11 ⟨u, rfl, m11, h11⟩
  dsimp only
  obtain ⟨A, cap, rfl, hn⟩ := m11.nums
  have ha : Below w11.heap.size w11 (w11.alloc (.cells #[.int .i64 0, .int .i64 1] 3)) := (Below.refl _ _).alloc (Nat.le_refl _) _
  have HS : Hid (Calls Try.prog 37 #[.slice A 2 cap, .slice (some ⟨w11.heap.size, 0, none⟩) 2 2] (w11.alloc (.cells #[.int .i64 0, .int .i64 1] 3)) (GotB (w11.alloc (.cells #[.int .i64 0, .int .i64 1] 3)).heap.size (.bool true) (w11.alloc (.cells #[.int .i64 0, .int .i64 1] 3)))) :=
    Lib.hid (same04_yes A _ [0, 1] cap 2 _ (by simp) (hn.below ha) (nums2 0 1 w11))
  have HO11 := Lib.hid (h11.on ha)
  clear m11 hn h11 ha HBU
  try simp only [List.length_cons, List.length_nil, Nat.zero_add, Nat.reduceAdd]
  go_wp2_with fail
  refine HS.out.mono ?_
  rintro e w12 ⟨rfl, h12⟩
  dsimp only
  have HO12 := Lib.hid (HO11.out.on h12)
  have HF0 := Lib.hid (ffree_any 0 HO12.out.tab)
  rw [lb6_0] at HF0
  clear h12 HO11 HS
  go_wp2_with fail
  refine HF0.out.mono ?_
  rintro e w13 ⟨rfl, h13⟩
  dsimp only
  have HO13 := Lib.hid (HO12.out.on h13)
  have HF1 := Lib.hid (ffree_any 1 HO13.out.tab)
  rw [lb6_1] at HF1
  clear h13 HO12 HF0
  go_wp2_with fail
  refine HF1.out.mono ?_
  rintro e w14 ⟨rfl, h14⟩
  dsimp only
  have HB := Lib.hid (HO13.out.on h14).below
  clear h14 HO13 HF1
  go_wp2_with fail
  go_ret
  exact ⟨rfl, hfb ▸ HB.out⟩
end Go.Proofs.Ytekahmfchpgmfaa
