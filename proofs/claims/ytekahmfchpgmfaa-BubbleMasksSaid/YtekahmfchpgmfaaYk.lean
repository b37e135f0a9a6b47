/- A thing done to both, forest and document: Seal, Place, Burst, Regen (layer 13): printed by gen_yk10.py. -/
import Derived.Test.YtekahmfchpgmfaaYj
namespace Go.Proofs.Ytekahmfchpgmfaa
open Go.RowKit
set_option maxRecDepth 100000

section
variable {w W W' : World} {fb : Nat} {v v' d d' : Value} {bs cs bs' cs' : List Bub}
set_option maxHeartbeats 16000000 in
theorem do_seal (o : OpB) (h : Pair w fb v d bs bs W) (hk : o.kind % 6 = 2) :
    Calls Try.prog 25 #[.pointer (some ⟨fb, 0, none⟩), d, .agg (opbL o).toArray] W (DoB w fb v bs o W) := by
  have hD : doB bs o = turnT bs 2 o.b o.home := by unfold doB; rw [hk]; rfl
  unfold DoB
  rw [hD]
  have hal : Below W.heap.size W (W.alloc (.cells (opbL o).toArray 68)) := (Below.refl _ _).alloc (Nat.le_refl _) _
  have HP1 := Lib.hid (h.on hal)
  have HF1 : Hid (But (OwnF fb v) W (W.alloc (.cells (opbL o).toArray 68))) := But.of_below hal
  have hbx := Blk.new W 68 (opbL o).toArray
  have HBX := Lib.hid hbx
  have y0 : (W.alloc (.cells (opbL o).toArray 68)).cell? ⟨W.heap.size, 0, none⟩ = some (.int .u64 o.kind) := (hbx.cell 0).trans rfl
  have y1 : (W.alloc (.cells (opbL o).toArray 68)).cell? ⟨W.heap.size, 1, none⟩ = some (.int .i64 o.b) := (hbx.cell 1).trans rfl
  have y2 : (W.alloc (.cells (opbL o).toArray 68)).cell? ⟨W.heap.size, 2, none⟩ = some (.int .i64 o.home) := (hbx.cell 2).trans rfl
  have HC : Hid (Calls Try.prog 50 #[d, .int .i64 2, .int .i64 o.b, .int .i64 o.home] (W.alloc (.cells (opbL o).toArray 68)) (RTurnP d bs 2 o.b o.home (W.alloc (.cells (opbL o).toArray 68)))) := rturn_any 2 (by omega) o.b o.home HP1.out.doc
  have hm : (o.kind : Int) % 6 = 2 := by omega
  have hxw : W.heap.size < (W.alloc (.cells (opbL o).toArray 68)).heap.size := by simp
  have HXW := Lib.hid hxw
  obtain ⟨kd, b, home, m⟩ := o
  dsimp only at hm y0 y1 y2 HC hD hk ⊢
  obtain ⟨O, hO⟩ : ∃ O, opbL ⟨kd, b, home, m⟩ = O := ⟨_, rfl⟩
  have HO := Lib.hid hO
  rw [hO] at HP1 HBX HXW HF1 ⊢
  simp only [hO] at HC y0 y1 y2
  clear hO h hbx hal hk hD hxw
  go_enter Try.func25, Try.ntmps25
  go_wp2_with fail
  refine HC.out.mono ?_
  rintro e w2 ⟨d2, u2, rfl, h2, m2, b2, f2⟩
  dsimp only
  have HP2 := Lib.hid (HP1.out.docs h2 b2 f2)
  have HF2 : Hid (But (OwnF fb v) W w2) := HF1.out.trans (But.of_below b2)
  have hb2 := Blk.below HBX.out b2 HXW.out
  rw [← HO.out] at hb2
  have z1 : w2.cell? ⟨W.heap.size, 1, none⟩ = some (.int .i64 b) := (hb2.cell 1).trans rfl
  have z2 : w2.cell? ⟨W.heap.size, 2, none⟩ = some (.int .i64 home) := (hb2.cell 2).trans rfl
  have HC2 := Lib.hid (fseal_any b HP2.out.own.tab)
  have hE : turnE bs 2 b = sealE bs b := rfl
  rw [hE]
  clear h2 m2 b2 f2 HC y0 y1 y2 HP1 hb2 hE
  go_wp2_with fail
  refine HC2.out.mono ?_
  rintro e w3 ⟨rfl, h3, b3⟩
  dsimp only
  have HP3 : Hid (Pair w fb v d2 (turnT bs 2 b home) (turnT bs 2 b home) w3) := HP2.out.codes h3 b3
  have HF3 : Hid (But (OwnF fb v) W w3) := HF2.out.trans b3
  clear h3 b3 HC2 z1 z2 HP2
  generalize sealE bs b = ee at *
  have q1 : (ee == ee) = true := by simp
  go_wp2_with fail
  go_ret2
  exact ⟨v, d2, rfl, HP3.out, HF3.out⟩
set_option maxHeartbeats 16000000 in
theorem do_place (o : OpB) (h : Pair w fb v d bs bs W) (hk : o.kind % 6 = 3) :
    Calls Try.prog 25 #[.pointer (some ⟨fb, 0, none⟩), d, .agg (opbL o).toArray] W (DoB w fb v bs o W) := by
  have hD : doB bs o = turnT bs 3 o.b o.home := by unfold doB; rw [hk]; rfl
  unfold DoB
  rw [hD]
  have hal : Below W.heap.size W (W.alloc (.cells (opbL o).toArray 68)) := (Below.refl _ _).alloc (Nat.le_refl _) _
  have HP1 := Lib.hid (h.on hal)
  have HF1 : Hid (But (OwnF fb v) W (W.alloc (.cells (opbL o).toArray 68))) := But.of_below hal
  have hbx := Blk.new W 68 (opbL o).toArray
  have HBX := Lib.hid hbx
  have y0 : (W.alloc (.cells (opbL o).toArray 68)).cell? ⟨W.heap.size, 0, none⟩ = some (.int .u64 o.kind) := (hbx.cell 0).trans rfl
  have y1 : (W.alloc (.cells (opbL o).toArray 68)).cell? ⟨W.heap.size, 1, none⟩ = some (.int .i64 o.b) := (hbx.cell 1).trans rfl
  have y2 : (W.alloc (.cells (opbL o).toArray 68)).cell? ⟨W.heap.size, 2, none⟩ = some (.int .i64 o.home) := (hbx.cell 2).trans rfl
  have HC : Hid (Calls Try.prog 50 #[d, .int .i64 3, .int .i64 o.b, .int .i64 o.home] (W.alloc (.cells (opbL o).toArray 68)) (RTurnP d bs 3 o.b o.home (W.alloc (.cells (opbL o).toArray 68)))) := rturn_any 3 (by omega) o.b o.home HP1.out.doc
  have hm : (o.kind : Int) % 6 = 3 := by omega
  have hxw : W.heap.size < (W.alloc (.cells (opbL o).toArray 68)).heap.size := by simp
  have HXW := Lib.hid hxw
  obtain ⟨kd, b, home, m⟩ := o
  dsimp only at hm y0 y1 y2 HC hD hk ⊢
  obtain ⟨O, hO⟩ : ∃ O, opbL ⟨kd, b, home, m⟩ = O := ⟨_, rfl⟩
  have HO := Lib.hid hO
  rw [hO] at HP1 HBX HXW HF1 ⊢
  simp only [hO] at HC y0 y1 y2
  clear hO h hbx hal hk hD hxw
  go_enter Try.func25, Try.ntmps25
  go_wp2_with fail
  refine HC.out.mono ?_
  rintro e w2 ⟨d2, u2, rfl, h2, m2, b2, f2⟩
  dsimp only
  have HP2 := Lib.hid (HP1.out.docs h2 b2 f2)
  have HF2 : Hid (But (OwnF fb v) W w2) := HF1.out.trans (But.of_below b2)
  have hb2 := Blk.below HBX.out b2 HXW.out
  rw [← HO.out] at hb2
  have z1 : w2.cell? ⟨W.heap.size, 1, none⟩ = some (.int .i64 b) := (hb2.cell 1).trans rfl
  have z2 : w2.cell? ⟨W.heap.size, 2, none⟩ = some (.int .i64 home) := (hb2.cell 2).trans rfl
  have HC2 := Lib.hid (fplace_any b home HP2.out.own.tab)
  have hE : turnE bs 3 b = placeE bs b := rfl
  rw [hE]
  clear h2 m2 b2 f2 HC y0 y1 y2 HP1 hb2 hE
  go_wp2_with fail
  refine HC2.out.mono ?_
  rintro e w3 ⟨rfl, h3, b3⟩
  dsimp only
  have HP3 : Hid (Pair w fb v d2 (turnT bs 3 b home) (turnT bs 3 b home) w3) := HP2.out.codes h3 b3
  have HF3 : Hid (But (OwnF fb v) W w3) := HF2.out.trans b3
  clear h3 b3 HC2 z1 z2 HP2
  generalize placeE bs b = ee at *
  have q1 : (ee == ee) = true := by simp
  go_wp2_with fail
  go_ret2
  exact ⟨v, d2, rfl, HP3.out, HF3.out⟩
set_option maxHeartbeats 16000000 in
theorem do_burst (o : OpB) (h : Pair w fb v d bs bs W) (hk : o.kind % 6 = 4) :
    Calls Try.prog 25 #[.pointer (some ⟨fb, 0, none⟩), d, .agg (opbL o).toArray] W (DoB w fb v bs o W) := by
  have hD : doB bs o = turnT bs 4 o.b o.home := by unfold doB; rw [hk]; rfl
  unfold DoB
  rw [hD]
  have hal : Below W.heap.size W (W.alloc (.cells (opbL o).toArray 68)) := (Below.refl _ _).alloc (Nat.le_refl _) _
  have HP1 := Lib.hid (h.on hal)
  have HF1 : Hid (But (OwnF fb v) W (W.alloc (.cells (opbL o).toArray 68))) := But.of_below hal
  have hbx := Blk.new W 68 (opbL o).toArray
  have HBX := Lib.hid hbx
  have y0 : (W.alloc (.cells (opbL o).toArray 68)).cell? ⟨W.heap.size, 0, none⟩ = some (.int .u64 o.kind) := (hbx.cell 0).trans rfl
  have y1 : (W.alloc (.cells (opbL o).toArray 68)).cell? ⟨W.heap.size, 1, none⟩ = some (.int .i64 o.b) := (hbx.cell 1).trans rfl
  have y2 : (W.alloc (.cells (opbL o).toArray 68)).cell? ⟨W.heap.size, 2, none⟩ = some (.int .i64 o.home) := (hbx.cell 2).trans rfl
  have HC : Hid (Calls Try.prog 50 #[d, .int .i64 4, .int .i64 o.b, .int .i64 o.home] (W.alloc (.cells (opbL o).toArray 68)) (RTurnP d bs 4 o.b o.home (W.alloc (.cells (opbL o).toArray 68)))) := rturn_any 4 (by omega) o.b o.home HP1.out.doc
  have hm : (o.kind : Int) % 6 = 4 := by omega
  have hxw : W.heap.size < (W.alloc (.cells (opbL o).toArray 68)).heap.size := by simp
  have HXW := Lib.hid hxw
  obtain ⟨kd, b, home, m⟩ := o
  dsimp only at hm y0 y1 y2 HC hD hk ⊢
  obtain ⟨O, hO⟩ : ∃ O, opbL ⟨kd, b, home, m⟩ = O := ⟨_, rfl⟩
  have HO := Lib.hid hO
  rw [hO] at HP1 HBX HXW HF1 ⊢
  simp only [hO] at HC y0 y1 y2
  clear hO h hbx hal hk hD hxw
  go_enter Try.func25, Try.ntmps25
  go_wp2_with fail
  refine HC.out.mono ?_
  rintro e w2 ⟨d2, u2, rfl, h2, m2, b2, f2⟩
  dsimp only
  have HP2 := Lib.hid (HP1.out.docs h2 b2 f2)
  have HF2 : Hid (But (OwnF fb v) W w2) := HF1.out.trans (But.of_below b2)
  have hb2 := Blk.below HBX.out b2 HXW.out
  rw [← HO.out] at hb2
  have z1 : w2.cell? ⟨W.heap.size, 1, none⟩ = some (.int .i64 b) := (hb2.cell 1).trans rfl
  have z2 : w2.cell? ⟨W.heap.size, 2, none⟩ = some (.int .i64 home) := (hb2.cell 2).trans rfl
  have HC2 := Lib.hid (fburst_any b HP2.out.own.tab)
  have hE : turnE bs 4 b = burstE bs b := rfl
  rw [hE]
  rw [turnL_4] at m2
  have HM2 := Lib.hid m2
  have hlt1 : ∀ k, OwnF fb v k → k < (W.alloc (.cells O.toArray 68)).heap.size := fun k q => HP1.out.own.tab.lt q
  have HLT1 := Lib.hid hlt1
  have hll : (burstL bs b).length ≤ 1000 := by
    have := h2.inv.len
    have hb32 := HP1.out.doc.inv.len
    unfold burstL
    split
    · simp only [List.length_cons]; have := selI_len (ownAsk bs b) bs.length; unfold burstO; omega
    · simp
  have HLL := Lib.hid hll
  clear h2 m2 b2 f2 HC y0 y1 y2 HP1 hb2 hE hlt1 hll
  go_wp2_with fail
  refine HC2.out.mono ?_
  rintro e w3 ⟨u3, rfl, m3, h3, b3⟩
  dsimp only
  have HP3 : Hid (Pair w fb v d2 (turnT bs 4 b home) (turnT bs 4 b home) w3) := HP2.out.codes h3 b3
  have HF3 : Hid (But (OwnF fb v) W w3) := HF2.out.trans b3
  have m2' := mine_but HM2.out b3 (fun g hg q => by have := HLT1.out g q; omega)
  obtain ⟨A2, c2, rfl, n2⟩ := m2'.nums
  obtain ⟨A3, c3, rfl, n3⟩ := m3.nums
  have HS := Lib.hid (same04_yes A3 A2 (burstL bs b) c3 c2 w3 (by have := HLL.out; omega) n3 n2)
  clear h3 b3 HC2 z1 z2 HP2 m2' m3 n2 n3 HM2 HLT1 HLL
  generalize burstE bs b = ee at *
  have q1 : (ee == ee) = true := by simp
  go_wp2_with fail
  refine HS.out.mono ?_
  rintro e w4 ⟨rfl, b4⟩
  dsimp only
  have HP4 := Lib.hid (HP3.out.on b4)
  have HF4 : Hid (But (OwnF fb v) W w4) := HF3.out.trans (But.of_below b4)
  clear b4 HS HP3
  go_wp2_with fail
  go_ret2
  exact ⟨v, d2, rfl, HP4.out, HF4.out⟩
set_option maxHeartbeats 16000000 in
theorem do_regen (o : OpB) (h : Pair w fb v d bs bs W) (hk : o.kind % 6 = 5) :
    Calls Try.prog 25 #[.pointer (some ⟨fb, 0, none⟩), d, .agg (opbL o).toArray] W (DoB w fb v bs o W) := by
  have hD : doB bs o = turnT bs 5 o.b o.home := by unfold doB; rw [hk]; rfl
  unfold DoB
  rw [hD]
  have hal : Below W.heap.size W (W.alloc (.cells (opbL o).toArray 68)) := (Below.refl _ _).alloc (Nat.le_refl _) _
  have HP1 := Lib.hid (h.on hal)
  have HF1 : Hid (But (OwnF fb v) W (W.alloc (.cells (opbL o).toArray 68))) := But.of_below hal
  have hbx := Blk.new W 68 (opbL o).toArray
  have HBX := Lib.hid hbx
  have y0 : (W.alloc (.cells (opbL o).toArray 68)).cell? ⟨W.heap.size, 0, none⟩ = some (.int .u64 o.kind) := (hbx.cell 0).trans rfl
  have y1 : (W.alloc (.cells (opbL o).toArray 68)).cell? ⟨W.heap.size, 1, none⟩ = some (.int .i64 o.b) := (hbx.cell 1).trans rfl
  have y2 : (W.alloc (.cells (opbL o).toArray 68)).cell? ⟨W.heap.size, 2, none⟩ = some (.int .i64 o.home) := (hbx.cell 2).trans rfl
  have HC : Hid (Calls Try.prog 50 #[d, .int .i64 5, .int .i64 o.b, .int .i64 o.home] (W.alloc (.cells (opbL o).toArray 68)) (RTurnP d bs 5 o.b o.home (W.alloc (.cells (opbL o).toArray 68)))) := rturn_any 5 (by omega) o.b o.home HP1.out.doc
  have hm : (o.kind : Int) % 6 = 5 := by omega
  have hxw : W.heap.size < (W.alloc (.cells (opbL o).toArray 68)).heap.size := by simp
  have HXW := Lib.hid hxw
  obtain ⟨kd, b, home, m⟩ := o
  dsimp only at hm y0 y1 y2 HC hD hk ⊢
  obtain ⟨O, hO⟩ : ∃ O, opbL ⟨kd, b, home, m⟩ = O := ⟨_, rfl⟩
  have HO := Lib.hid hO
  rw [hO] at HP1 HBX HXW HF1 ⊢
  simp only [hO] at HC y0 y1 y2
  clear hO h hbx hal hk hD hxw
  go_enter Try.func25, Try.ntmps25
  go_wp2_with fail
  refine HC.out.mono ?_
  rintro e w2 ⟨d2, u2, rfl, h2, m2, b2, f2⟩
  dsimp only
  have HP2 := Lib.hid (HP1.out.docs h2 b2 f2)
  have HF2 : Hid (But (OwnF fb v) W w2) := HF1.out.trans (But.of_below b2)
  have hb2 := Blk.below HBX.out b2 HXW.out
  rw [← HO.out] at hb2
  have z1 : w2.cell? ⟨W.heap.size, 1, none⟩ = some (.int .i64 b) := (hb2.cell 1).trans rfl
  have z2 : w2.cell? ⟨W.heap.size, 2, none⟩ = some (.int .i64 home) := (hb2.cell 2).trans rfl
  have HC2 := Lib.hid (fregen_any b home HP2.out.own.tab)
  have hE : turnE bs 5 b = regenE bs b := rfl
  rw [hE]
  rw [turnL_5] at m2
  have HM2 := Lib.hid m2
  have hlt1 : ∀ k, OwnF fb v k → k < (W.alloc (.cells O.toArray 68)).heap.size := fun k q => HP1.out.own.tab.lt q
  have HLT1 := Lib.hid hlt1
  have hll : (regenL bs b).length ≤ 1000 := by
    have := h2.inv.len
    have hb32 := HP1.out.doc.inv.len
    unfold regenL
    split
    · have := selI_len (inAsk bs b) bs.length; unfold regenO; omega
    · simp
  have HLL := Lib.hid hll
  clear h2 m2 b2 f2 HC y0 y1 y2 HP1 hb2 hE hlt1 hll
  go_wp2_with fail
  refine HC2.out.mono ?_
  rintro e w3 ⟨u3, rfl, m3, h3, b3⟩
  dsimp only
  have HP3 : Hid (Pair w fb v d2 (turnT bs 5 b home) (turnT bs 5 b home) w3) := HP2.out.codes h3 b3
  have HF3 : Hid (But (OwnF fb v) W w3) := HF2.out.trans b3
  have m2' := mine_but HM2.out b3 (fun g hg q => by have := HLT1.out g q; omega)
  obtain ⟨A2, c2, rfl, n2⟩ := m2'.nums
  obtain ⟨A3, c3, rfl, n3⟩ := m3.nums
  have HS := Lib.hid (same04_yes A3 A2 (regenL bs b) c3 c2 w3 (by have := HLL.out; omega) n3 n2)
  clear h3 b3 HC2 z1 z2 HP2 m2' m3 n2 n3 HM2 HLT1 HLL
  generalize regenE bs b = ee at *
  have q1 : (ee == ee) = true := by simp
  go_wp2_with fail
  refine HS.out.mono ?_
  rintro e w4 ⟨rfl, b4⟩
  dsimp only
  have HP4 := Lib.hid (HP3.out.on b4)
  have HF4 : Hid (But (OwnF fb v) W w4) := HF3.out.trans (But.of_below b4)
  clear b4 HS HP3
  go_wp2_with fail
  go_ret2
  exact ⟨v, d2, rfl, HP4.out, HF4.out⟩
theorem do13_any (o : OpB) (h : Pair w fb v d bs bs W) : Calls Try.prog 25 #[.pointer (some ⟨fb, 0, none⟩), d, .agg (opbL o).toArray] W (DoB w fb v bs o W) := by
  rcases (by omega : o.kind % 6 < 2 ∨ o.kind % 6 = 2 ∨ o.kind % 6 = 3 ∨ o.kind % 6 = 4 ∨ o.kind % 6 = 5) with hk | hk | hk | hk | hk
  · exact do_make o h hk
  · exact do_seal o h hk
  · exact do_place o h hk
  · exact do_burst o h hk
  · exact do_regen o h hk
end
end Go.Proofs.Ytekahmfchpgmfaa
