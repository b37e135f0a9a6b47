/- layer 35 (census): CensusRises' walk: printed by wip/tools/gen_xcm.py. -/
import Derived.Test.YtnbiklkgkidlnaaCl
import Derived.Deep.RegionHeld
namespace Go.Proofs.Ytnbiklkgkidlnaa
open Go.RowKit Go.Shelf Go.Maps
set_option maxRecDepth 100000

def BoxU (g : Nat) (a b : Int) (W : World) : Prop := W.cell? ⟨g, 0, none⟩ = some (.int .u64 a) ∧ W.cell? ⟨g, 1, none⟩ = some (.int .u64 b)
theorem BoxU.on {g : Nat} {a b : Int} {w w' : World} (h : BoxU g a b w) (hb : Below w.heap.size w w') (hg : g < w.heap.size) : BoxU g a b w' :=
  ⟨(hb.cell (p := ⟨g, 0, none⟩) hg).trans h.1, (hb.cell (p := ⟨g, 1, none⟩) hg).trans h.2⟩
set_option maxHeartbeats 16000000 in
theorem censusRises_any (A A2 : Option Addr) (l0 bs0 : List Int) (n cap m cap2 : Nat) (a b : Int) (hn : l0.length = n) (hm : bs0.length = m) (hc : n ≤ cap) (hc2 : m ≤ cap2) (w : World) (hR : RowN w.heap.size w A l0) (hN : RowN w.heap.size w A2 bs0) :
    Calls Try.prog 5 #[.slice A n cap, .slice A2 m cap2, .agg #[.int .u64 a, .int .u64 b]] w fun e w' => e = .returned (.bool true) ∧ Below w.heap.size w w' := by
  obtain ⟨n', hn'⟩ : ∃ n', n' = min n 60 := ⟨_, rfl⟩
  obtain ⟨m', hm'⟩ : ∃ m', m' = min m 20 := ⟨_, rfl⟩
  have HL : Hid ((l0.take n').length = n') := by show _ = _; rw [List.length_take]; omega
  have HM : Hid ((bs0.take m').length = m') := by show _ = _; rw [List.length_take]; omega
  have HR := Lib.hid (hR.take n'); have HN := Lib.hid (hN.take m')
  have hn60 : n' ≤ 60 := by omega
  have hm20 : m' ≤ 20 := by omega
  have e1 : min (n : Int) 60 = (n' : Int) := by omega
  have e2 : min (m : Int) 20 = (m' : Int) := by omega
  have d1 : (n' : Int) ≤ (cap : Int) := by omega
  have d2 : (m' : Int) ≤ (cap2 : Int) := by omega
  have d3 : n' ≤ cap := by omega
  have d4 : m' ≤ cap2 := by omega
  have d5 : (0 : Int) ≤ (n' : Int) := by omega
  have d6 : (0 : Int) ≤ (m' : Int) := by omega
  have HX0 : Hid (Below w.heap.size w (w.alloc (.cells #[.int .u64 a, .int .u64 b] 44)).drew) := ((Below.refl _ w).alloc (Nat.le_refl _) _).drew
  have hbk : Blk (w.alloc (.cells #[.int .u64 a, .int .u64 b] 44)).drew w.heap.size 44 #[.int .u64 a, .int .u64 b] := Blk.new w _ _
  have HS0 : Hid (BoxU w.heap.size a b (w.alloc (.cells #[.int .u64 a, .int .u64 b] 44)).drew) := ⟨hbk.cell 0, hbk.cell 1⟩
  have HLT : Hid (w.heap.size < (w.alloc (.cells #[.int .u64 a, .int .u64 b] 44)).drew.heap.size) := hbk.lt
  clear hbk hn hm hR hN hn' hm' hc hc2
  generalize l0.take n' = l at *
  generalize bs0.take m' = bs at *
  go_enter Try.func5, Try.ntmps5
  go_upto_region 1 with fail
  refine wp_region_held_drew (S := BoxU w.heap.size a b) (by kernel_rfl) HS0.out (fun _ => ?_)
  show wpAnyH _ _ _ _ _ _ _ _ _
  refine wpAnyH_ready (rs := [0]) (by kernel_rfl) (by simp) (AllReadyH.cons rfl (fun K hK => ?_) AllReadyH.nil)
  go_simp
  refine (lives35_any _).mono ?_
  rintro e w1 ⟨rfl, hb1⟩
  have HB1 : Hid (Below w.heap.size w w1) := HX0.out.trans (hb1.mono HX0.out.size)
  have HS : Hid (BoxU w.heap.size a b w1) := HS0.out.on hb1 HLT.out
  have HRI := Lib.hid (fun p q => rises_any A A2 l bs n' cap m' cap2 p q HL.out HM.out (by omega) (by omega) w1 ((HR.out.below HB1.out).mono HB1.out.size) ((HN.out.below HB1.out).mono HB1.out.size))
  have HL1 : Hid (w.heap.size < w1.heap.size) := Nat.lt_of_lt_of_le HLT.out hb1.size
  clear hb1
  refine hK.out _ _ HS.out (fun _ => ?_)
  clear hK K
  refine wpAnyH_take (i := 1) (v := ?_) rfl (by kernel_rfl) (by kernel_rfl) (by kernel_rfl) (fun _ _ _ h => h) (Or.inl ⟨by rfl, fun W hW => by (obtain ⟨z0, z1⟩ := hW; go_simp <;> with_reducible rfl)⟩) HS.out ?_
  go_simp
  refine wpAnyH_take (i := 2) (v := ?_) rfl (by kernel_rfl) (by kernel_rfl) (by kernel_rfl) (fun _ _ _ h => h) (Or.inl ⟨by rfl, fun W hW => by (obtain ⟨z0, z1⟩ := hW; go_simp <;> with_reducible rfl)⟩) HS.out ?_
  go_simp
  refine wpAnyH_take (i := 3) (v := ?_) rfl (by kernel_rfl) (by kernel_rfl) (by kernel_rfl) (fun _ _ _ h => h) (Or.inl ⟨by rfl, fun W hW => by (obtain ⟨z0, z1⟩ := hW; go_simp <;> with_reducible rfl)⟩) HS.out ?_
  go_simp
  refine wpAnyH_take (i := 4) (v := ?_) rfl (by kernel_rfl) (by kernel_rfl) (by kernel_rfl) (fun _ _ _ h => h) (Or.inl ⟨by rfl, fun W hW => by (obtain ⟨z0, z1⟩ := hW; go_simp <;> with_reducible rfl)⟩) HS.out ?_
  go_simp
  refine wpAnyH_take (i := 5) (v := ?_) rfl (by kernel_rfl) (by kernel_rfl) (by kernel_rfl) (fun _ _ _ h => h) (Or.inl ⟨by rfl, fun W hW => by (obtain ⟨z0, z1⟩ := hW; go_simp <;> with_reducible rfl)⟩) HS.out ?_
  go_simp
  refine wpAnyH_take (i := 6) (v := ?_) rfl (by kernel_rfl) (by kernel_rfl) (by kernel_rfl) (fun _ _ _ h => h) (Or.inl ⟨by rfl, fun W hW => by (obtain ⟨z0, z1⟩ := hW; go_simp <;> with_reducible rfl)⟩) HS.out ?_
  go_simp
  refine wpAnyH_take (i := 7) (v := ?_) rfl (by kernel_rfl) (by kernel_rfl) (by kernel_rfl) (fun _ _ _ h => h) (Or.inl ⟨by rfl, fun W hW => by (obtain ⟨z0, z1⟩ := hW; go_simp <;> with_reducible rfl)⟩) HS.out ?_
  go_simp
  refine wpAnyH_take (i := 8) (v := ?_) rfl (by kernel_rfl) (by kernel_rfl) (by kernel_rfl) (fun _ _ _ h => h) (Or.inl ⟨by rfl, fun W hW => by (obtain ⟨z0, z1⟩ := hW; go_simp <;> with_reducible rfl)⟩) HS.out ?_
  go_simp
  refine wpAnyH_take (i := 9) (v := ?_) rfl (by kernel_rfl) (by kernel_rfl) (by kernel_rfl) (fun _ _ _ h => h) (Or.inl ⟨by rfl, fun W hW => by (obtain ⟨z0, z1⟩ := hW; go_simp <;> with_reducible rfl)⟩) HS.out ?_
  go_simp
  refine wpAnyH_take (i := 10) (v := ?_) rfl (by kernel_rfl) (by kernel_rfl) (by kernel_rfl) (fun _ _ _ h => h) (Or.inl ⟨by rfl, fun W hW => by (obtain ⟨z0, z1⟩ := hW; go_simp <;> with_reducible rfl)⟩) HS.out ?_
  go_simp
  refine wpAnyH_take (i := 11) (v := ?_) rfl (by kernel_rfl) (by kernel_rfl) (by kernel_rfl) (fun _ _ _ h => h) (Or.inl ⟨by rfl, fun W hW => by (obtain ⟨z0, z1⟩ := hW; go_simp <;> with_reducible rfl)⟩) HS.out ?_
  go_simp
  refine wpAnyH_take (i := 12) (v := ?_) rfl (by kernel_rfl) (by kernel_rfl) (by kernel_rfl) (fun _ _ _ h => h) (Or.inl ⟨by rfl, fun W hW => by (obtain ⟨z0, z1⟩ := hW; go_simp <;> with_reducible rfl)⟩) HS.out ?_
  go_simp
  refine wpAnyH_take (i := 13) (v := ?_) rfl (by kernel_rfl) (by kernel_rfl) (by kernel_rfl) (fun _ _ _ h => h) (Or.inl ⟨by rfl, fun W hW => by (obtain ⟨z0, z1⟩ := hW; go_simp <;> with_reducible rfl)⟩) HS.out ?_
  go_simp
  refine wpAnyH_take (i := 14) (v := ?_) rfl (by kernel_rfl) (by kernel_rfl) (by kernel_rfl) (fun _ _ _ h => h) (Or.inl ⟨by rfl, fun W hW => by (obtain ⟨z0, z1⟩ := hW; go_simp <;> with_reducible rfl)⟩) HS.out ?_
  go_simp
  refine wpAnyH_take (i := 15) (v := ?_) rfl (by kernel_rfl) (by kernel_rfl) (by kernel_rfl) (fun _ _ _ h => h) (Or.inl ⟨by rfl, fun W hW => by (obtain ⟨z0, z1⟩ := hW; go_simp <;> with_reducible rfl)⟩) HS.out ?_
  go_simp
  refine wpAnyH_take (i := 16) (v := ?_) rfl (by kernel_rfl) (by kernel_rfl) (by kernel_rfl) (fun _ _ _ h => h) (Or.inl ⟨by rfl, fun W hW => by (obtain ⟨z0, z1⟩ := hW; go_simp <;> with_reducible rfl)⟩) HS.out ?_
  go_simp
  refine wpAnyH_take (i := 17) (v := ?_) rfl (by kernel_rfl) (by kernel_rfl) (by kernel_rfl) (fun _ _ _ h => h) (Or.inl ⟨by rfl, fun W hW => by (obtain ⟨z0, z1⟩ := hW; go_simp <;> with_reducible rfl)⟩) HS.out ?_
  go_simp
  refine wpAnyH_take (i := 18) (v := ?_) rfl (by kernel_rfl) (by kernel_rfl) (by kernel_rfl) (fun _ _ _ h => h) (Or.inl ⟨by rfl, fun W hW => by (obtain ⟨z0, z1⟩ := hW; go_simp <;> with_reducible rfl)⟩) HS.out ?_
  go_simp
  refine wpAnyH_take (i := 19) (v := ?_) rfl (by kernel_rfl) (by kernel_rfl) (by kernel_rfl) (fun _ _ _ h => h) (Or.inl ⟨by rfl, fun W hW => by (obtain ⟨z0, z1⟩ := hW; go_simp <;> with_reducible rfl)⟩) HS.out ?_
  go_simp
  refine wpAnyH_ready (rs := [20]) (by kernel_rfl) (by simp) (AllReadyH.cons rfl (fun K hK => ?_) AllReadyH.nil)
  go_simp
  refine (HRI.out _ _).mono ?_
  rintro e w2 ⟨rfl, hb2⟩
  have HB2 : Hid (Below w.heap.size w w2) := HB1.out.trans (hb2.mono HB1.out.size)
  have HS2 : Hid (BoxU w.heap.size a b w2) := HS.out.on hb2 HL1.out
  clear HS hb2
  have HS := HS2
  refine hK.out _ _ HS.out (fun _ => ?_)
  clear hK K HS2
  refine wpAnyH_take (i := 21) (v := ?_) rfl (by kernel_rfl) (by kernel_rfl) (by kernel_rfl) (fun _ _ _ h => h) (Or.inl ⟨by rfl, fun W hW => by (obtain ⟨z0, z1⟩ := hW; go_simp <;> with_reducible rfl)⟩) HS.out ?_
  go_simp
  refine wpAnyH_take (i := 22) (v := ?_) rfl (by kernel_rfl) (by kernel_rfl) (by kernel_rfl) (fun _ _ _ h => h) (Or.inl ⟨by rfl, fun W hW => by (obtain ⟨z0, z1⟩ := hW; go_simp <;> with_reducible rfl)⟩) HS.out ?_
  go_simp
  refine wpAnyH_done (by kernel_rfl) ?_ _
  go_wp2_with fail
  go_ret
  exact ⟨rfl, HB2.out⟩
end Go.Proofs.Ytnbiklkgkidlnaa
