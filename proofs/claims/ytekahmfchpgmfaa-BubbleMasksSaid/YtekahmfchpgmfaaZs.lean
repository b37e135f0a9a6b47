/- Inside; what Regen asks of each (layer 13). -/
import Derived.Test.YtekahmfchpgmfaaZl
namespace Go.Proofs.Ytekahmfchpgmfaa
open Go.RowKit
set_option maxRecDepth 100000

section
variable {fb : Nat} {v : Value} {bs : List Bub} {w w' : World}
abbrev inFn (p q : Nat) : Value := .func (.func 86) #[] #[.pointer (some ⟨p, 0, none⟩), .pointer (some ⟨q, 0, none⟩)]
set_option maxHeartbeats 4000000 in
theorem inside1_any (i b : Int) (h : ForC fb v bs w) {p q : Nat} (hp : w.cell? ⟨p, 0, none⟩ = some (.pointer (some ⟨fb, 0, none⟩))) (hq : w.cell? ⟨q, 0, none⟩ = some (.int .i64 b)) (hpw : p < w.heap.size) (hqw : q < w.heap.size) :
    Calls Try.prog 86 #[.int .i64 i, .pointer (some ⟨p, 0, none⟩), .pointer (some ⟨q, 0, none⟩)] w fun e w' => e = .returned (.bool (insideP bs i b)) ∧ Below w.heap.size w w' := by
  have HA := Lib.hid (around_any i (h.below (Below.refl _ _).drew))
  have HS0 : Hid (w.drew.cell? ⟨p, 0, none⟩ = some (.pointer (some ⟨fb, 0, none⟩)) ∧ w.drew.cell? ⟨q, 0, none⟩ = some (.int .i64 b)) := Lib.hid ⟨hp, hq⟩
  have HWL := Lib.hid (way_len32 h.inv i)
  unfold insideP
  clear h
  generalize way bs i = Y at *
  go_enter Try.func86, Try.ntmps86
  go_upto_region 1 with fail
  refine wp_region_held_drew (S := fun X => X.cell? ⟨p, 0, none⟩ = some (.pointer (some ⟨fb, 0, none⟩)) ∧ X.cell? ⟨q, 0, none⟩ = some (.int .i64 b)) (by kernel_rfl) HS0.out (fun hHeld => ?_)
  show wpAnyH _ _ _ _ _ _ _ _ _
  try dsimp only at hHeld
  refine wpAnyH_take (i := 0) (v := ?_) rfl (by kernel_rfl) (by kernel_rfl) (by kernel_rfl) (fun _ _ _ h => h) (Or.inl ⟨by rfl, fun W hW => by (obtain ⟨z0, z1⟩ := hW; go_simp <;> with_reducible rfl)⟩) hHeld ?_
  go_simp
  refine wpAnyH_take (i := 1) (v := ?_) rfl (by kernel_rfl) (by kernel_rfl) (by kernel_rfl) (fun _ _ _ h => h) (Or.inl ⟨by rfl, fun W hW => by (obtain ⟨z0, z1⟩ := hW; go_simp <;> with_reducible rfl)⟩) hHeld ?_
  go_simp
  refine wpAnyH_take (i := 3) (v := ?_) rfl (by kernel_rfl) (by kernel_rfl) (by kernel_rfl) (fun _ _ _ h => h) (Or.inl ⟨by rfl, fun W hW => by (obtain ⟨z0, z1⟩ := hW; go_simp <;> with_reducible rfl)⟩) hHeld ?_
  go_simp
  refine wpAnyH_ready (rs := [2]) (by kernel_rfl) (by simp) (AllReadyH.cons rfl (fun K hK => ?_) AllReadyH.nil)
  go_simp
  go_at_call 31
  refine HA.out.mono ?_
  rintro e w2 ⟨u, rfl, hm, h2⟩
  have hs2 : w2.cell? ⟨p, 0, none⟩ = some (.pointer (some ⟨fb, 0, none⟩)) ∧ w2.cell? ⟨q, 0, none⟩ = some (.int .i64 b) := ⟨(h2.cell (p := ⟨p, 0, none⟩) hpw).trans HS0.out.1, (h2.cell (p := ⟨q, 0, none⟩) hqw).trans HS0.out.2⟩
  have HC := Lib.hid (hm.contains_any (by have := HWL.out; omega) b)
  generalize hcc : Y.contains b = cc at HC
  have HCC := Lib.hid hcc
  clear hcc
  have HS2 := Lib.hid hs2; have HB2 : Hid (Below w.heap.size w w2) := Lib.hid ((Below.refl w.heap.size w).drew.trans h2)
  clear hm h2
  dsimp only
  (try (go_wp2_with fail))
  refine hK.out _ _ hs2 (fun hHeld => ?_)
  clear hK K hs2
  refine wpAnyH_ready (rs := [4]) (by kernel_rfl) (by simp) (AllReadyH.cons rfl (fun K hK => ?_) AllReadyH.nil)
  go_simp
  go_at_call 66
  refine HC.out.mono ?_
  rintro e w3 ⟨rfl, rfl⟩
  dsimp only
  (try (go_wp2_with fail))
  refine hK.out _ _ HS2.out (fun hHeld => ?_)
  clear hK K
  refine wpAnyH_take (i := 5) (v := ?_) rfl (by kernel_rfl) (by kernel_rfl) (by kernel_rfl) (fun _ _ _ h => h) (Or.inl ⟨by rfl, fun W hW => by (obtain ⟨z0, z1⟩ := hW; go_simp <;> with_reducible rfl)⟩) hHeld ?_
  go_simp
  refine wpAnyH_done (by kernel_rfl) ?_ _
  go_wp2_with fail
  go_ret
  exact ⟨by rw [HCC.out] <;> rfl, HB2.out⟩
set_option maxHeartbeats 4000000 in
theorem insideOf_any (b : Int) (w : World) : Calls Try.prog 73 #[.pointer (some ⟨fb, 0, none⟩), .int .i64 b] w fun e w' => e = .returned (inFn w.heap.size (w.heap.size + 1)) ∧ Below w.heap.size w w' ∧ w.heap.size + 1 < w'.heap.size ∧ w'.cell? ⟨w.heap.size, 0, none⟩ = some (.pointer (some ⟨fb, 0, none⟩)) ∧ w'.cell? ⟨w.heap.size + 1, 0, none⟩ = some (.int .i64 b) := by
  have hq := (Blk.new (w.alloc (.cells #[.pointer (some ⟨fb, 0, none⟩)] 23)) 3 #[.int .i64 b]).cell 0
  have hp := ((Blk.new w 23 #[.pointer (some ⟨fb, 0, none⟩)]).alloc (.cells #[.int .i64 b] 3)).cell 0
  simp only [World.alloc, Array.size_push] at hq
  have HQ := Lib.hid hq; have HP := Lib.hid hp
  clear hq hp
  go_enter Try.func73, Try.ntmps73
  go_wp2_with fail
  go_ret
  exact ⟨rfl, ((Below.refl _ _).alloc (Nat.le_refl _) _).alloc (by simp) _, by simp, HP.out, HQ.out⟩
set_option maxHeartbeats 4000000 in
/-- The closure of Regen: does it lie in b, and is it placed or burst? -/
theorem regen1_any {i : Nat} {x : Bub} (b : Int) (hx : bs[i]? = some x) (h : ForC fb v bs w) {p q r s : Nat} (hr : w.cell? ⟨r, 0, none⟩ = some (inFn p q)) (hs : w.cell? ⟨s, 0, none⟩ = some (.pointer (some ⟨fb, 0, none⟩))) (hp : w.cell? ⟨p, 0, none⟩ = some (.pointer (some ⟨fb, 0, none⟩))) (hq : w.cell? ⟨q, 0, none⟩ = some (.int .i64 b)) (hpw : p < w.heap.size) (hqw : q < w.heap.size) (hsw : s < w.heap.size) :
    Calls Try.prog 74 #[.int .i64 i, .pointer (some ⟨r, 0, none⟩), .pointer (some ⟨s, 0, none⟩)] w fun e w' => e = .returned (.bool (insideP bs i b && (x.state == 3 || x.state == 4))) ∧ Below w.heap.size w w' := by
  have HI := Lib.hid (inside1_any (i : Int) b h hp hq hpw hqw)
  have HF := Lib.hid h; have HX := Lib.hid hx; have HSS := Lib.hid hs
  have hz : ([3, 4] : List Int).contains x.state = (x.state == 3 || x.state == 4) := by simp; rfl
  have HZ := Lib.hid hz
  clear hz h hx hp hq hs
  generalize insideP bs i b = a at *
  go_enter Try.func74, Try.ntmps74
  go_wp2_with fail
  refine HI.out.mono ?_
  rintro e w2 ⟨rfl, h2⟩
  dsimp only
  have hs2 := (h2.cell (p := ⟨s, 0, none⟩) hsw).trans HSS.out
  have hal : Below w2.heap.size w2 (w2.alloc (.cells #[.int .i64 3, .int .i64 4] 3)) := (Below.refl _ _).alloc (Nat.le_refl _) _
  have HIS := Lib.hid (fis_any HX.out ((HF.out.below h2).below hal) w2.heap.size 2 2 [3, 4] rfl (st_in2 w2 3 4) (by omega))
  rw [HZ.out] at HIS
  have H2 := Lib.hid h2
  have H3 := Lib.hid (h2.trans (hal.mono h2.size))
  clear h2 hal HI HF HX HSS HZ
  generalize hce : (x.state == 3 || x.state == 4) = c at HIS
  have HCE := Lib.hid hce
  clear hce
  cases a with
  | false =>
    go_wp2_with fail
    go_ret
    exact ⟨rfl, H2.out⟩
  | true =>
    go_wp2_with (go_at_call 53; (with_reducible refine HIS.out.mono ?_); rintro e wq ⟨rfl, rfl⟩)
    go_ret
    exact ⟨by rw [HCE.out]; simp, H3.out⟩
end
end Go.Proofs.Ytekahmfchpgmfaa
