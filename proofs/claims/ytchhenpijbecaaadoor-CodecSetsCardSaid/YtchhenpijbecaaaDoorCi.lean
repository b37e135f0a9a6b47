/- layer 31 (codec): PutSet; the document's examples. -/
import Derived.Test.YtchhenpijbecaaaDoorCh
import Derived.Test.YtchhenpijbecaaaDoorCf
import Derived.RegionCalls
import Derived.Deep.RegionHeld3
namespace Go.Proofs.YtchhenpijbecaaaDoor
open Go.RowKit
set_option maxRecDepth 100000

theorem step_ld_set {ops : Array Oper} {o : Oper} {a : Act} {w : World} {K : Act → World → Prop} {Q : Exit → Act → World → Prop} {E : Prop} (hg : o.guard = none) (x : Operand) (ho : o.op = .load 33 x)
    (g : Nat) (hx : a.eval x = .pointer (some ⟨g, 0, none⟩)) (p : Nat → Bool) (hh : w.heap[g]? = some (.cells (cellsOf p) 33 (0, 0))) (hK : K (a.put o.dst (.agg (cellsOf p))) w) : if Region.wanted o (yielded ops a.tmps) = true then Oper.wp Tryd.prog o a w K Q else E := by
  rw [if_pos (by simp [Region.wanted, hg])]
  exact wp_load_row 33 x ho g hx 33 _ (0, 0) _ hh underSet rfl (by rw [infoSet, cellsOf_size]) hK
theorem yieldsIf_load_set {ops : Array Oper} {S : World → Prop} {o : Oper} {a : Act} (hw : Region.wanted o (yielded ops a.tmps) = true) (x : Operand) (ho : o.op = .load 33 x) (g : Nat) (p : Nat → Bool)
    (hx : a.eval x = .pointer (some ⟨g, 0, none⟩)) (hS : ∀ w, S w → w.heap[g]? = some (.cells (cellsOf p) 33 (0, 0))) : YieldsIf Tryd.prog ops S o (.agg (cellsOf p)) a :=
  .inl ⟨hw, fun w h => by
    unfold execOp
    simp only [ho, hx, Instr.loadAt, Instr.sureAddr, Sem.run_bind, Sem.run_pure, Result.andThen_ok, run_loadVar_row w g 33 33 _ (0, 0) _ (hS w h) underSet rfl (by rw [infoSet, cellsOf_size])]⟩
theorem endO_lt (p : Nat → Bool) (f : Nat) : ∀ i, i < 1024 → i ≤ endO p f i ∧ endO p f i < 1024 := by
  induction f with
  | zero => intro i hi; exact ⟨Nat.le_refl _, hi⟩
  | succ f ih =>
    intro i hi
    rw [endO]
    split
    · rename_i h; have := ih (i + 1) h.1; omega
    · omega
theorem rowsF_in (p : Nat → Bool) (f : Nat) : ∀ (o : Option Nat) (m : Nat), (∀ i, o = some i → i < 1024) → m ≤ 1026 → ∀ x ∈ rowsF p f o m, -2000 ≤ x ∧ x ≤ 2000 := by
  induction f with
  | zero => intro o m _ _ x hx; cases hx
  | succ f ih =>
    intro o m ho hm x hx
    cases o with
    | none => cases hx
    | some i =>
      have hi := ho i rfl
      have he := endO_lt p 1024 i hi
      rw [rowsF] at hx
      unfold endOf at hx
      rcases List.mem_cons.1 hx with rfl | hx
      · omega
      · rcases List.mem_cons.1 hx with rfl | hx
        · omega
        · exact ih _ _ (fun j hj => (firstO_spec hj).1) (by omega) x hx
theorem rowsOf_in (p : Nat → Bool) (hl : (rowsOf p).length ≤ 2000) : ∀ x ∈ rowsOf p, B64 x := by
  intro x hx
  unfold B64
  unfold rowsOf at hx hl
  rcases List.mem_cons.1 hx with rfl | hx
  · simp at hl; omega
  · have := rowsF_in p 1025 (firstO p) 0 (fun i hi => (firstO_spec hi).1) (by omega) x hx
    omega
theorem nums_of_own {B g n cap : Nat} {w : World} {l : List Int} (h : OwI B w (.slice (some ⟨g, 0, none⟩) n cap) l) : NumsB w g l := by
  rcases h.2 with ⟨e, _⟩ | ⟨g', cap', cur, e, hg, hh, hc⟩
  · cases e
  · injection e with e1 e2 e3
    injection e1 with e1; injection e1 with e1
    subst e1
    refine ⟨cur, hh, fun i hi => ?_⟩
    have := h.cells (g := g) rfl i (.int .i64 l[i]) (by simp [hi])
    have hadd : (⟨g, 0, none⟩ : Addr).add i = ⟨g, i, none⟩ := by unfold Addr.add; split <;> simp_all
    rw [hadd, cell_of_row _ _ _ _ _ _ hh] at this
    exact this
set_option maxHeartbeats 8000000 in
theorem putSet_any (A : Option Addr) (l : List UInt8) (n cap : Nat) (hn : l.length = n) (hc : n ≤ cap) (hl : n ≤ 900000) (p : Nat → Bool) (w : World) (hT : Tabs w) (hA : BysIn w.heap.size w A l) :
    Calls Tryd.prog 12 #[.slice A n cap, .agg (cellsOf p)] w fun e w' => ∃ v, e = .returned v ∧ OwB w.heap.size w' v (l ++ intsB (rowsOf p)) ∧ Below w.heap.size w w' := by
  have hb : Below w.heap.size w (w.alloc (.cells (cellsOf p) 33)) := (Below.refl _ _).alloc (Nat.le_refl _) _
  have HB := Lib.hid hb
  have HT := Lib.hid (hT.on hb); have HA := Lib.hid (hA.below hb)
  have hg : (w.alloc (.cells (cellsOf p) 33)).heap[w.heap.size]? = some (.cells (cellsOf p) 33 (0, 0)) := heap_alloc_new _ _
  have HG := Lib.hid hg
  have HN := Lib.hid hn
  have HCL := Lib.hid (clip_any A n cap hc)
  clear hb hA hT hg hn
  go_enter Tryd.func12, Tryd.ntmps12
  go_upto_region 1 with fail
  have HLW : w.heap.size < (w.alloc (.cells (cellsOf p) 33)).heap.size := by simp
  generalize w.alloc (.cells (cellsOf p) 33) = W at *
  have HLT := Lib.hid (show w.heap.size < W.heap.size from HLW)
  have HS := Lib.hid ((Below.refl W.heap.size W).drew)
  refine wp_region_held_drew (S := fun X => Below W.heap.size W X) (by kernel_rfl) HS.out (fun _ => ?_)
  show wpAnyH _ _ _ _ _ _ _ _ _
  refine wpAnyH_take (i := 0) (v := ?_) rfl (by kernel_rfl) (by kernel_rfl) (by kernel_rfl) (fun _ _ _ h => h) (Or.inl ⟨by rfl, fun W hW => by go_simp <;> with_reducible rfl⟩) HS.out ?_
  go_simp
  refine wpAnyH_take (i := 2) (v := _) rfl (by kernel_rfl) (by kernel_rfl) (by kernel_rfl) (fun _ _ _ h => h) (yieldsIf_load_set (by rfl) _ rfl w.heap.size p rfl (fun X h => (h.block _ HLT.out).trans HG.out)) HS.out ?_
  go_simp
  refine wpAnyH_ready (rs := [1]) (by kernel_rfl) (by simp) (AllReadyH.cons rfl (fun K hK => ?_) AllReadyH.nil)
  go_simp
  refine (HCL.out _).mono ?_
  rintro e w' ⟨rfl, rfl⟩
  dsimp only
  refine hK.out _ _ HS.out (fun _ => ?_)
  clear hK K
  refine wpAnyH_ready (rs := [3]) (by kernel_rfl) (by simp) (AllReadyH.cons rfl (fun K hK => ?_) AllReadyH.nil)
  go_simp
  refine (rows_any p _ (HT.out.on HS.out)).mono ?_
  rintro e w2 ⟨g2, cap2, rfl, h2, hb2, hl2⟩
  dsimp only
  have H2 := Lib.hid h2; have HB2 := Lib.hid (HS.out.trans (hb2.mono HS.out.size)); have HL2 := Lib.hid hl2
  clear h2 hb2 hl2 HS
  have HS := HB2
  refine hK.out _ _ HS.out (fun _ => ?_)
  clear hK K
  refine wpAnyH_ready (rs := [4]) (by kernel_rfl) (by simp) (AllReadyH.cons rfl (fun K hK => ?_) AllReadyH.nil)
  go_simp
  refine (add_any w2.heap.size g2 cap2 (.slice A n n) l (rowsOf p) w2 (.inr ⟨A, by rw [HN.out], (HA.out.below (HB2.out.mono HB.out.size)).mono (Nat.le_trans HB.out.size HB2.out.size)⟩) (nums_of_own H2.out) (rowsOf_in p HL2.out) (by have := HL2.out; have := HN.out; omega) (Nat.le_refl _)).mono ?_
  rintro e w3 ⟨v3, rfl, -, hb3, ho3⟩
  dsimp only
  have H3 := Lib.hid (ho3 (by unfold rowsOf; simp)); have HB3 := Lib.hid hb3
  clear ho3 hb3 HS
  have HS := Lib.hid (HB2.out.trans (HB3.out.mono HB2.out.size))
  refine hK.out _ _ HS.out (fun _ => ?_)
  clear hK K
  refine wpAnyH_take (i := 5) (v := ?_) rfl (by kernel_rfl) (by kernel_rfl) (by kernel_rfl) (fun _ _ _ h => h) (Or.inl ⟨by rfl, fun W hW => by go_simp <;> with_reducible rfl⟩) HS.out ?_
  go_simp
  refine wpAnyH_done (by kernel_rfl) ?_ _
  go_wp2_with fail
  go_ret
  exact ⟨_, rfl, own_mono H3.out (Nat.le_trans HB.out.size HB2.out.size), HB.out.trans (HS.out.mono HB.out.size)⟩

end Go.Proofs.YtchhenpijbecaaaDoor
