/- layer 31 (codec): CodecSets' walk. -/
import Derived.Test.YtchhenpijbecaaaDoorEd
import Derived.Test.YtchhenpijbecaaaDoorEe
import Derived.Test.YtchhenpijbecaaaDoorCm
namespace Go.Proofs.YtchhenpijbecaaaDoor
open Go.RowKit
set_option maxRecDepth 100000

theorem eqP_self (p : Nat → Bool) : eqP p p = true := by unfold eqP; simp
theorem yieldsIf_neqS {ops : Array Oper} {S : World → Prop} {o : Oper} {a : Act} (hw : Region.wanted o (yielded ops a.tmps) = true) (x y : Operand) (ty : TypeId) (ho : o.op = .binOp .neq 33 x y ty) (p : Nat → Bool)
    (hx : a.eval x = .agg (cellsOf p)) (hy : a.eval y = .agg (cellsOf p)) : YieldsIf Tryd.prog ops S o (.bool false) a :=
  .inl ⟨hw, fun w h => by
    unfold execOp
    simp only [ho, hx, hy, Sem.run_bind, run_eqGuard_agg w .neq 33 x y _ _ noGuardSet, run_neq_struct, run_equal_set, Result.andThen_ok, eqP_self, Bool.not_true]
    rfl⟩
theorem rowsB_len (p : Nat → Bool) : (intsB (rowsOf p)).length ≤ 30000 := by
  obtain ⟨L, h1, h2, h3⟩ := rowsT_are p
  rw [rowsOf_L h2]
  have hl : L.length ≤ 1025 := by
    by_cases hh : L = []
    · subst hh; simp
    · have := okP_len L 0 h1 hh; omega
  have := intsB_len ((L.length : Int) :: flatI L) fun x hx => by
    rcases List.mem_cons.1 hx with rfl | hx
    · unfold B64; omega
    · exact flat_in h1 x hx
  rw [List.length_cons, flatI_len] at this
  omega
def LvS (w0 : World) (B : Nat) (A : Option Addr) (l : List UInt8) (L : List (Value × List UInt8)) (G : List (Nat × (Nat → Bool))) (X : World) : Prop := LvC w0 B A l L X ∧ ∀ y ∈ G, X.heap[y.1]? = some (.cells (cellsOf y.2) 33 (0, 0))
theorem LvS.step {w X X' : World} {B : Nat} {A : Option Addr} {l : List UInt8} {L : List (Value × List UInt8)} {G : List (Nat × (Nat → Bool))} (h : LvS w B A l L G X) (hb : Below X.heap.size X X') : LvS w B A l L G X' :=
  ⟨h.1.step hb, fun y hy => (hb.block y.1 (by
    have := h.2 y hy
    exact (Array.getElem?_eq_some_iff.1 this).1)).trans (h.2 y hy)⟩
theorem LvS.tail {w X : World} {B : Nat} {A : Option Addr} {l : List UInt8} {y : Value × List UInt8} {L : List (Value × List UInt8)} {G : List (Nat × (Nat → Bool))} (h : LvS w B A l (y :: L) G X) : LvS w B A l L G X := ⟨h.1.tail, h.2⟩
theorem LvS.cons {w X : World} {B : Nat} {A : Option Addr} {l : List UInt8} {v : Value} {y : List UInt8} {L : List (Value × List UInt8)} {G : List (Nat × (Nat → Bool))} (h : LvS w B A l L G X) (hn : SBy X v y) : LvS w B A l ((v, y) :: L) G X := ⟨h.1.cons hn, h.2⟩
set_option maxHeartbeats 16000000 in
theorem sets31_any (p : Nat → Bool) (A : Option Addr) (l0 : List UInt8) (n0 cap : Nat) (hn : l0.length = n0) (hc : n0 ≤ cap) (w : World) (hT : Tabs w) (hA : BysIn w.heap.size w A l0) :
    Calls Tryd.prog 4 #[.agg (cellsOf p), .slice A n0 cap] w fun e w' => e = .returned (.bool true) ∧ Below w.heap.size w w' := by
  have hz0 := cellsOf_zero.symm
  have HN0 := Lib.hid hn; have HA0 := Lib.hid hA
  have hb1 : Below w.heap.size w (w.alloc (.cells (cellsOf p) 33)) := (Below.refl _ _).alloc (Nat.le_refl _) _
  have hg1 : (w.alloc (.cells (cellsOf p) 33)).heap[w.heap.size]? = some (.cells (cellsOf p) 33 (0, 0)) := heap_alloc_new _ _
  have hs1 : (w.alloc (.cells (cellsOf p) 33)).heap.size = w.heap.size + 1 := by simp
  have HT1 := Lib.hid (hT.on hb1)
  have HB1 := Lib.hid hb1; have HG1 := Lib.hid hg1; have HS1 := Lib.hid hs1
  clear hA hn hT hb1 hg1 hs1
  go_enter Tryd.func4, Tryd.ntmps4
  go_upto_region 1 with fail
  generalize w.alloc (.cells (cellsOf p) 33) = U at *
  obtain ⟨q0, hq0⟩ : ∃ q0, w.heap.size = q0 := ⟨_, rfl⟩
  have HQ0 := Lib.hid hq0
  rw [hq0] at HG1 HS1 ⊢
  clear hq0
  go_upto_region 2 with fail
  obtain ⟨z, hz⟩ : ∃ z, (if 300 < (n0 : Int) then (300 : Int) else (n0 : Int)) = z := ⟨_, rfl⟩
  rw [hz]
  obtain ⟨n, hn⟩ : ∃ n, z.toNat = n := ⟨_, rfl⟩
  have hzn : n = min n0 300 := by rw [← hn, ← hz]; split <;> omega
  clear hz
  obtain ⟨l, hl⟩ : ∃ l, l0.take n = l := ⟨_, rfl⟩
  have hn300 : n ≤ 300 := by omega
  have hncap : n ≤ cap := by omega
  have HN : Hid (l.length = n) := by
    show _ = _
    rw [← hl, List.length_take, HN0.out]; omega
  have HA : Hid (BysIn w.heap.size w A l) := by rw [← hl]; exact HA0.out.take n
  rw [hn]
  clear hl hn hzn HA0 HN0
  obtain ⟨r, hr⟩ : ∃ r, intsB (rowsOf p) = r := ⟨_, rfl⟩
  have HR := Lib.hid hr
  have hrl := rowsB_len p
  rw [hr] at hrl
  obtain ⟨m, hm⟩ : ∃ m, r.length = m := ⟨_, rfl⟩
  rw [hm] at hrl
  have HM := Lib.hid hm
  clear hr hm
  have HLL : Hid ((l ++ r).length = n + m) := by show _ = _; rw [List.length_append, HN.out, HM.out]
  have hps := putSet_any A l n cap HN.out hncap (by omega) p U HT1.out ((HA.out.below HB1.out).mono HB1.out.size)
  rw [HR.out] at hps
  have HP := Lib.hid hps
  clear hps
  go_upto_region 3 with (first
    | (refine ld_set rfl _ rfl _ rfl _ HG1.out ?_)
    | (go_at_call 12; (with_reducible refine HP.out.mono ?_); rintro e w1 ⟨v8, rfl, h8, hb8⟩; obtain ⟨A8, cap8, hv8, hc8, hB8⟩ := own_bys h8; rw [HLL.out] at hv8 hc8; subst hv8; have H8 := Lib.hid h8; have HB := Lib.hid hb8; have HB8 := Lib.hid hB8; clear h8 hb8 hB8))
  clear HP
  have HGU : Hid (w1.heap[q0]? = some (.cells (cellsOf p) 33 (0, 0))) := (HB.out.block q0 (by have := HS1.out; omega)).trans HG1.out
  have HBW : Hid (Below w.heap.size w w1) := HB1.out.trans (HB.out.mono HB1.out.size)
  have HT := Lib.hid (HT1.out.on HB.out)
  have HA1 := Lib.hid (HA.out.below HBW.out)
  have hgs := getSet_any A8 (l ++ r) (n + m) cap8 HLL.out hc8 (by omega) (n : Int) (by unfold B64; omega) w1 HB8.out
  obtain ⟨p', hgp, hp'⟩ := getS_rows p l
  rw [HR.out, HN.out, HM.out] at hgp
  rw [hgp] at hgs
  unfold tupS at hgs
  simp only [cellsOf_congr hp'] at hgs
  have HG := Lib.hid hgs
  clear hgs hgp hp' p' HG1 HT1 HB1
  go_upto_region 4 with (first
    | (go_at_call 13; (with_reducible refine HG.out.mono ?_); rintro e w2 ⟨rfl, hb2⟩; have HB2 := Lib.hid hb2; clear hb2)
    | (refine st_set rfl _ _ rfl _ _ rfl rfl _ (heap_alloc_new _ _) (cellsOf_size _) ?_))
  obtain ⟨g, hg⟩ : ∃ g, w2.heap.size = g := ⟨_, rfl⟩
  have hgg : (w2.alloc (.cells (cellsOf fun _ => false) 33)).heap[w2.heap.size]? = some (.cells (cellsOf fun _ => false) 33 (0, 0)) := heap_alloc_new _ _
  have hga := setRow_heap _ _ _ (cellsOf p) _ _ hgg
  have hbo : Below w2.heap.size w2 ((w2.alloc (.cells (cellsOf fun _ => false) 33)).setRow w2.heap.size (cellsOf p)) := (((But.refl (fun b => b = w2.heap.size) w2).alloc _).row w2.heap.size _ (.inl rfl)).below (Nat.le_refl _) fun b hb h => by omega
  have hgu := (hbo.block q0 (by have := HB2.out.size; have := (Array.getElem?_eq_some_iff.1 HGU.out).1; omega)).trans ((HB2.out.block q0 (Array.getElem?_eq_some_iff.1 HGU.out).1).trans HGU.out)
  have hbb := HBW.out.trans ((HB2.out.mono HBW.out.size).trans (hbo.mono (Nat.le_trans HBW.out.size HB2.out.size)))
  have hb12 := HB2.out.trans (hbo.mono HB2.out.size)
  rw [hg] at hga hgu hbb hb12 ⊢
  clear hbo hgg hg
  generalize (w2.alloc (.cells (cellsOf fun _ => false) 33)).setRow g (cellsOf p) = V at *
  have HBV := Lib.hid hbb
  have HTV := Lib.hid (HT.out.on hb12)
  have HAV := Lib.hid (HA.out.below hbb)
  have HADD : ∀ X, (Op.stringOp .add ⟨l.toArray⟩ ⟨r.toArray⟩).run Tryd.prog X = .ok (.string ⟨(l ++ r).toArray⟩) X := str_add l r (by rw [HN.out, HM.out]; omega)
  have HS : Hid (LvS V w.heap.size A l [(.slice A8 (n + m) cap8, l ++ r)] [(q0, p), (g, p)] V.drew) := ⟨⟨⟨(Below.refl _ _).drew, HTV.out.on (Below.refl _ _).drew, fun y hy => by
      simp only [List.mem_cons, List.not_mem_nil, or_false] at hy
      subst hy
      exact own_on (own_on (own_mono H8.out (Nat.zero_le _)) hb12) (Below.refl _ _).drew⟩, HAV.out.below ((Below.refl _ _).drew), HBV.out.size⟩, fun y hy => by
      simp only [List.mem_cons, List.not_mem_nil, or_false] at hy
      rcases hy with rfl | rfl
      · exact hgu
      · exact hga⟩
  clear hga hgu hbb hb12 HG HGU HBW HT HA1 HB8 H8 HB HB2
  refine wp_region_held_drew (S := LvS V w.heap.size A l [(.slice A8 (n + m) cap8, l ++ r)] [(q0, p), (g, p)]) (by kernel_rfl) HS.out (fun _ => ?_)
  show wpAnyH _ _ _ _ _ _ _ _ _
  refine wpAnyH_take (i := 0) (v := ?_) rfl (by kernel_rfl) (by kernel_rfl) (by kernel_rfl) (fun _ _ _ h => h) (Or.inl ⟨by rfl, fun W hW => by go_simp <;> with_reducible rfl⟩) HS.out ?_
  go_simp
  refine wpAnyH_take (i := 1) (v := _) rfl (by kernel_rfl) (by kernel_rfl) (by kernel_rfl) (fun _ _ _ h => h) (yieldsIf_convR (by rfl) _ rfl (.slice A8 (n + m) cap8) ⟨(l ++ r).toArray⟩ rfl (fun X h => conv_own (h.1.1.2.2 (.slice A8 (n + m) cap8, l ++ r) List.mem_cons_self))) HS.out ?_
  go_simp
  refine wpAnyH_take (i := 2) (v := ?_) rfl (by kernel_rfl) (by kernel_rfl) (by kernel_rfl) (fun _ _ _ h => h) (Or.inl ⟨by rfl, fun W hW => by go_simp <;> with_reducible rfl⟩) HS.out ?_
  go_simp
  refine wpAnyH_take (i := 3) (v := _) rfl (by kernel_rfl) (by kernel_rfl) (by kernel_rfl) (fun _ _ _ h => h) (yieldsIf_convR (by rfl) _ rfl (.slice A n cap) ⟨l.toArray⟩ rfl (fun X h => conv_in h.1.2.1 HN.out)) HS.out ?_
  go_simp
  refine wpAnyH_take (i := 4) (v := _) rfl (by kernel_rfl) (by kernel_rfl) (by kernel_rfl) (fun _ _ _ h => h) (yieldsIf_load_set (by rfl) _ rfl q0 p rfl (fun X h => h.2 (q0, p) (by simp))) HS.out ?_
  go_simp
  refine wpAnyH_ready (rs := [5]) (by kernel_rfl) (by simp) (AllReadyH.cons rfl (fun K hK => ?_) AllReadyH.nil)
  go_simp
  refine (refSet_any p _).mono ?_
  rintro e w6 ⟨v6, rfl, h6, hb6⟩
  dsimp only
  rw [HR.out] at h6
  have HN6 : Hid (SBy w6 v6 r) := own_mono h6 (Nat.zero_le _)
  have HS' := Lib.hid (HS.out.step hb6)
  clear HS; have HS := HS'; clear HS'
  clear h6 hb6
  refine hK.out _ _ HS.out (fun _ => ?_)
  clear hK K
  refine wpAnyH_weak (S' := LvS V w.heap.size A l [(v6, r), (.slice A8 (n + m) cap8, l ++ r)] [(q0, p), (g, p)]) (fun X h => h.tail) _ _ _ _ ?_
  have HS' := Lib.hid (HS.out.cons HN6.out)
  clear HS; have HS := HS'; clear HS'
  refine wpAnyH_take (i := 6) (v := _) rfl (by kernel_rfl) (by kernel_rfl) (by kernel_rfl) (fun _ _ _ h => h) (yieldsIf_convR (by rfl) _ rfl v6 ⟨r.toArray⟩ rfl (fun X h => conv_own (h.1.1.2.2 (v6, r) List.mem_cons_self))) HS.out ?_
  go_simp
  refine wpAnyH_take (i := 7) (v := ?_) rfl (by kernel_rfl) (by kernel_rfl) (by kernel_rfl) (fun _ _ _ h => h) (Or.inl ⟨by rfl, fun W hW => by go_simp <;> with_reducible rfl⟩) HS.out ?_
  go_simp
  refine wpAnyH_take (i := 8) (v := ?_) rfl (by kernel_rfl) (by kernel_rfl) (by kernel_rfl) (fun _ _ _ h => h) (Or.inl ⟨by rfl, fun W hW => by go_simp <;> with_reducible rfl⟩) HS.out ?_
  go_simp
  refine wpAnyH_take (i := 9) (v := ?_) rfl (by kernel_rfl) (by kernel_rfl) (by kernel_rfl) (fun _ _ _ h => h) (Or.inl ⟨by rfl, fun W hW => by go_simp <;> with_reducible rfl⟩) HS.out ?_
  go_simp
  refine wpAnyH_take (i := 10) (v := ?_) rfl (by kernel_rfl) (by kernel_rfl) (by kernel_rfl) (fun _ _ _ h => h) (Or.inl ⟨by rfl, fun W hW => by go_simp <;> with_reducible rfl⟩) HS.out ?_
  go_simp
  refine wpAnyH_take (i := 11) (v := ?_) rfl (by kernel_rfl) (by kernel_rfl) (by kernel_rfl) (fun _ _ _ h => h) (Or.inl ⟨by rfl, fun W hW => by go_simp <;> with_reducible rfl⟩) HS.out ?_
  go_simp
  refine wpAnyH_take (i := 12) (v := ?_) rfl (by kernel_rfl) (by kernel_rfl) (by kernel_rfl) (fun _ _ _ h => h) (Or.inl ⟨by rfl, fun W hW => by go_simp <;> with_reducible rfl⟩) HS.out ?_
  go_simp
  refine wpAnyH_take (i := 13) (v := ?_) rfl (by kernel_rfl) (by kernel_rfl) (by kernel_rfl) (fun _ _ _ h => h) (Or.inl ⟨by rfl, fun W hW => by go_simp <;> with_reducible rfl⟩) HS.out ?_
  go_simp
  refine wpAnyH_take (i := 14) (v := _) rfl (by kernel_rfl) (by kernel_rfl) (by kernel_rfl) (fun _ _ _ h => h) (yieldsIf_load_set (by rfl) _ rfl g p rfl (fun X h => h.2 (g, p) (by simp))) HS.out ?_
  go_simp
  refine wpAnyH_take (i := 15) (v := _) rfl (by kernel_rfl) (by kernel_rfl) (by kernel_rfl) (fun _ _ _ h => h) (yieldsIf_load_set (by rfl) _ rfl q0 p rfl (fun X h => h.2 (q0, p) (by simp))) HS.out ?_
  go_simp
  refine wpAnyH_take (i := 16) (v := _) rfl (by kernel_rfl) (by kernel_rfl) (by kernel_rfl) (fun _ _ _ h => h) (yieldsIf_neqS (by rfl) _ _ _ rfl p rfl rfl) HS.out ?_
  go_simp
  refine wpAnyH_take (i := 17) (v := ?_) rfl (by kernel_rfl) (by kernel_rfl) (by kernel_rfl) (fun _ _ _ h => h) (Or.inl ⟨by rfl, fun W hW => by go_simp <;> with_reducible rfl⟩) HS.out ?_
  go_simp
  refine wpAnyH_take (i := 18) (v := ?_) rfl (by kernel_rfl) (by kernel_rfl) (by kernel_rfl) (fun _ _ _ h => h) (Or.inl ⟨by rfl, fun W hW => by go_simp <;> with_reducible rfl⟩) HS.out ?_
  go_simp
  refine wpAnyH_take (i := 19) (v := ?_) rfl (by kernel_rfl) (by kernel_rfl) (by kernel_rfl) (fun _ _ _ h => h) (Or.inl ⟨by rfl, fun W hW => by go_simp <;> with_reducible rfl⟩) HS.out ?_
  go_simp
  refine wpAnyH_take (i := 20) (v := ?_) rfl (by kernel_rfl) (by kernel_rfl) (by kernel_rfl) (fun _ _ _ h => h) (Or.inl ⟨by rfl, fun W hW => by go_simp <;> with_reducible rfl⟩) HS.out ?_
  go_simp
  refine wpAnyH_take (i := 21) (v := ?_) rfl (by kernel_rfl) (by kernel_rfl) (by kernel_rfl) (fun _ _ _ h => h) (Or.inl ⟨by rfl, fun W hW => by go_simp <;> with_reducible rfl⟩) HS.out ?_
  go_simp
  refine wpAnyH_take (i := 22) (v := ?_) rfl (by kernel_rfl) (by kernel_rfl) (by kernel_rfl) (fun _ _ _ h => h) (Or.inl ⟨by rfl, fun W hW => by go_simp <;> with_reducible rfl⟩) HS.out ?_
  go_simp
  refine wpAnyH_take (i := 23) (v := ?_) rfl (by kernel_rfl) (by kernel_rfl) (by kernel_rfl) (fun _ _ _ h => h) (Or.inl ⟨by rfl, fun W hW => by go_simp <;> with_reducible rfl⟩) HS.out ?_
  go_simp
  refine wpAnyH_done (by kernel_rfl) ?_ _
  have HS4 := HS
  clear HS
  have HBX : Hid (Below w.heap.size w w6) := HBV.out.trans (HS4.out.1.1.1.mono HBV.out.size)
  have HTX := Lib.hid HS4.out.1.1.2.1
  have HAX : Hid (BysIn w.heap.size w6 A l) := HS4.out.1.2.1
  clear HS4 HBV HTV HAV HADD HN6
  have hgs := getSet_any A l n cap HN.out hncap (by omega) 0 (by unfold B64; omega) w6 (HAX.out.mono HBX.out.size)
  match hgr : getS l 0 with
  | none =>
    rw [hgr] at hgs
    unfold tupS at hgs
    have HG := Lib.hid hgs
    clear hgs hgr
    go_upto_region 7 with (first
      | (go_at_call 13; (with_reducible refine HG.out.mono ?_); rintro e w7 ⟨rfl, hb7⟩; have HB7 := Lib.hid hb7; clear hb7)
      | (refine st_set rfl _ _ rfl _ (fun _ => false) rfl rfl _ (heap_alloc_new _ _) (cellsOf_size _) ?_))
    have hgg : (w7.alloc (.cells (cellsOf fun _ => false) 33)).heap[w7.heap.size]? = some (.cells (cellsOf fun _ => false) 33 (0, 0)) := heap_alloc_new _ _
    have hga := setRow_heap _ _ _ (cellsOf fun _ => false) _ _ hgg
    have hbo : Below w7.heap.size w7 ((w7.alloc (.cells (cellsOf fun _ => false) 33)).setRow w7.heap.size (cellsOf fun _ => false)) := (((But.refl (fun b => b = w7.heap.size) w7).alloc _).row w7.heap.size _ (.inl rfl)).below (Nat.le_refl _) fun b hb h => by omega
    have HGA := Lib.hid hga
    have HBY := Lib.hid (HBX.out.trans ((HB7.out.mono HBX.out.size).trans (hbo.mono (Nat.le_trans HBX.out.size HB7.out.size))))
    have HTY := Lib.hid (HTX.out.on (HB7.out.trans (hbo.mono HB7.out.size)))
    clear hgg hga hbo HG HB7
    generalize (w7.alloc (.cells (cellsOf fun _ => false) 33)).setRow w7.heap.size (cellsOf fun _ => false) = Y at *
    generalize w7.heap.size = g9 at *
    go_wp2_with (first
      | (refine ld_set rfl _ rfl _ rfl _ HGA.out ?_)
      | (refine eql_set rfl _ _ _ rfl (fun _ => false) (fun _ => false) rfl rfl ?_; rw [eqP_self])
      | (go_at_call 11; (with_reducible refine (lives31_any _ HTY.out).mono ?_); rintro e w8 ⟨rfl, hb8⟩; have HB8 := Lib.hid hb8; clear hb8))
    go_ret
    exact ⟨rfl, HBY.out.trans (HB8.out.mono HBY.out.size)⟩
  | some (q, jz) =>
    obtain ⟨j, rfl, hjl, htk⟩ := getS_back hgr
    rw [hgr] at hgs
    unfold tupS at hgs
    have HG := Lib.hid hgs
    have hjn : j ≤ n := by have := HN.out; omega
    have hjc : j ≤ cap := by omega
    have HLJ : Hid ((l.take j).length = j) := by show _ = _; rw [List.length_take]; omega
    obtain ⟨r2, hr2⟩ : ∃ r2, intsB (rowsOf q) = r2 := ⟨_, rfl⟩
    have HR2 := Lib.hid hr2
    rw [hr2] at htk
    have HTK := Lib.hid htk
    clear hgs hgr htk hr2 hjl
    go_upto_region 9 with (first
      | (go_at_call 13; (with_reducible refine HG.out.mono ?_); rintro e w7 ⟨rfl, hb7⟩; have HB7 := Lib.hid hb7; clear hb7)
      | (refine st_set rfl _ _ rfl _ _ rfl rfl _ (heap_alloc_new _ _) (cellsOf_size _) ?_))
    have hgg : (w7.alloc (.cells (cellsOf fun _ => false) 33)).heap[w7.heap.size]? = some (.cells (cellsOf fun _ => false) 33 (0, 0)) := heap_alloc_new _ _
    have hga := setRow_heap _ _ _ (cellsOf q) _ _ hgg
    have hbo : Below w7.heap.size w7 ((w7.alloc (.cells (cellsOf fun _ => false) 33)).setRow w7.heap.size (cellsOf q)) := (((But.refl (fun b => b = w7.heap.size) w7).alloc _).row w7.heap.size _ (.inl rfl)).below (Nat.le_refl _) fun b hb h => by omega
    have HGA := Lib.hid hga
    have HBY := Lib.hid (HBX.out.trans ((HB7.out.mono HBX.out.size).trans (hbo.mono (Nat.le_trans HBX.out.size HB7.out.size))))
    have HTY := Lib.hid (HTX.out.on (HB7.out.trans (hbo.mono HB7.out.size)))
    clear hgg hga hbo HG HB7 HTX HAX HBX
    generalize (w7.alloc (.cells (cellsOf fun _ => false) 33)).setRow w7.heap.size (cellsOf q) = Y at *
    generalize w7.heap.size = g9 at *
    have HS : Hid (LvS Y w.heap.size A l [] [(g9, q)] Y.drew) := ⟨⟨⟨(Below.refl _ _).drew, HTY.out.on (Below.refl _ _).drew, fun y hy => by cases hy⟩, (HA.out.below HBY.out).below ((Below.refl _ _).drew), HBY.out.size⟩, fun y hy => by
      simp only [List.mem_cons, List.not_mem_nil, or_false] at hy
      subst hy
      exact HGA.out⟩
    refine wp_region_held_drew (S := LvS Y w.heap.size A l [] [(g9, q)]) (by kernel_rfl) HS.out (fun _ => ?_)
    show wpAnyH _ _ _ _ _ _ _ _ _
    refine wpAnyH_take (i := 0) (v := ?_) rfl (by kernel_rfl) (by kernel_rfl) (by kernel_rfl) (fun _ _ _ h => h) (Or.inl ⟨by rfl, fun W hW => by go_simp <;> with_reducible rfl⟩) HS.out ?_
    go_simp
    refine wpAnyH_take (i := 1) (v := ?_) rfl (by kernel_rfl) (by kernel_rfl) (by kernel_rfl) (fun _ _ _ h => h) (Or.inl ⟨by rfl, fun W hW => by go_simp <;> with_reducible rfl⟩) HS.out ?_
    go_simp
    refine wpAnyH_take (i := 2) (v := ?_) rfl (by kernel_rfl) (by kernel_rfl) (by kernel_rfl) (fun _ _ _ h => h) (Or.inl ⟨by rfl, fun W hW => by go_simp <;> with_reducible rfl⟩) HS.out ?_
    go_simp
    refine wpAnyH_take (i := 3) (v := ?_) rfl (by kernel_rfl) (by kernel_rfl) (by kernel_rfl) (fun _ _ _ h => h) (Or.inl ⟨by rfl, fun W hW => by go_simp <;> with_reducible rfl⟩) HS.out ?_
    go_simp
    refine wpAnyH_take (i := 4) (v := ?_) rfl (by kernel_rfl) (by kernel_rfl) (by kernel_rfl) (fun _ _ _ h => h) (Or.inl ⟨by rfl, fun W hW => by go_simp <;> with_reducible rfl⟩) HS.out ?_
    go_simp
    refine wpAnyH_take (i := 5) (v := _) rfl (by kernel_rfl) (by kernel_rfl) (by kernel_rfl) (fun _ _ _ h => h) (yieldsIf_load_set (by rfl) _ rfl g9 q rfl (fun X h => h.2 (g9, q) (by simp))) HS.out ?_
    go_simp
    refine wpAnyH_take (i := 8) (v := ?_) rfl (by kernel_rfl) (by kernel_rfl) (by kernel_rfl) (fun _ _ _ h => h) (Or.inl ⟨by rfl, fun W hW => by go_simp <;> with_reducible rfl⟩) HS.out ?_
    go_simp
    refine wpAnyH_take (i := 9) (v := ?_) rfl (by kernel_rfl) (by kernel_rfl) (by kernel_rfl) (fun _ _ _ h => h) (Or.inl ⟨by rfl, fun W hW => by go_simp <;> with_reducible rfl⟩) HS.out ?_
    go_simp
    refine wpAnyH_take (i := 10) (v := ?_) rfl (by kernel_rfl) (by kernel_rfl) (by kernel_rfl) (fun _ _ _ h => h) (Or.inl ⟨by rfl, fun W hW => by go_simp <;> with_reducible rfl⟩) HS.out ?_
    go_simp
    refine wpAnyH_take (i := 11) (v := _) rfl (by kernel_rfl) (by kernel_rfl) (by kernel_rfl) (fun _ _ _ h => h) (yieldsIf_convR (by rfl) _ rfl (.slice A j cap) ⟨r2.toArray⟩ rfl (fun X h => by rw [← HTK.out]; exact conv_in (h.1.2.1.take j) HLJ.out)) HS.out ?_
    go_simp
    refine wpAnyH_ready (rs := [6]) (by kernel_rfl) (by simp) (AllReadyH.cons rfl (fun K hK => ?_) AllReadyH.nil)
    go_simp
    refine (refSet_any q _).mono ?_
    rintro e w8 ⟨v8', rfl, h8, hb8⟩
    dsimp only
    rw [HR2.out] at h8
    have HN8 : Hid (SBy w8 v8' r2) := own_mono h8 (Nat.zero_le _)
    have HS' := Lib.hid (HS.out.step hb8)
    clear HS; have HS := HS'; clear HS'
    clear h8 hb8
    refine hK.out _ _ HS.out (fun _ => ?_)
    clear hK K
    refine wpAnyH_weak (S' := LvS Y w.heap.size A l [(v8', r2)] [(g9, q)]) (fun X h => h.tail) _ _ _ _ ?_
    have HS' := Lib.hid (HS.out.cons HN8.out)
    clear HS; have HS := HS'; clear HS'
    refine wpAnyH_take (i := 7) (v := _) rfl (by kernel_rfl) (by kernel_rfl) (by kernel_rfl) (fun _ _ _ h => h) (yieldsIf_convR (by rfl) _ rfl v8' ⟨r2.toArray⟩ rfl (fun X h => conv_own (h.1.1.2.2 (v8', r2) List.mem_cons_self))) HS.out ?_
    go_simp
    refine wpAnyH_take (i := 12) (v := ?_) rfl (by kernel_rfl) (by kernel_rfl) (by kernel_rfl) (fun _ _ _ h => h) (Or.inl ⟨by rfl, fun W hW => by go_simp <;> with_reducible rfl⟩) HS.out ?_
    go_simp
    refine wpAnyH_take (i := 13) (v := ?_) rfl (by kernel_rfl) (by kernel_rfl) (by kernel_rfl) (fun _ _ _ h => h) (Or.inl ⟨by rfl, fun W hW => by go_simp <;> with_reducible rfl⟩) HS.out ?_
    go_simp
    refine wpAnyH_take (i := 14) (v := ?_) rfl (by kernel_rfl) (by kernel_rfl) (by kernel_rfl) (fun _ _ _ h => h) (Or.inl ⟨by rfl, fun W hW => by go_simp <;> with_reducible rfl⟩) HS.out ?_
    go_simp
    refine wpAnyH_ready (rs := [15]) (by kernel_rfl) (by simp) (AllReadyH.cons rfl (fun K hK => ?_) AllReadyH.nil)
    go_simp
    refine (lives31_any _ HS.out.1.1.2.1).mono ?_
    rintro e we ⟨rfl, hbe⟩
    dsimp only
    have HS' := Lib.hid (HS.out.step hbe)
    clear HS; have HS := HS'; clear HS'
    clear hbe
    refine hK.out _ _ HS.out (fun _ => ?_)
    clear hK K
    refine wpAnyH_take (i := 16) (v := ?_) rfl (by kernel_rfl) (by kernel_rfl) (by kernel_rfl) (fun _ _ _ h => h) (Or.inl ⟨by rfl, fun W hW => by go_simp <;> with_reducible rfl⟩) HS.out ?_
    go_simp
    refine wpAnyH_take (i := 17) (v := ?_) rfl (by kernel_rfl) (by kernel_rfl) (by kernel_rfl) (fun _ _ _ h => h) (Or.inl ⟨by rfl, fun W hW => by go_simp <;> with_reducible rfl⟩) HS.out ?_
    go_simp
    refine wpAnyH_done (by kernel_rfl) ?_ _
    go_wp2_with fail
    go_ret
    exact ⟨rfl, HBY.out.trans (HS.out.1.1.1.mono HBY.out.size)⟩

end Go.Proofs.YtchhenpijbecaaaDoor
