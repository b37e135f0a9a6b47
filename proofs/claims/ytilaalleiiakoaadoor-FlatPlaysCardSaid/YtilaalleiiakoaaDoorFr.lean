/- The frame of a law's row: what the arguments read as, behind a call that leaves older memory alone. -/
import Derived.Test.YtilaalleiiakoaaDoorRows
import Derived.ProofKit
import Derived.OpenShut
import Derived.Deep.DeepHandedRow
import Derived.Lib.LaidTab
import Derived.Test.YtilaalleiiakoaaDoorCk
import Derived.Test.YtilaalleiiakoaaDoorEp
namespace Go.Proofs.YtilaalleiiakoaaDoor
open Go.ChangeShapes Go.WideShapes Go.ChangeAt Go.RowKit

section
variable {H : Type} {enc : TypeId × Value → H} {P : Program}
theorem trodAll_on (hl : laidOutB P = true) {W W' : World} (hb : Below W.heap.size W W') {sp : Nat → Bool} : ∀ {ts : List TypeId} {vs : List Value} {ds : List (DataW H)} {ps : List MemPlace},
    (∀ t ∈ ts, P.readableRec t = true ∧ t < P.types.size) → (∀ x ∈ ps, x.block < W.heap.size) → (∀ x ∈ ps, sp x.block = true) →
    DataW.TrodAll enc P W 0 (fun _ => true) true ts vs ds ps → DataW.TrodAll enc P W' 0 sp true ts vs ds ps
  | [], _, _, _, _, _, _, h => by
    obtain ⟨rfl, rfl, rfl⟩ := trodAll_nil h
    exact trodAll_mk0
  | t :: ts, _, _, _, hok, hlt, hsp, h => by
    obtain ⟨v, vs', d, ds', p, q, rfl, rfl, rfl, h0, h1⟩ := trodAll_cons h
    obtain ⟨ha, hc⟩ := hok t (by simp)
    refine trodAll_cons_mk (WideElems.Trod_stays hl ha hc h0 (fun x hx => hb.same (hlt x (by simp [hx]))) (fun x hx => hsp x (by simp [hx]))) ?_
    exact trodAll_on hl hb (fun u hu => hok u (by simp [hu])) (fun x hx => hlt x (by simp [hx])) (fun x hx => hsp x (by simp [hx])) h1
/-- The row's last step: the law answered true, and what was there stays. -/
theorem law_post {f : Func} {s : ChangeSpec} {W W' : World} {args : Array Value} {ds gs : List (DataW H)} {before : List MemPlace} {tb : TypeId}
    (hl : laidOutB P = true) (hW : DataW.Whole enc P f.params.toList s.vars false W args.toList ds gs before) (hv : s.vars = [])
    (hfn : s.fn H (ds ++ gs) = { results := [.lit (.bool true)], args := ds }) (hrt : f.resultTypes = #[tb]) (htb : P.underlying tb = some .bool)
    (hok : ∀ t ∈ f.params.toList, P.readableRec t = true ∧ t < P.types.size) (hb : Below W.heap.size W W') :
    s.post enc P f false true false false W args (.bool true) W' := by
  have hW0 := hW
  have hlt : ∀ p ∈ before, p.block < W.heap.size := fun p hp => hW0.lt p hp
  obtain ⟨pa, pv, hA, hV, rfl, hz, hn⟩ := hW
  rw [hv] at hV
  obtain ⟨rfl, rfl⟩ := trodVars_none hV
  have hargs : ∀ sp : Nat → Bool, (∀ p ∈ pa ++ [], sp p.block = true) → DataW.TrodAll enc P W' 0 sp true f.params.toList args.toList ds pa := fun sp h =>
    trodAll_on hl hb hok (fun x hx => hlt x (by simp [hx])) (fun x hx => h x (by simp [hx])) hA
  have hres : ∀ (b : Nat) (sp : Nat → Bool) (hd : Bool), DataW.TrodAll enc P W' b sp hd f.resultTypes.toList ((Value.bool true).resultList f.resultTypes.size) [.lit (.bool true)] [] := fun b sp hd => by
    rw [hrt]; exact trodAll_cons_mk (shut_bool htb _) trodAll_mk0
  refine ⟨ds, [], pa ++ [], [], pa, [], hW0, ?_, ?_, ?_, World.keptBut_mono (fun p hp => ⟨hp, Or.inr (by simpa using hp)⟩) (hb.frame (· ∈ pa ++ [])), fun h => by cases h⟩
  · rw [hfn]; exact hres _ _ _
  · rw [hfn]; exact hargs _ (fun p hp => by simpa using hlt p hp)
  · rw [hv, hfn]; rfl
end


open Go.ChangeShapes Go.WideShapes Go.ChangeAt Go.RowKit

theorem met_tail {P : Program} {x : String × DataW Unit} {l : List (String × DataW Unit)} {W : World} (h : laidMet P (x :: l) W) : laidMet P l W := by
  obtain ⟨ps, hL, hn, hc⟩ := h
  obtain ⟨g, t, cs, fuel, p, q, hg, ht, hvar, hd, hr, rfl⟩ := hL
  exact ⟨q, hr, (List.nodup_append.1 hn).2.1, fun b off hx => hc b off (by simp [hx])⟩
theorem met_head {P : Program} {n : String} {d : DataW Unit} {l : List (String × DataW Unit)} {W : World} (h : laidMet P ((n, d) :: l) W) : ∃ (g : Nat) (t : TypeId) (cs : Array Value) (fuel : Nat) (p : List MemPlace) (enc : TypeId × Value → Unit), P.globalNamed n = some g ∧ (P.globals[g]?).map (·.type) = some t ∧ W.var? P n = some cs ∧ DataW.trod enc P W 0 (fun _ => true) false fuel t cs.toList = some (d, p) := by
  obtain ⟨ps, hL, hn, hc⟩ := h
  obtain ⟨g, t, cs, fuel, p, q, hg, ht, hvar, hd, hr, rfl⟩ := hL
  exact ⟨g, t, cs, fuel, p, _, hg, ht, hvar, hd⟩
theorem strs_of {enc : TypeId × Value → Unit} {P : Program} {W : World} {fuel : Nat} {t e : TypeId} {n : Nat} {cs : List Value} {zs : List (List UInt8)} {p : List MemPlace}
    (ht : P.underlying t = some (.array n e)) (he : P.underlying e = some .string) (hce : P.cellsOf e = 1)
    (h : DataW.trod enc P W 0 (fun _ => true) false fuel t cs = some (.agg (zs.map fun z : List UInt8 => (DataW.lit (Lit.string z) : DataW Unit)), p)) : ∀ (k : Nat) (z : List UInt8), zs[k]? = some z → cs[k]? = some (.string ⟨z.toArray⟩) := by
  obtain ⟨xs, m, _, hx, hcl, hxl, hi⟩ := DataW.trod_array ht h
  have hxs := congrArg Prod.fst hx
  simp only [DataW.agg.injEq] at hxs
  intro k z hz
  have hk : k < zs.length := (List.getElem?_eq_some_iff.1 hz).1
  have hkn : k < n := by have := congrArg List.length hxs; simp at this; omega
  have h1 := hi k hkn
  have hkx : k < xs.length := by omega
  rw [List.getElem?_eq_getElem hkx, hce, Nat.mul_one] at h1
  obtain ⟨s, e1, e2, _⟩ := DataW.trod_string he h1
  have h2 : (xs.map (·.1))[k]? = some (DataW.lit (Lit.string s.data.toList)) := by rw [List.getElem?_map, List.getElem?_eq_getElem hkx, e2]; rfl
  rw [← hxs, List.getElem?_map, hz] at h2
  have h3 : z = s.data.toList := by simpa using h2
  have h4 := congrArg (·[0]?) e1
  simp only [List.getElem?_take, List.getElem?_drop, Nat.add_zero] at h4
  rw [h3]
  simpa using h4
theorem tabs_of_laid {W : World} (h : laidMetH Tryd.prog Rows.flatKeepsRow.laid W) : Tabs W := by
  have m0 : laidMet Tryd.prog Rows.flatKeepsRow.laid W := h
  have m1 := met_tail m0
  have hgN : Tryd.prog.globalNamed "pinfold/prog.names" = some 1 := by kernel_rfl
  have hgR : Tryd.prog.globalNamed "pinfold/exec.refused" = some 0 := by kernel_rfl
  have htN : (Tryd.prog.globals[1]?).map (·.type) = some 107 := by kernel_rfl
  have htR : (Tryd.prog.globals[0]?).map (·.type) = some 61 := by kernel_rfl
  have here : ∀ {n : String} {g : Nat} {cs : Array Value}, Tryd.prog.globalNamed n = some g → W.var? Tryd.prog n = some cs → g < W.heap.size := fun {n g cs} hg hv => by
    unfold World.var? at hv
    rw [hg, Option.bind_some] at hv
    by_cases h3 : g < W.heap.size
    · exact h3
    · rw [Array.getElem?_eq_none (by omega)] at hv; cases hv
  obtain ⟨g, t, cs, fuel, p, enc, hg, ht, hvar, hd⟩ := met_head m0
  obtain rfl := Option.some.inj (hgN.symm.trans hg)
  obtain rfl := Option.some.inj (htN.symm.trans ht)
  obtain ⟨g', t', cs', fuel', p', enc', hg', ht', hvar', hd'⟩ := met_head m1
  obtain rfl := Option.some.inj (hgR.symm.trans hg')
  obtain rfl := Option.some.inj (htR.symm.trans ht')
  obtain ⟨xs, m, _, hx, _, hxl, hh⟩ := DataW.trod_struct Tryd.underlying61 hd'
  have g0 := hh 0 ⟨"Op", 3, 0, false, "", "", 0⟩ rfl
  have g1 := hh 1 ⟨"Reg", 3, 1, false, "", "", 8⟩ rfl
  have g2 := hh 2 ⟨"N", 21, 2, false, "", "", 16⟩ rfl
  dsimp only at g0 g1 g2
  rw [show Tryd.prog.cellsOf 3 = 1 by kernel_rfl] at g0 g1
  rw [show Tryd.prog.cellsOf 21 = 1 by kernel_rfl] at g2
  have l3 : xs.length = 3 := hxl
  have hxs := congrArg Prod.fst hx
  unfold Rows.laid_pinfold_exec_refused at hxs
  simp only [DataW.agg.injEq] at hxs
  rw [List.getElem?_eq_getElem (by omega)] at g0 g1 g2
  obtain ⟨n0, e0, q0, _⟩ := DataW.trod_int Tryd.underlying3 g0
  obtain ⟨n1, e1, q1, _⟩ := DataW.trod_int Tryd.underlying3 g1
  obtain ⟨n2, e2, q2, _⟩ := DataW.trod_int Tryd.underlying21 g2
  have one : ∀ {i : Nat} {v : Value}, (cs'.toList.drop i).take 1 = [v] → cs'[i]? = some v := fun {i v} e => by
    have := congrArg (·[0]?) e
    simpa using this
  have hval : ∀ i (hi : i < xs.length), [DataW.lit (Lit.int .i64 14), .lit (.int .i64 0), .lit (.int .i32 (-1))][i]? = some (xs[i]'hi).1 := fun i hi => by
    rw [show ([DataW.lit (Lit.int .i64 14), .lit (.int .i64 0), .lit (.int .i32 (-1))] : List (DataW Unit)) = xs.map (·.1) from hxs]
    rw [List.getElem?_map, List.getElem?_eq_getElem hi]; rfl
  have v0 := hval 0 (by omega); have v1 := hval 1 (by omega); have v2 := hval 2 (by omega)
  rw [q0] at v0; rw [q1] at v1; rw [q2] at v2
  simp only [List.getElem?_cons_zero, List.getElem?_cons_succ, Option.some.injEq, DataW.lit.injEq, Lit.int.injEq, true_and] at v0 v1 v2
  subst v0; subst v1; subst v2
  refine ⟨fun k hk => ?_, ?_, ?_, ?_, here hgN hvar, here hgR hvar'⟩
  · have hz := strs_of (zs := (List.range 15).map nmL) Tryd.underlying107 Tryd.underlying9 (by kernel_rfl) hd k (nmL k) (by rw [List.getElem?_map, List.getElem?_range hk]; rfl)
    have := World.var?_cell hgN hvar k
    rw [this]; simpa using hz
  · rw [World.var?_cell hgR hvar' 0]; exact one e0
  · rw [World.var?_cell hgR hvar' 1]; exact one e1
  · rw [World.var?_cell hgR hvar' 2]; exact one e2
set_option maxRecDepth 100000 in
/-- A program's two cells. -/
theorem prog_cells {H : Type} {enc : TypeId × Value → H} {w : World} {base fuel : Nat} {spare : Nat → Bool} {held : Bool} {c0 v1 : Value} {d : DataW H} {ps : List MemPlace}
    (hf : DataW.trod enc Tryd.prog w base spare held fuel 53 [c0, v1] = some (d, ps)) : ∃ prio A l cap, In64 prio ∧ [c0, v1] = [.int .i64 prio, .slice A l.length cap] ∧ l.length ≤ cap ∧ InsIn w A l := by
  obtain ⟨xs, m, _, _, _, hxl, hg⟩ := DataW.trod_struct Tryd.underlying53 hf
  have h0 := hg 0 ⟨"Prio", 3, 0, false, "", "", 0⟩ rfl
  have h1 := hg 1 ⟨"Code", 51, 1, false, "", "", 8⟩ rfl
  dsimp only at h0 h1
  rw [show Tryd.prog.cellsOf 3 = 1 by kernel_rfl] at h0
  rw [show Tryd.prog.cellsOf 51 = 1 by kernel_rfl] at h1
  have hx2 : xs.length = 2 := hxl
  rw [List.getElem?_eq_getElem (by omega)] at h0 h1
  obtain ⟨n0, e0, _, wf0⟩ := DataW.trod_int Tryd.underlying3 h0
  have hin : In64 n0 := by simpa [In64, Lit.wf, IntKind.min, IntKind.max, IntKind.signed, IntKind.bits] using wf0
  obtain rfl : c0 = .int .i64 n0 := by simpa using e0
  simp only [List.drop_succ_cons, List.drop_zero, List.take_succ_cons, List.take_zero] at h1
  rcases DataW.trod_slice Tryd.underlying51 h1 with ⟨e1, _⟩ | ⟨a, len, cap, elems, rest, n, _, e1, _, _, hl, _, hel, hcell, _, _⟩
  · obtain rfl : v1 = .slice none 0 0 := by simpa using e1
    exact ⟨n0, none, [], 0, hin, rfl, Nat.le_refl _, fun i x hx => by simp at hx⟩
  · obtain rfl : v1 = .slice (some a) len cap := by simpa using e1
    have hC : Tryd.prog.cellsOf 59 = 4 := by kernel_rfl
    rw [hC] at hcell
    have one : ∀ i, i < len → ∃ x : I4, Fits x ∧ ∀ (j : Nat) u, ([Value.int .i64 x.op, .int .i64 x.a, .int .i64 x.b, .int .i32 x.n])[j]? = some u → w.cell? ((a.add (i * 4)).add j) = some u := by
      intro i hi
      have q := hcell i hi
      rw [List.getElem?_eq_getElem (by omega)] at q
      obtain ⟨cs', hcs', ht⟩ := Option.bind_eq_some_iff.1 q
      obtain ⟨_, hcl, hat⟩ := World.cells?_some hcs'
      obtain ⟨ys, n', _, _, _, hyl, hh⟩ := DataW.trod_struct Tryd.underlying59 ht
      have g0 := hh 0 ⟨"Op", 3, 0, false, "", "", 0⟩ rfl
      have g1 := hh 1 ⟨"A", 3, 1, false, "", "", 8⟩ rfl
      have g2 := hh 2 ⟨"B", 3, 2, false, "", "", 16⟩ rfl
      have g3 := hh 3 ⟨"N", 21, 3, false, "", "", 24⟩ rfl
      dsimp only at g0 g1 g2 g3
      rw [show Tryd.prog.cellsOf 3 = 1 by kernel_rfl] at g0 g1 g2
      rw [show Tryd.prog.cellsOf 21 = 1 by kernel_rfl] at g3
      have l4 : ys.length = 4 := hyl
      rw [List.getElem?_eq_getElem (by omega)] at g0 g1 g2 g3
      match cs', hcl with
      | [u0, u1, u2, u3], _ =>
        simp only [List.drop_zero, List.drop_succ_cons, List.take_succ_cons, List.take_zero] at g0 g1 g2 g3
        obtain ⟨m0, q0, _, w0⟩ := DataW.trod_int Tryd.underlying3 g0
        obtain ⟨m1, q1, _, w1⟩ := DataW.trod_int Tryd.underlying3 g1
        obtain ⟨m2, q2, _, w2⟩ := DataW.trod_int Tryd.underlying3 g2
        obtain ⟨m3, q3, _, w3⟩ := DataW.trod_int Tryd.underlying21 g3
        cases q0; cases q1; cases q2; cases q3
        refine ⟨⟨m0, m1, m2, m3⟩, ⟨?_, ?_, ?_, ?_⟩, fun j u hj => ?_⟩
        · simpa [In64, Lit.wf, IntKind.min, IntKind.max, IntKind.signed, IntKind.bits] using w0
        · simpa [In64, Lit.wf, IntKind.min, IntKind.max, IntKind.signed, IntKind.bits] using w1
        · simpa [In64, Lit.wf, IntKind.min, IntKind.max, IntKind.signed, IntKind.bits] using w2
        · simpa [Lit.wf, IntKind.min, IntKind.max, IntKind.signed, IntKind.bits] using w3
        · have hj4 : j < 4 := (List.getElem?_eq_some_iff.1 hj).1
          rw [hat j hj4]; exact hj
    have one' : ∀ i, ∃ x : I4, i < len → Fits x ∧ ∀ (j : Nat) u, ([Value.int .i64 x.op, .int .i64 x.a, .int .i64 x.b, .int .i32 x.n])[j]? = some u → w.cell? ((a.add (i * 4)).add j) = some u := fun i => by
      by_cases hi : i < len
      · obtain ⟨x, hx⟩ := one i hi
        exact ⟨x, fun _ => hx⟩
      · exact ⟨I4.zero, fun h => absurd h hi⟩
    obtain ⟨F, hF⟩ := Classical.axiomOfChoice one'
    refine ⟨n0, some a, (List.range len).map F, cap, hin, by simp, by simpa using hl, fun i x hx => ?_⟩
    have hi : i < len := by have := (List.getElem?_eq_some_iff.1 hx).1; simpa using this
    obtain rfl : F i = x := by
      rw [List.getElem?_map, List.getElem?_range hi] at hx; simpa using hx
    obtain ⟨hfit, hcl⟩ := hF i hi
    have hadd : ∀ (b off j : Nat), (⟨b, off, none⟩ : Addr).add j = ⟨b, off + j, none⟩ := fun b off j => by unfold Addr.add; split <;> simp_all
    have ha0 : ∀ x : Addr, x.add 0 = x := fun x => by unfold Addr.add; rw [if_pos rfl]
    have key : ∀ x : Addr, ∀ u, w.cell? x = some u → x.spot = none ∧ x.block < w.heap.size := by
      intro x u hx
      unfold World.cell? at hx
      by_cases hb : x.block < w.heap.size
      · refine ⟨?_, hb⟩
        cases hs : x.spot with
        | none => rfl
        | some y => rw [hs] at hx; split at hx <;> simp at hx
      · rw [Array.getElem?_eq_none (by omega)] at hx; cases hx
    have k0 : a.spot = none ∧ a.block < w.heap.size := by
      have z := (hF 0 (by omega)).2 0 _ rfl
      rw [Nat.zero_mul, ha0, ha0] at z
      exact key _ _ z
    obtain ⟨b, off, spot⟩ := a
    obtain ⟨k1, k2⟩ := k0
    simp only at k1 k2
    subst k1
    refine ⟨hfit, b, off, rfl, k2, ?_, ?_, ?_, ?_⟩
    · have := hcl 0 _ rfl; rw [hadd, ha0] at this; exact this
    · have := hcl 1 _ rfl; rw [hadd, hadd] at this; exact this
    · have := hcl 2 _ rfl; rw [hadd, hadd] at this; exact this
    · have := hcl 3 _ rfl; rw [hadd, hadd] at this; exact this
set_option maxRecDepth 100000 in
/-- A program among the arguments. -/
theorem open_prog2 {H : Type} {enc : TypeId × Value → H} {w : World} {base b0 : Nat} {spare : Nat → Bool} {held : Bool} {r : Reach} {v : Value} {d : DataW H} {ps : List MemPlace}
    (hv : Value.okWide Tryd.prog w r b0 53 v) (h : DataW.Trod enc Tryd.prog w base spare held 53 v d ps) : ∃ prio A l cap, In64 prio ∧ v = .agg #[.int .i64 prio, .slice A l.length cap] ∧ l.length ≤ cap ∧ InsIn w A l := by
  have hc : Tryd.prog.cellsOf 53 = 2 := by kernel_rfl
  unfold Value.okWide at hv
  rw [Tryd.underlying53] at hv
  obtain ⟨cs, rfl, hs, _⟩ := hv
  rw [hc] at hs
  obtain ⟨fuel, hf⟩ := h
  obtain ⟨c0, v1, rfl⟩ : ∃ a b, cs = #[a, b] := by
    obtain ⟨l⟩ := cs
    match l, hs with
    | [a, b], _ => exact ⟨a, b, rfl⟩
  obtain ⟨prio, A, l, cap, h1, h2, h3, h4⟩ := prog_cells (by simpa [Value.cells] using hf)
  obtain ⟨rfl, rfl⟩ : c0 = .int .i64 prio ∧ v1 = .slice A l.length cap := by simpa using h2
  exact ⟨prio, A, l, cap, h1, rfl, h3, h4⟩
set_option maxRecDepth 100000 in
/-- A task's registers among the arguments. -/
theorem open_regs {H : Type} {enc : TypeId × Value → H} {w : World} {base b0 : Nat} {spare : Nat → Bool} {held : Bool} {r : Reach} {v : Value} {d : DataW H} {ps : List MemPlace}
    (hv : Value.okWide Tryd.prog w r b0 43 v) (h : DataW.Trod enc Tryd.prog w base spare held 43 v d ps) : ∃ q : R4, q.Ok ∧ v = regV q := by
  have hc : Tryd.prog.cellsOf 43 = 4 := by kernel_rfl
  unfold Value.okWide at hv
  rw [Tryd.underlying43] at hv
  obtain ⟨cs, rfl, hs, _⟩ := hv
  rw [hc] at hs
  obtain ⟨fuel, hf⟩ := h
  obtain ⟨c0, c1, c2, c3, rfl⟩ : ∃ a b c d, cs = #[a, b, c, d] := by
    obtain ⟨l⟩ := cs
    match l, hs with
    | [a, b, c, d], _ => exact ⟨a, b, c, d, rfl⟩
  obtain ⟨xs, m, _, _, _, hxl, hi⟩ := DataW.trod_array Tryd.underlying43 hf
  have g0 := hi 0 (by omega)
  have g1 := hi 1 (by omega)
  have g2 := hi 2 (by omega)
  have g3 := hi 3 (by omega)
  rw [show Tryd.prog.cellsOf 21 = 1 by kernel_rfl] at g0 g1 g2 g3
  rw [List.getElem?_eq_getElem (by omega)] at g0 g1 g2 g3
  obtain ⟨n0, e0, _, f0⟩ := DataW.trod_int Tryd.underlying21 g0
  obtain ⟨n1, e1, _, f1⟩ := DataW.trod_int Tryd.underlying21 g1
  obtain ⟨n2, e2, _, f2⟩ := DataW.trod_int Tryd.underlying21 g2
  obtain ⟨n3, e3, _, f3⟩ := DataW.trod_int Tryd.underlying21 g3
  simp only [Value.cells, Nat.mul_one, List.drop_zero, List.drop_succ_cons, List.take_succ_cons, List.take_zero, List.cons.injEq, and_true] at e0 e1 e2 e3
  subst e0; subst e1; subst e2; subst e3
  refine ⟨⟨n0, n1, n2, n3⟩, ⟨?_, ?_, ?_, ?_⟩, rfl⟩
  · simpa [In32, Lit.wf, IntKind.min, IntKind.max, IntKind.signed, IntKind.bits] using f0
  · simpa [In32, Lit.wf, IntKind.min, IntKind.max, IntKind.signed, IntKind.bits] using f1
  · simpa [In32, Lit.wf, IntKind.min, IntKind.max, IntKind.signed, IntKind.bits] using f2
  · simpa [In32, Lit.wf, IntKind.min, IntKind.max, IntKind.signed, IntKind.bits] using f3
end Go.Proofs.YtilaalleiiakoaaDoor
